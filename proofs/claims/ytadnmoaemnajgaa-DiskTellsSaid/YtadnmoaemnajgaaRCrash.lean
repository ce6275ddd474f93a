/- The reference's Crash. -/
import Derived.Test.YtadnmoaemnajgaaRPlain
namespace Go.Proofs.Ytadnmoaemnajgaa
open Go.RowKit Go.Maps Go.ChangeMaps Go.MapKept
open Dp
attribute [local go_sem ↓] Go.wp_at_zero Go.wp_at_succ
section
variable {w : World} {lab : Nat → Nat} {id r : Nat} {R : Rf} {L : RLoc}
theorem rcrash_down (h : RIn w lab id r R L) (v : Value) (hd : R.down = true) : Calls Try.prog 36 #[.pointer (some ⟨r, 0, none⟩), v] w fun e w' => e = .returned (.tuple #[]) ∧ w = w' := by
  have c3 := h.c 3
  simp only [List.getElem?_toArray, List.getElem?_cons_zero, List.getElem?_cons_succ] at c3
  rw [hd] at c3
  clear h hd
  go_enter Try.func36, Try.ntmps36
  go_wp2
  (try simp only [Exit.inBlock, Exit.then])
  refine bodyPost_ret (results_none rfl _ _ _) rfl ?_
  exact ⟨rfl, rfl⟩
theorem tmod2 (z : Int) : z.tmod 2 ≠ 0 ↔ z % 2 = 1 := by
  constructor
  · intro h
    by_cases h2 : z % 2 = 0
    · exact absurd (Int.tmod_eq_zero_of_dvd (show (2 : Int) ∣ z by omega)) h
    · omega
  · intro h h2
    have := Int.dvd_of_tmod_eq_zero h2
    omega
/-- While sectors survive. -/
def RHardInv (lab : Nat → Nat) (id r : Nat) (R : Rf) (L : RLoc) (w : World) (ps : List (Nat × Nat)) (wr : World) : Prop :=
  ∃ lab' L', RIn wr lab' id r (R.hardens ps) L' ∧ L'.kv = L.kv ∧ Chg id lab lab' w wr
set_option maxHeartbeats 4000000 in
set_option maxRecDepth 100000 in
theorem rcrash_up (h : RIn w lab id r R L) (v : Value) (ks : List Int) (hk : KeepR w lab id R L v ks) (hl : ks.length ≤ 140737488355327) (hd : R.down = false) (hin : ∀ p ∈ R.queue, 64 * p.2 < (R.now p.1).length) :
    Calls Try.prog 36 #[.pointer (some ⟨r, 0, none⟩), v] w (RPost lab id r (.tuple #[]) (R.crash ks) w) := by
  have c3 := h.c 3
  have c4 := h.c 4
  simp only [List.getElem?_toArray, List.getElem?_cons_zero, List.getElem?_cons_succ] at c3 c4
  rw [hd] at c3
  have f3 := h.fz 3
  have f4 := h.fz 4
  obtain ⟨h1, k1⟩ := h.setField (i := 3) (v := .bool true) (R' := { R with down := true }) (Hp.refl _) ⟨h.ok.nums, h.ok.file, h.ok.queue, h.ok.few, h.ok.lost, h.ok.armed, h.ok.keep, h.ok.size⟩ rfl rfl rfl (by simp)
  obtain ⟨h2, k2⟩ := h1.setField (i := 4) (v := .int .i64 0) (R' := { R with down := true, armed := 0 }) (Hp.refl _) ⟨h.ok.nums, h.ok.file, h.ok.queue, h.ok.few, h.ok.lost, by simp, h.ok.keep, h.ok.size⟩ rfl rfl rfl (by simp)
  obtain ⟨va, vc, rfl⟩ : ∃ va vc, v = .slice va ks.length vc := by
    rcases hk.1.2 with ⟨rfl, h0⟩ | ⟨ad, cap, rfl, _⟩
    · exact ⟨none, 0, by rw [h0]⟩
    · exact ⟨_, _, rfl⟩
  have HK := Lib.hid hk
  have hn : R.queue.length ≤ 4194304 := queue_len h.ok.queue h.ok.few
  have H2 := Lib.hid h2
  have K2 := Lib.hid (k1.trans k2)
  have HI := Lib.hid hin
  have HFEW := Lib.hid h.ok.few
  obtain ⟨R0, hR0⟩ : ∃ R0 : Rf, R0 = { R with down := true, armed := 0 } := ⟨_, rfl⟩
  rw [← hR0] at H2
  have HR0 := Lib.hid hR0
  have HCR := Lib.hid (show R.crash ks = { R0.hardens (survive ks 0 R.queue) with files := fallen (R0.hardens (survive ks 0 R.queue)).files, queue := [] } by
    rw [hR0, hardens_flags]
    unfold Rf.crash
    rw [hd]
    rfl)
  clear h hk hd hin h1 k1 h2 k2 hR0
  go_enter Try.func36, Try.ntmps36
  go_wp2
  go_loopw [4] (fun i wr => ∃ k : Nat, k ≤ R.queue.length ∧ i = .int .i64 (k : Int) ∧ RHardInv lab id r R0 L w (survive ks 0 (R.queue.take k)) wr) (fun i _ => R.queue.length - (intOf i).toNat)
  case atStart => exact ⟨0, Nat.zero_le _, rfl, lab, L, H2.out, rfl, K2.out⟩
  case round =>
    obtain ⟨k, hkl, rfl, hinv⟩ := hrel
    have HINV := Lib.hid hinv
    clear hinv c3 c4 f3 f4
    obtain ⟨lab1, L1, h1, hkv, k1⟩ := HINV.out
    have hke := rhardens_keeps (survive ks 0 (R.queue.take k)) R0
    have hq0 : (R0.hardens (survive ks 0 (R.queue.take k))).queue = R.queue := by rw [hke.1, HR0.out]
    have c1 := h1.c 1
    simp only [List.getElem?_toArray, List.getElem?_cons_zero, List.getElem?_cons_succ] at c1
    obtain ⟨qa, qc, hqv⟩ := own_form h1.queue
    rw [hq0] at hqv
    rw [hqv] at c1
    have HSRC := Lib.hid (HK.out.src h1 hkv (by rw [hke.2.2.2.2.1, HR0.out]) k1)
    have HKE := Lib.hid hke
    have HQ0 := Lib.hid hq0
    have HQV := Lib.hid hqv
    have H1 := Lib.hid h1
    have K1 := Lib.hid k1
    have HKV := Lib.hid hkv
    by_cases hlt : k < R.queue.length ∧ 0 < ks.length
    · obtain ⟨hlt, h0⟩ := hlt
      obtain ⟨p, hp⟩ : ∃ p, R.queue[k]? = some p := ⟨_, List.getElem?_eq_getElem hlt⟩
      have HPP := Lib.hid hp
      clear hke hq0 hqv h1 k1 hkv hp
      obtain ⟨qg, qcap, hqv2, s0, s1⟩ := q_cell H1.out (k := k) (p := p) (by rw [HQ0.out]; exact HPP.out)
      rw [HQ0.out] at hqv2
      have hqv3 := HQV.out.symm.trans hqv2
      simp only [Value.slice.injEq, true_and] at hqv3
      obtain ⟨rfl, rfl⟩ := hqv3
      obtain ⟨bk, ok, cap2, hv, hcell⟩ := src_cell HSRC.out (by omega)
      simp only [Value.slice.injEq, true_and] at hv
      obtain ⟨rfl, rfl⟩ := hv
      have hmod : k % ks.length < ks.length := Nat.mod_lt _ (by omega)
      have kc := hcell _ hmod
      have hpos : (0 : Int) < (ks.length : Int) := by omega
      clear hqv2 hcell
      have HST := Lib.hid (survive_take ks R.queue HPP.out)
      have hoe : odd ks k = decide (ks.getD (k % ks.length) 0 % 2 = 1) := by
        unfold odd
        have h5 : decide (0 < ks.length) = true := by rw [decide_eq_true_eq]; omega
        rw [h5, Bool.true_and]
        generalize ks.getD (k % ks.length) 0 = z
        exact decide_eq_decide.2 (tmod2 z)
      have HOE := Lib.hid hoe
      clear hoe
      generalize ks.getD (k % ks.length) 0 = z at kc HOE
      have h1z := i64_and1 z
      generalize hq : k % ks.length = q at kc hmod
      have ht : (k : Int).tmod (ks.length : Int) = (q : Int) := by rw [← hq]; exact (Int.ofNat_tmod k ks.length).symm
      clear hq
      by_cases hodd : z % 2 = 1
      · have hS := survive_any H1.out p (HFEW.out p (List.mem_of_getElem? HPP.out)).1 (by rw [HKE.out.2.2.2.2.2, HR0.out]; exact HI.out p (List.mem_of_getElem? HPP.out))
        have HS := Lib.hid hS
        clear hS
        rw [hodd] at h1z
        go_wp2_with (go_at_call 51; refine HS.out.mono ?_; rintro e w3 ⟨rfl, lab3, L3, h3, hk3, k3⟩; refine Hid.out ?_)
        refine Lib.hid ?_
        go_wp2
        go_roundw
        case rel => exact ⟨k + 1, by omega, by go_num, lab3, L3, by rw [HST.out, HOE.out, if_pos (by simpa using hodd), rhardens_snoc]; exact h3, hk3.trans HKV.out, K1.out.trans k3⟩
        case measure => simp [intOf]; omega
      · rw [show z % 2 = 0 by omega] at h1z
        go_wp2
        go_roundw
        case rel => exact ⟨k + 1, by omega, by go_num, lab1, L1, by rw [HST.out, HOE.out, if_neg (by simpa using hodd), List.append_nil]; exact H1.out, HKV.out, K1.out⟩
        case measure => simp [intOf]; omega
    -- LOOP 2
    · have hsv : survive ks 0 (R.queue.take k) = survive ks 0 R.queue := by
        by_cases h5 : k < R.queue.length
        · have h6 : ks = [] := List.eq_nil_of_length_eq_zero (by omega)
          rw [h6, survive_none, survive_none]
        · rw [List.take_of_length_le (by omega)]
      rw [hsv] at H1
      obtain ⟨R1, hR1⟩ : ∃ R1, R1 = R0.hardens (survive ks 0 R.queue) := ⟨_, rfl⟩
      rw [← hR1] at H1 HCR
      have HOKF := Lib.hid H1.out.ok.fallen1
      have HOK := Lib.hid H1.out.ok.fallen
      have hlen := H1.out.ok.len
      obtain ⟨fa, fc, hfv⟩ := own_form H1.out.files
      have HFV := Lib.hid hfv
      clear hsv hR1 hke hq0 hqv h1 k1 hkv HKE HQ0 HQV HINV HSRC HKV hfv
      by_cases h5 : k < R.queue.length
      · have h6 : ks.length = 0 := by omega
        generalize hgn : ks.length = n at h6 ⊢
        subst h6
        clear hgn
        go_wp2
        have H3 := Lib.hid (And.intro H1.out K1.out)
        clear c1 H1 K1
        obtain ⟨wb, hwb⟩ : ∃ wb, wb = wr := ⟨_, rfl⟩
        rw [← hwb] at H3 ⊢
        clear hwb wr
        go_loopw [5, 6] (fun v i wr => ∃ k : Nat, k ≤ R1.files.length ∧ i = .int .i64 (k : Int) ∧ Hid (Below wb.heap.size wb wr) ∧ Hid (wr.ownsRow 0 67 3 v (fallen (R1.files.take k)).length (flVs (fallen (R1.files.take k)))) ∧ Hid (∀ j, v.ownBlock = some j → wb.heap.size ≤ j)) (fun _ i _ => R1.files.length - (intOf i).toNat)
        case atStart => exact ⟨0, Nat.zero_le _, rfl, Lib.hid (Below.refl _ _), Lib.hid (World.ownsRow_nil _ _ _ _), Lib.hid fun j hj => by cases hj⟩
        case round =>
          obtain ⟨k, hk, rfl, HE, HO, HJ⟩ := hrel
          have hwr := HE.out.size
          have hr := H3.out.1.fresh HE.out
          have c0 := hr.c 0
          simp only [List.getElem?_toArray, List.getElem?_cons_zero] at c0
          rw [HFV.out] at c0
          by_cases hlt2 : k < R1.files.length
          · obtain ⟨y, hy⟩ : ∃ y, R1.files[k]? = some y := ⟨_, List.getElem?_eq_getElem hlt2⟩
            obtain ⟨g, cap, hv, d0, d1, d2⟩ := fl_cell hr hy
            have hv2 := HFV.out.symm.trans hv
            simp only [Value.slice.injEq, true_and] at hv2
            obtain ⟨rfl, rfl⟩ := hv2
            have HFT := Lib.hid (fallen_take hy)
            have hol : (fallen (R1.files.take k)).length ≤ 1000 := by unfold fallen; rw [List.length_map]; have := List.length_take_le k R1.files; omega
            obtain ⟨oa, oc, rfl⟩ := own_form HO.out
            have hDN : Below wb.heap.size wb wr.drew := HE.out.drew
            have hA := below_alloc wr.drew (.cells #[.int .i64 (y.num : Int), .string (bs y.dur), .string (bs y.dur)] 67)
            obtain ⟨v', w', r1, r2, r3, r4⟩ := push_fl (wr.drew.alloc (.cells #[.int .i64 (y.num : Int), .string (bs y.dur), .string (bs y.dur)] 67)) _ _ ((show wr.drew.ownsRow 0 67 3 _ _ _ from HO.out).alloc _) hol ⟨y.num, y.dur, y.dur⟩ (a := wr.heap.size) (alloc_new_cell wr.drew _ _ 0) (alloc_new_cell wr.drew _ _ 1) (alloc_new_cell wr.drew _ _ 2) 61
            have HRR := Lib.hid r1
            have hbA := hDN.trans (hA.mono hwr)
            have HB3 := Lib.hid (grown_below hbA r3 HJ.out)
            have HO3 := Lib.hid r2
            have HJ3 := Lib.hid (show ∀ j, v'.ownBlock = some j → wb.heap.size ≤ j from fun j hj => by
              rcases r4 with h | h
              · exact HJ.out j (h.symm.trans hj)
              · have h9 := h.symm.trans hj
                simp only [World.size_alloc, Option.some.injEq] at h9
                have : wr.drew.heap.size = wr.heap.size := rfl
                omega)
            clear r1 r2 r3 r4 hA hbA hDN hr hy hv
            go_wp2
            have S0 := And.intro c0 (And.intro d0 d2)
            refine region_till 26 (fun w' => w'.cell? ⟨r, 0, none⟩ = some (.slice (some ⟨g, 0, none⟩) R1.files.length fc) ∧ w'.cell? ⟨g, k * 3, none⟩ = some (.int .i64 (y.num : Int)) ∧ w'.cell? ⟨g, k * 3 + 2, none⟩ = some (.string (bs y.dur))) (by kernel_rfl) ?_
            refine till_take 0 8 false (v := ?v0a) (by kernel_rfl) (by kernel_rfl) (by kernel_rfl) (by kernel_rfl) (by kernel_rfl) (fun _ _ _ h => h) ?hw0a S0 ?hy0a ?rest0a
            case hw0a => (simp only [List.getElem?_toArray, List.getElem?_cons_zero, Option.elim]; rfl)
            case hy0a => (simp only [List.getElem?_toArray, List.getElem?_cons_zero, Option.elim]; intro wx _; go_simp; with_reducible rfl)
            simp only [dstOf, List.getElem?_toArray, List.getElem?_cons_zero, Option.bind, Act.put, List.setIfInBounds_toArray, List.set_cons_zero, List.set_cons_succ]
            refine till_take 1 8 false (v := ?v1a) (by kernel_rfl) (by kernel_rfl) (by kernel_rfl) (by kernel_rfl) (by kernel_rfl) (fun _ _ _ h => h) ?hw1a S0 ?hy1a ?rest1a
            case hw1a => (simp only [List.getElem?_toArray, List.getElem?_cons_zero, List.getElem?_cons_succ, Option.elim]; rfl)
            case hy1a => (simp only [List.getElem?_toArray, List.getElem?_cons_zero, List.getElem?_cons_succ, Option.elim]; intro wx _; go_simp; with_reducible rfl)
            simp only [dstOf, List.getElem?_toArray, List.getElem?_cons_zero, List.getElem?_cons_succ, Option.bind, Act.put, List.setIfInBounds_toArray, List.set_cons_zero, List.set_cons_succ]
            refine till_take 2 8 false (v := ?v2a) (by kernel_rfl) (by kernel_rfl) (by kernel_rfl) (by kernel_rfl) (by kernel_rfl) (fun _ _ _ h => h) ?hw2a S0 ?hy2a ?rest2a
            case hw2a => (simp only [List.getElem?_toArray, List.getElem?_cons_zero, List.getElem?_cons_succ, Option.elim]; rfl)
            case hy2a => (simp only [List.getElem?_toArray, List.getElem?_cons_zero, List.getElem?_cons_succ, Option.elim]; intro wx _; go_simp; with_reducible rfl)
            simp only [dstOf, List.getElem?_toArray, List.getElem?_cons_zero, List.getElem?_cons_succ, Option.bind, Act.put, List.setIfInBounds_toArray, List.set_cons_zero, List.set_cons_succ]
            refine till_take 3 8 false (v := ?v3a) (by kernel_rfl) (by kernel_rfl) (by kernel_rfl) (by kernel_rfl) (by kernel_rfl) (fun _ _ _ h => h) ?hw3a S0 ?hy3a ?rest3a
            case hw3a => (simp only [List.getElem?_toArray, List.getElem?_cons_zero, List.getElem?_cons_succ, Option.elim]; rfl)
            case hy3a => (simp only [List.getElem?_toArray, List.getElem?_cons_zero, List.getElem?_cons_succ, Option.elim]; intro wx _; go_simp; with_reducible rfl)
            simp only [dstOf, List.getElem?_toArray, List.getElem?_cons_zero, List.getElem?_cons_succ, Option.bind, Act.put, List.setIfInBounds_toArray, List.set_cons_zero, List.set_cons_succ]
            refine till_take 4 8 true (v := ?v4a) (by kernel_rfl) (by kernel_rfl) (by kernel_rfl) (by kernel_rfl) (by kernel_rfl) (fun _ _ _ h => h) ?hw4a S0 ?hy4a ?rest4a
            case hw4a => (simp only [List.getElem?_toArray, List.getElem?_cons_zero, List.getElem?_cons_succ, Option.elim]; rfl)
            case hy4a => (simp only [List.getElem?_toArray, List.getElem?_cons_zero, List.getElem?_cons_succ, Option.elim]; intro wx hx; obtain ⟨x1, x2, x3⟩ := hx trivial; go_simp; with_reducible rfl)
            simp only [dstOf, List.getElem?_toArray, List.getElem?_cons_zero, List.getElem?_cons_succ, Option.bind, Act.put, List.setIfInBounds_toArray, List.set_cons_zero, List.set_cons_succ]
            refine till_take 5 8 false (v := ?v5a) (by kernel_rfl) (by kernel_rfl) (by kernel_rfl) (by kernel_rfl) (by kernel_rfl) (fun _ _ _ h => h) ?hw5a S0 ?hy5a ?rest5a
            case hw5a => (simp only [List.getElem?_toArray, List.getElem?_cons_zero, List.getElem?_cons_succ, Option.elim]; rfl)
            case hy5a => (simp only [List.getElem?_toArray, List.getElem?_cons_zero, List.getElem?_cons_succ, Option.elim]; intro wx _; go_simp; with_reducible rfl)
            simp only [dstOf, List.getElem?_toArray, List.getElem?_cons_zero, List.getElem?_cons_succ, Option.bind, Act.put, List.setIfInBounds_toArray, List.set_cons_zero, List.set_cons_succ]
            refine till_take 6 8 false (v := ?v6a) (by kernel_rfl) (by kernel_rfl) (by kernel_rfl) (by kernel_rfl) (by kernel_rfl) (fun _ _ _ h => h) ?hw6a S0 ?hy6a ?rest6a
            case hw6a => (simp only [List.getElem?_toArray, List.getElem?_cons_zero, List.getElem?_cons_succ, Option.elim]; rfl)
            case hy6a => (simp only [List.getElem?_toArray, List.getElem?_cons_zero, List.getElem?_cons_succ, Option.elim]; intro wx _; go_simp; with_reducible rfl)
            simp only [dstOf, List.getElem?_toArray, List.getElem?_cons_zero, List.getElem?_cons_succ, Option.bind, Act.put, List.setIfInBounds_toArray, List.set_cons_zero, List.set_cons_succ]
            refine till_take 7 8 false (v := ?v7a) (by kernel_rfl) (by kernel_rfl) (by kernel_rfl) (by kernel_rfl) (by kernel_rfl) (fun _ _ _ h => h) ?hw7a S0 ?hy7a ?rest7a
            case hw7a => (simp only [List.getElem?_toArray, List.getElem?_cons_zero, List.getElem?_cons_succ, Option.elim]; rfl)
            case hy7a => (simp only [List.getElem?_toArray, List.getElem?_cons_zero, List.getElem?_cons_succ, Option.elim]; intro wx _; go_simp; with_reducible rfl)
            simp only [dstOf, List.getElem?_toArray, List.getElem?_cons_zero, List.getElem?_cons_succ, Option.bind, Act.put, List.setIfInBounds_toArray, List.set_cons_zero, List.set_cons_succ]
            refine till_take 8 8 true (v := ?v8a) (by kernel_rfl) (by kernel_rfl) (by kernel_rfl) (by kernel_rfl) (by kernel_rfl) (fun _ _ _ h => h) ?hw8a S0 ?hy8a ?rest8a
            case hw8a => (simp only [List.getElem?_toArray, List.getElem?_cons_zero, List.getElem?_cons_succ, Option.elim]; rfl)
            case hy8a => (simp only [List.getElem?_toArray, List.getElem?_cons_zero, List.getElem?_cons_succ, Option.elim]; intro wx hx; obtain ⟨x1, x2, x3⟩ := hx trivial; go_simp; with_reducible rfl)
            simp only [dstOf, List.getElem?_toArray, List.getElem?_cons_zero, List.getElem?_cons_succ, Option.bind, Act.put, List.setIfInBounds_toArray, List.set_cons_zero, List.set_cons_succ]
            refine till_take 9 8 false (v := ?v9a) (by kernel_rfl) (by kernel_rfl) (by kernel_rfl) (by kernel_rfl) (by kernel_rfl) (fun _ _ _ h => h) ?hw9a S0 ?hy9a ?rest9a
            case hw9a => (simp only [List.getElem?_toArray, List.getElem?_cons_zero, List.getElem?_cons_succ, Option.elim]; rfl)
            case hy9a => (simp only [List.getElem?_toArray, List.getElem?_cons_zero, List.getElem?_cons_succ, Option.elim]; intro wx _; go_simp; with_reducible rfl)
            simp only [dstOf, List.getElem?_toArray, List.getElem?_cons_zero, List.getElem?_cons_succ, Option.bind, Act.put, List.setIfInBounds_toArray, List.set_cons_zero, List.set_cons_succ]
            refine till_take 10 8 false (v := ?v10a) (by kernel_rfl) (by kernel_rfl) (by kernel_rfl) (by kernel_rfl) (by kernel_rfl) (fun _ _ _ h => h) ?hw10a S0 ?hy10a ?rest10a
            case hw10a => (simp only [List.getElem?_toArray, List.getElem?_cons_zero, List.getElem?_cons_succ, Option.elim]; rfl)
            case hy10a => (simp only [List.getElem?_toArray, List.getElem?_cons_zero, List.getElem?_cons_succ, Option.elim]; intro wx _; go_simp; with_reducible rfl)
            simp only [dstOf, List.getElem?_toArray, List.getElem?_cons_zero, List.getElem?_cons_succ, Option.bind, Act.put, List.setIfInBounds_toArray, List.set_cons_zero, List.set_cons_succ]
            refine till_take 11 8 false (v := ?v11a) (by kernel_rfl) (by kernel_rfl) (by kernel_rfl) (by kernel_rfl) (by kernel_rfl) (fun _ _ _ h => h) ?hw11a S0 ?hy11a ?rest11a
            case hw11a => (simp only [List.getElem?_toArray, List.getElem?_cons_zero, List.getElem?_cons_succ, Option.elim]; rfl)
            case hy11a => (simp only [List.getElem?_toArray, List.getElem?_cons_zero, List.getElem?_cons_succ, Option.elim]; intro wx _; go_simp; with_reducible rfl)
            simp only [dstOf, List.getElem?_toArray, List.getElem?_cons_zero, List.getElem?_cons_succ, Option.bind, Act.put, List.setIfInBounds_toArray, List.set_cons_zero, List.set_cons_succ]
            refine till_take 12 8 true (v := ?v12a) (by kernel_rfl) (by kernel_rfl) (by kernel_rfl) (by kernel_rfl) (by kernel_rfl) (fun _ _ _ h => h) ?hw12a S0 ?hy12a ?rest12a
            case hw12a => (simp only [List.getElem?_toArray, List.getElem?_cons_zero, List.getElem?_cons_succ, Option.elim]; rfl)
            case hy12a => (simp only [List.getElem?_toArray, List.getElem?_cons_zero, List.getElem?_cons_succ, Option.elim]; intro wx hx; obtain ⟨x1, x2, x3⟩ := hx trivial; go_simp; with_reducible rfl)
            simp only [dstOf, List.getElem?_toArray, List.getElem?_cons_zero, List.getElem?_cons_succ, Option.bind, Act.put, List.setIfInBounds_toArray, List.set_cons_zero, List.set_cons_succ]
            refine till_take 13 8 false (v := ?v13a) (by kernel_rfl) (by kernel_rfl) (by kernel_rfl) (by kernel_rfl) (by kernel_rfl) (fun _ _ _ h => h) ?hw13a S0 ?hy13a ?rest13a
            case hw13a => (simp only [List.getElem?_toArray, List.getElem?_cons_zero, List.getElem?_cons_succ, Option.elim]; rfl)
            case hy13a => (simp only [List.getElem?_toArray, List.getElem?_cons_zero, List.getElem?_cons_succ, Option.elim]; intro wx _; go_simp; with_reducible rfl)
            simp only [dstOf, List.getElem?_toArray, List.getElem?_cons_zero, List.getElem?_cons_succ, Option.bind, Act.put, List.setIfInBounds_toArray, List.set_cons_zero, List.set_cons_succ]
            refine till_take 14 8 false (v := ?v14a) (by kernel_rfl) (by kernel_rfl) (by kernel_rfl) (by kernel_rfl) (by kernel_rfl) (fun _ _ _ h => h) ?hw14a S0 ?hy14a ?rest14a
            case hw14a => (simp only [List.getElem?_toArray, List.getElem?_cons_zero, List.getElem?_cons_succ, Option.elim]; rfl)
            case hy14a => (simp only [List.getElem?_toArray, List.getElem?_cons_zero, List.getElem?_cons_succ, Option.elim]; intro wx _; go_simp; with_reducible rfl)
            simp only [dstOf, List.getElem?_toArray, List.getElem?_cons_zero, List.getElem?_cons_succ, Option.bind, Act.put, List.setIfInBounds_toArray, List.set_cons_zero, List.set_cons_succ]
            refine till_take 15 8 false (v := ?v15a) (by kernel_rfl) (by kernel_rfl) (by kernel_rfl) (by kernel_rfl) (by kernel_rfl) (fun _ _ _ h => h) ?hw15a S0 ?hy15a ?rest15a
            case hw15a => (simp only [List.getElem?_toArray, List.getElem?_cons_zero, List.getElem?_cons_succ, Option.elim]; rfl)
            case hy15a => (simp only [List.getElem?_toArray, List.getElem?_cons_zero, List.getElem?_cons_succ, Option.elim]; intro wx _; go_simp; with_reducible rfl)
            simp only [dstOf, List.getElem?_toArray, List.getElem?_cons_zero, List.getElem?_cons_succ, Option.bind, Act.put, List.setIfInBounds_toArray, List.set_cons_zero, List.set_cons_succ]
            refine till_take 16 8 true (v := ?v16a) (by kernel_rfl) (by kernel_rfl) (by kernel_rfl) (by kernel_rfl) (by kernel_rfl) (fun _ _ _ h => h) ?hw16a S0 ?hy16a ?rest16a
            case hw16a => (simp only [List.getElem?_toArray, List.getElem?_cons_zero, List.getElem?_cons_succ, Option.elim]; rfl)
            case hy16a => (simp only [List.getElem?_toArray, List.getElem?_cons_zero, List.getElem?_cons_succ, Option.elim]; intro wx hx; obtain ⟨x1, x2, x3⟩ := hx trivial; go_simp; with_reducible rfl)
            simp only [dstOf, List.getElem?_toArray, List.getElem?_cons_zero, List.getElem?_cons_succ, Option.bind, Act.put, List.setIfInBounds_toArray, List.set_cons_zero, List.set_cons_succ]
            refine till_take 17 8 false (v := ?v17a) (by kernel_rfl) (by kernel_rfl) (by kernel_rfl) (by kernel_rfl) (by kernel_rfl) (fun _ _ _ h => h) ?hw17a S0 ?hy17a ?rest17a
            case hw17a => (simp only [List.getElem?_toArray, List.getElem?_cons_zero, List.getElem?_cons_succ, Option.elim]; rfl)
            case hy17a => (simp only [List.getElem?_toArray, List.getElem?_cons_zero, List.getElem?_cons_succ, Option.elim]; intro wx _; go_simp; with_reducible rfl)
            simp only [dstOf, List.getElem?_toArray, List.getElem?_cons_zero, List.getElem?_cons_succ, Option.bind, Act.put, List.setIfInBounds_toArray, List.set_cons_zero, List.set_cons_succ]
            refine till_take 18 8 false (v := ?v18a) (by kernel_rfl) (by kernel_rfl) (by kernel_rfl) (by kernel_rfl) (by kernel_rfl) (fun _ _ _ h => h) ?hw18a S0 ?hy18a ?rest18a
            case hw18a => (simp only [List.getElem?_toArray, List.getElem?_cons_zero, List.getElem?_cons_succ, Option.elim]; rfl)
            case hy18a => (simp only [List.getElem?_toArray, List.getElem?_cons_zero, List.getElem?_cons_succ, Option.elim]; intro wx _; go_simp; with_reducible rfl)
            simp only [dstOf, List.getElem?_toArray, List.getElem?_cons_zero, List.getElem?_cons_succ, Option.bind, Act.put, List.setIfInBounds_toArray, List.set_cons_zero, List.set_cons_succ]
            refine till_take 19 8 false (v := ?v19a) (by kernel_rfl) (by kernel_rfl) (by kernel_rfl) (by kernel_rfl) (by kernel_rfl) (fun _ _ _ h => h) ?hw19a S0 ?hy19a ?rest19a
            case hw19a => (simp only [List.getElem?_toArray, List.getElem?_cons_zero, List.getElem?_cons_succ, Option.elim]; rfl)
            case hy19a => (simp only [List.getElem?_toArray, List.getElem?_cons_zero, List.getElem?_cons_succ, Option.elim]; intro wx _; go_simp; with_reducible rfl)
            simp only [dstOf, List.getElem?_toArray, List.getElem?_cons_zero, List.getElem?_cons_succ, Option.bind, Act.put, List.setIfInBounds_toArray, List.set_cons_zero, List.set_cons_succ]
            refine till_take 20 8 true (v := ?v20a) (by kernel_rfl) (by kernel_rfl) (by kernel_rfl) (by kernel_rfl) (by kernel_rfl) (fun _ _ _ h => h) ?hw20a S0 ?hy20a ?rest20a
            case hw20a => (simp only [List.getElem?_toArray, List.getElem?_cons_zero, List.getElem?_cons_succ, Option.elim]; rfl)
            case hy20a => (simp only [List.getElem?_toArray, List.getElem?_cons_zero, List.getElem?_cons_succ, Option.elim]; intro wx hx; obtain ⟨x1, x2, x3⟩ := hx trivial; go_simp; with_reducible rfl)
            simp only [dstOf, List.getElem?_toArray, List.getElem?_cons_zero, List.getElem?_cons_succ, Option.bind, Act.put, List.setIfInBounds_toArray, List.set_cons_zero, List.set_cons_succ]
            refine till_take 21 8 false (v := ?v21a) (by kernel_rfl) (by kernel_rfl) (by kernel_rfl) (by kernel_rfl) (by kernel_rfl) (fun _ _ _ h => h) ?hw21a S0 ?hy21a ?rest21a
            case hw21a => (simp only [List.getElem?_toArray, List.getElem?_cons_zero, List.getElem?_cons_succ, Option.elim]; rfl)
            case hy21a => (simp only [List.getElem?_toArray, List.getElem?_cons_zero, List.getElem?_cons_succ, Option.elim]; intro wx _; go_simp; with_reducible rfl)
            simp only [dstOf, List.getElem?_toArray, List.getElem?_cons_zero, List.getElem?_cons_succ, Option.bind, Act.put, List.setIfInBounds_toArray, List.set_cons_zero, List.set_cons_succ]
            refine till_take 22 8 false (v := ?v22a) (by kernel_rfl) (by kernel_rfl) (by kernel_rfl) (by kernel_rfl) (by kernel_rfl) (fun _ _ _ h => h) ?hw22a S0 ?hy22a ?rest22a
            case hw22a => (simp only [List.getElem?_toArray, List.getElem?_cons_zero, List.getElem?_cons_succ, Option.elim]; rfl)
            case hy22a => (simp only [List.getElem?_toArray, List.getElem?_cons_zero, List.getElem?_cons_succ, Option.elim]; intro wx _; go_simp; with_reducible rfl)
            simp only [dstOf, List.getElem?_toArray, List.getElem?_cons_zero, List.getElem?_cons_succ, Option.bind, Act.put, List.setIfInBounds_toArray, List.set_cons_zero, List.set_cons_succ]
            refine till_take 23 8 false (v := ?v23a) (by kernel_rfl) (by kernel_rfl) (by kernel_rfl) (by kernel_rfl) (by kernel_rfl) (fun _ _ _ h => h) ?hw23a S0 ?hy23a ?rest23a
            case hw23a => (simp only [List.getElem?_toArray, List.getElem?_cons_zero, List.getElem?_cons_succ, Option.elim]; rfl)
            case hy23a => (simp only [List.getElem?_toArray, List.getElem?_cons_zero, List.getElem?_cons_succ, Option.elim]; intro wx _; go_simp; with_reducible rfl)
            simp only [dstOf, List.getElem?_toArray, List.getElem?_cons_zero, List.getElem?_cons_succ, Option.bind, Act.put, List.setIfInBounds_toArray, List.set_cons_zero, List.set_cons_succ]
            refine till_take 24 8 true (v := ?v24a) (by kernel_rfl) (by kernel_rfl) (by kernel_rfl) (by kernel_rfl) (by kernel_rfl) (fun _ _ _ h => h) ?hw24a S0 ?hy24a ?rest24a
            case hw24a => (simp only [List.getElem?_toArray, List.getElem?_cons_zero, List.getElem?_cons_succ, Option.elim]; rfl)
            case hy24a => (simp only [List.getElem?_toArray, List.getElem?_cons_zero, List.getElem?_cons_succ, Option.elim]; intro wx hx; obtain ⟨x1, x2, x3⟩ := hx trivial; go_simp; with_reducible rfl)
            simp only [dstOf, List.getElem?_toArray, List.getElem?_cons_zero, List.getElem?_cons_succ, Option.bind, Act.put, List.setIfInBounds_toArray, List.set_cons_zero, List.set_cons_succ]
            refine till_take 25 8 false (v := ?v25a) (by kernel_rfl) (by kernel_rfl) (by kernel_rfl) (by kernel_rfl) (by kernel_rfl) (fun _ _ _ h => h) ?hw25a S0 ?hy25a ?rest25a
            case hw25a => (simp only [List.getElem?_toArray, List.getElem?_cons_zero, List.getElem?_cons_succ, Option.elim]; rfl)
            case hy25a => (simp only [List.getElem?_toArray, List.getElem?_cons_zero, List.getElem?_cons_succ, Option.elim]; intro wx _; go_simp; with_reducible rfl)
            simp only [dstOf, List.getElem?_toArray, List.getElem?_cons_zero, List.getElem?_cons_succ, Option.bind, Act.put, List.setIfInBounds_toArray, List.set_cons_zero, List.set_cons_succ]
            refine till_step 26 (by kernel_rfl) (by kernel_rfl) (fun K hK => ?_)
            simp only [List.getElem?_toArray, List.getElem?_cons_zero, List.getElem?_cons_succ, Option.elim]
            rw [if_pos (by rfl)]
            go_simp
            refine hK.out _ _ ?_
            clear hK K
            try simp only [Act.put, List.setIfInBounds_toArray, List.set_cons_zero, List.set_cons_succ]
            refine till_step 27 (by kernel_rfl) (by kernel_rfl) (fun K hK => ?_)
            simp only [List.getElem?_toArray, List.getElem?_cons_zero, List.getElem?_cons_succ, Option.elim]
            rw [if_pos (by rfl)]
            refine Lib.wp_append_run _ (.tmp 58) (.tmp 84) 61 61 rfl _ _ rfl rfl _ _ HRR.out ?_
            refine hK.out _ _ ?_
            clear hK K
            try simp only [Act.put, List.setIfInBounds_toArray, List.set_cons_zero, List.set_cons_succ]
            refine till_step 28 (by kernel_rfl) (by kernel_rfl) (fun K hK => ?_)
            simp only [List.getElem?_toArray, List.getElem?_cons_zero, List.getElem?_cons_succ, Option.elim]
            rw [if_pos (by rfl)]
            go_simp
            refine hK.out _ _ ?_
            clear hK K
            try simp only [Act.put, List.setIfInBounds_toArray, List.set_cons_zero, List.set_cons_succ]
            refine till_end (by kernel_rfl) ?_ _
            go_wp2
            go_roundw
            case rel => exact ⟨k + 1, by omega, by go_num, HB3, Lib.hid (by rw [HFT.out]; exact HO3.out), HJ3⟩
            case measure => simp [intOf]; omega
          · obtain rfl : k = R1.files.length := by omega
            have hO := HO.out
            rw [List.take_length] at hO
            obtain ⟨oa, oc, rfl⟩ := own_form hO
            have f0 := hr.fz 0
            have f1 := hr.fz 1
            have c1 := hr.c 1
            simp only [List.getElem?_toArray, List.getElem?_cons_zero, List.getElem?_cons_succ] at c1
            obtain ⟨lab4, L4, h4, _, k4⟩ := H3.out.1.newFiles (R' := { R1 with files := fallen R1.files }) HE.out HJ.out HOKF.out rfl rfl rfl rfl rfl hO
            have HNW := Lib.hid (h4.newQueue (R' := { R1 with files := fallen R1.files, queue := [] }) (v := .slice none 0 0) (Below.refl _ _) (fun j hj => by cases hj) HOK.out rfl rfl rfl rfl rfl (World.ownsRow_nil _ _ _ _))
            have K4 := Lib.hid (H3.out.2.trans k4)
            clear hO hr h4 k4
            go_wp2
            go_end0
            obtain ⟨lab5, n1, n2⟩ := HNW.out
            exact ⟨rfl, lab5, by rw [HCR.out]; exact n1, K4.out.trans n2⟩
      · go_wp2
        have H3 := Lib.hid (And.intro H1.out K1.out)
        clear c1 H1 K1
        obtain ⟨wb, hwb⟩ : ∃ wb, wb = wr := ⟨_, rfl⟩
        rw [← hwb] at H3 ⊢
        clear hwb wr
        go_loopw [5, 6] (fun v i wr => ∃ k : Nat, k ≤ R1.files.length ∧ i = .int .i64 (k : Int) ∧ Hid (Below wb.heap.size wb wr) ∧ Hid (wr.ownsRow 0 67 3 v (fallen (R1.files.take k)).length (flVs (fallen (R1.files.take k)))) ∧ Hid (∀ j, v.ownBlock = some j → wb.heap.size ≤ j)) (fun _ i _ => R1.files.length - (intOf i).toNat)
        case atStart => exact ⟨0, Nat.zero_le _, rfl, Lib.hid (Below.refl _ _), Lib.hid (World.ownsRow_nil _ _ _ _), Lib.hid fun j hj => by cases hj⟩
        case round =>
          obtain ⟨k, hk, rfl, HE, HO, HJ⟩ := hrel
          have hwr := HE.out.size
          have hr := H3.out.1.fresh HE.out
          have c0 := hr.c 0
          simp only [List.getElem?_toArray, List.getElem?_cons_zero] at c0
          rw [HFV.out] at c0
          by_cases hlt2 : k < R1.files.length
          · obtain ⟨y, hy⟩ : ∃ y, R1.files[k]? = some y := ⟨_, List.getElem?_eq_getElem hlt2⟩
            obtain ⟨g, cap, hv, d0, d1, d2⟩ := fl_cell hr hy
            have hv2 := HFV.out.symm.trans hv
            simp only [Value.slice.injEq, true_and] at hv2
            obtain ⟨rfl, rfl⟩ := hv2
            have HFT := Lib.hid (fallen_take hy)
            have hol : (fallen (R1.files.take k)).length ≤ 1000 := by unfold fallen; rw [List.length_map]; have := List.length_take_le k R1.files; omega
            obtain ⟨oa, oc, rfl⟩ := own_form HO.out
            have hDN : Below wb.heap.size wb wr.drew := HE.out.drew
            have hA := below_alloc wr.drew (.cells #[.int .i64 (y.num : Int), .string (bs y.dur), .string (bs y.dur)] 67)
            obtain ⟨v', w', r1, r2, r3, r4⟩ := push_fl (wr.drew.alloc (.cells #[.int .i64 (y.num : Int), .string (bs y.dur), .string (bs y.dur)] 67)) _ _ ((show wr.drew.ownsRow 0 67 3 _ _ _ from HO.out).alloc _) hol ⟨y.num, y.dur, y.dur⟩ (a := wr.heap.size) (alloc_new_cell wr.drew _ _ 0) (alloc_new_cell wr.drew _ _ 1) (alloc_new_cell wr.drew _ _ 2) 61
            have HRR := Lib.hid r1
            have hbA := hDN.trans (hA.mono hwr)
            have HB3 := Lib.hid (grown_below hbA r3 HJ.out)
            have HO3 := Lib.hid r2
            have HJ3 := Lib.hid (show ∀ j, v'.ownBlock = some j → wb.heap.size ≤ j from fun j hj => by
              rcases r4 with h | h
              · exact HJ.out j (h.symm.trans hj)
              · have h9 := h.symm.trans hj
                simp only [World.size_alloc, Option.some.injEq] at h9
                have : wr.drew.heap.size = wr.heap.size := rfl
                omega)
            clear r1 r2 r3 r4 hA hbA hDN hr hy hv
            go_wp2
            have S0 := And.intro c0 (And.intro d0 d2)
            refine region_till 26 (fun w' => w'.cell? ⟨r, 0, none⟩ = some (.slice (some ⟨g, 0, none⟩) R1.files.length fc) ∧ w'.cell? ⟨g, k * 3, none⟩ = some (.int .i64 (y.num : Int)) ∧ w'.cell? ⟨g, k * 3 + 2, none⟩ = some (.string (bs y.dur))) (by kernel_rfl) ?_
            refine till_take 0 8 false (v := ?v0b) (by kernel_rfl) (by kernel_rfl) (by kernel_rfl) (by kernel_rfl) (by kernel_rfl) (fun _ _ _ h => h) ?hw0b S0 ?hy0b ?rest0b
            case hw0b => (simp only [List.getElem?_toArray, List.getElem?_cons_zero, Option.elim]; rfl)
            case hy0b => (simp only [List.getElem?_toArray, List.getElem?_cons_zero, Option.elim]; intro wx _; go_simp; with_reducible rfl)
            simp only [dstOf, List.getElem?_toArray, List.getElem?_cons_zero, Option.bind, Act.put, List.setIfInBounds_toArray, List.set_cons_zero, List.set_cons_succ]
            refine till_take 1 8 false (v := ?v1b) (by kernel_rfl) (by kernel_rfl) (by kernel_rfl) (by kernel_rfl) (by kernel_rfl) (fun _ _ _ h => h) ?hw1b S0 ?hy1b ?rest1b
            case hw1b => (simp only [List.getElem?_toArray, List.getElem?_cons_zero, List.getElem?_cons_succ, Option.elim]; rfl)
            case hy1b => (simp only [List.getElem?_toArray, List.getElem?_cons_zero, List.getElem?_cons_succ, Option.elim]; intro wx _; go_simp; with_reducible rfl)
            simp only [dstOf, List.getElem?_toArray, List.getElem?_cons_zero, List.getElem?_cons_succ, Option.bind, Act.put, List.setIfInBounds_toArray, List.set_cons_zero, List.set_cons_succ]
            refine till_take 2 8 false (v := ?v2b) (by kernel_rfl) (by kernel_rfl) (by kernel_rfl) (by kernel_rfl) (by kernel_rfl) (fun _ _ _ h => h) ?hw2b S0 ?hy2b ?rest2b
            case hw2b => (simp only [List.getElem?_toArray, List.getElem?_cons_zero, List.getElem?_cons_succ, Option.elim]; rfl)
            case hy2b => (simp only [List.getElem?_toArray, List.getElem?_cons_zero, List.getElem?_cons_succ, Option.elim]; intro wx _; go_simp; with_reducible rfl)
            simp only [dstOf, List.getElem?_toArray, List.getElem?_cons_zero, List.getElem?_cons_succ, Option.bind, Act.put, List.setIfInBounds_toArray, List.set_cons_zero, List.set_cons_succ]
            refine till_take 3 8 false (v := ?v3b) (by kernel_rfl) (by kernel_rfl) (by kernel_rfl) (by kernel_rfl) (by kernel_rfl) (fun _ _ _ h => h) ?hw3b S0 ?hy3b ?rest3b
            case hw3b => (simp only [List.getElem?_toArray, List.getElem?_cons_zero, List.getElem?_cons_succ, Option.elim]; rfl)
            case hy3b => (simp only [List.getElem?_toArray, List.getElem?_cons_zero, List.getElem?_cons_succ, Option.elim]; intro wx _; go_simp; with_reducible rfl)
            simp only [dstOf, List.getElem?_toArray, List.getElem?_cons_zero, List.getElem?_cons_succ, Option.bind, Act.put, List.setIfInBounds_toArray, List.set_cons_zero, List.set_cons_succ]
            refine till_take 4 8 true (v := ?v4b) (by kernel_rfl) (by kernel_rfl) (by kernel_rfl) (by kernel_rfl) (by kernel_rfl) (fun _ _ _ h => h) ?hw4b S0 ?hy4b ?rest4b
            case hw4b => (simp only [List.getElem?_toArray, List.getElem?_cons_zero, List.getElem?_cons_succ, Option.elim]; rfl)
            case hy4b => (simp only [List.getElem?_toArray, List.getElem?_cons_zero, List.getElem?_cons_succ, Option.elim]; intro wx hx; obtain ⟨x1, x2, x3⟩ := hx trivial; go_simp; with_reducible rfl)
            simp only [dstOf, List.getElem?_toArray, List.getElem?_cons_zero, List.getElem?_cons_succ, Option.bind, Act.put, List.setIfInBounds_toArray, List.set_cons_zero, List.set_cons_succ]
            refine till_take 5 8 false (v := ?v5b) (by kernel_rfl) (by kernel_rfl) (by kernel_rfl) (by kernel_rfl) (by kernel_rfl) (fun _ _ _ h => h) ?hw5b S0 ?hy5b ?rest5b
            case hw5b => (simp only [List.getElem?_toArray, List.getElem?_cons_zero, List.getElem?_cons_succ, Option.elim]; rfl)
            case hy5b => (simp only [List.getElem?_toArray, List.getElem?_cons_zero, List.getElem?_cons_succ, Option.elim]; intro wx _; go_simp; with_reducible rfl)
            simp only [dstOf, List.getElem?_toArray, List.getElem?_cons_zero, List.getElem?_cons_succ, Option.bind, Act.put, List.setIfInBounds_toArray, List.set_cons_zero, List.set_cons_succ]
            refine till_take 6 8 false (v := ?v6b) (by kernel_rfl) (by kernel_rfl) (by kernel_rfl) (by kernel_rfl) (by kernel_rfl) (fun _ _ _ h => h) ?hw6b S0 ?hy6b ?rest6b
            case hw6b => (simp only [List.getElem?_toArray, List.getElem?_cons_zero, List.getElem?_cons_succ, Option.elim]; rfl)
            case hy6b => (simp only [List.getElem?_toArray, List.getElem?_cons_zero, List.getElem?_cons_succ, Option.elim]; intro wx _; go_simp; with_reducible rfl)
            simp only [dstOf, List.getElem?_toArray, List.getElem?_cons_zero, List.getElem?_cons_succ, Option.bind, Act.put, List.setIfInBounds_toArray, List.set_cons_zero, List.set_cons_succ]
            refine till_take 7 8 false (v := ?v7b) (by kernel_rfl) (by kernel_rfl) (by kernel_rfl) (by kernel_rfl) (by kernel_rfl) (fun _ _ _ h => h) ?hw7b S0 ?hy7b ?rest7b
            case hw7b => (simp only [List.getElem?_toArray, List.getElem?_cons_zero, List.getElem?_cons_succ, Option.elim]; rfl)
            case hy7b => (simp only [List.getElem?_toArray, List.getElem?_cons_zero, List.getElem?_cons_succ, Option.elim]; intro wx _; go_simp; with_reducible rfl)
            simp only [dstOf, List.getElem?_toArray, List.getElem?_cons_zero, List.getElem?_cons_succ, Option.bind, Act.put, List.setIfInBounds_toArray, List.set_cons_zero, List.set_cons_succ]
            refine till_take 8 8 true (v := ?v8b) (by kernel_rfl) (by kernel_rfl) (by kernel_rfl) (by kernel_rfl) (by kernel_rfl) (fun _ _ _ h => h) ?hw8b S0 ?hy8b ?rest8b
            case hw8b => (simp only [List.getElem?_toArray, List.getElem?_cons_zero, List.getElem?_cons_succ, Option.elim]; rfl)
            case hy8b => (simp only [List.getElem?_toArray, List.getElem?_cons_zero, List.getElem?_cons_succ, Option.elim]; intro wx hx; obtain ⟨x1, x2, x3⟩ := hx trivial; go_simp; with_reducible rfl)
            simp only [dstOf, List.getElem?_toArray, List.getElem?_cons_zero, List.getElem?_cons_succ, Option.bind, Act.put, List.setIfInBounds_toArray, List.set_cons_zero, List.set_cons_succ]
            refine till_take 9 8 false (v := ?v9b) (by kernel_rfl) (by kernel_rfl) (by kernel_rfl) (by kernel_rfl) (by kernel_rfl) (fun _ _ _ h => h) ?hw9b S0 ?hy9b ?rest9b
            case hw9b => (simp only [List.getElem?_toArray, List.getElem?_cons_zero, List.getElem?_cons_succ, Option.elim]; rfl)
            case hy9b => (simp only [List.getElem?_toArray, List.getElem?_cons_zero, List.getElem?_cons_succ, Option.elim]; intro wx _; go_simp; with_reducible rfl)
            simp only [dstOf, List.getElem?_toArray, List.getElem?_cons_zero, List.getElem?_cons_succ, Option.bind, Act.put, List.setIfInBounds_toArray, List.set_cons_zero, List.set_cons_succ]
            refine till_take 10 8 false (v := ?v10b) (by kernel_rfl) (by kernel_rfl) (by kernel_rfl) (by kernel_rfl) (by kernel_rfl) (fun _ _ _ h => h) ?hw10b S0 ?hy10b ?rest10b
            case hw10b => (simp only [List.getElem?_toArray, List.getElem?_cons_zero, List.getElem?_cons_succ, Option.elim]; rfl)
            case hy10b => (simp only [List.getElem?_toArray, List.getElem?_cons_zero, List.getElem?_cons_succ, Option.elim]; intro wx _; go_simp; with_reducible rfl)
            simp only [dstOf, List.getElem?_toArray, List.getElem?_cons_zero, List.getElem?_cons_succ, Option.bind, Act.put, List.setIfInBounds_toArray, List.set_cons_zero, List.set_cons_succ]
            refine till_take 11 8 false (v := ?v11b) (by kernel_rfl) (by kernel_rfl) (by kernel_rfl) (by kernel_rfl) (by kernel_rfl) (fun _ _ _ h => h) ?hw11b S0 ?hy11b ?rest11b
            case hw11b => (simp only [List.getElem?_toArray, List.getElem?_cons_zero, List.getElem?_cons_succ, Option.elim]; rfl)
            case hy11b => (simp only [List.getElem?_toArray, List.getElem?_cons_zero, List.getElem?_cons_succ, Option.elim]; intro wx _; go_simp; with_reducible rfl)
            simp only [dstOf, List.getElem?_toArray, List.getElem?_cons_zero, List.getElem?_cons_succ, Option.bind, Act.put, List.setIfInBounds_toArray, List.set_cons_zero, List.set_cons_succ]
            refine till_take 12 8 true (v := ?v12b) (by kernel_rfl) (by kernel_rfl) (by kernel_rfl) (by kernel_rfl) (by kernel_rfl) (fun _ _ _ h => h) ?hw12b S0 ?hy12b ?rest12b
            case hw12b => (simp only [List.getElem?_toArray, List.getElem?_cons_zero, List.getElem?_cons_succ, Option.elim]; rfl)
            case hy12b => (simp only [List.getElem?_toArray, List.getElem?_cons_zero, List.getElem?_cons_succ, Option.elim]; intro wx hx; obtain ⟨x1, x2, x3⟩ := hx trivial; go_simp; with_reducible rfl)
            simp only [dstOf, List.getElem?_toArray, List.getElem?_cons_zero, List.getElem?_cons_succ, Option.bind, Act.put, List.setIfInBounds_toArray, List.set_cons_zero, List.set_cons_succ]
            refine till_take 13 8 false (v := ?v13b) (by kernel_rfl) (by kernel_rfl) (by kernel_rfl) (by kernel_rfl) (by kernel_rfl) (fun _ _ _ h => h) ?hw13b S0 ?hy13b ?rest13b
            case hw13b => (simp only [List.getElem?_toArray, List.getElem?_cons_zero, List.getElem?_cons_succ, Option.elim]; rfl)
            case hy13b => (simp only [List.getElem?_toArray, List.getElem?_cons_zero, List.getElem?_cons_succ, Option.elim]; intro wx _; go_simp; with_reducible rfl)
            simp only [dstOf, List.getElem?_toArray, List.getElem?_cons_zero, List.getElem?_cons_succ, Option.bind, Act.put, List.setIfInBounds_toArray, List.set_cons_zero, List.set_cons_succ]
            refine till_take 14 8 false (v := ?v14b) (by kernel_rfl) (by kernel_rfl) (by kernel_rfl) (by kernel_rfl) (by kernel_rfl) (fun _ _ _ h => h) ?hw14b S0 ?hy14b ?rest14b
            case hw14b => (simp only [List.getElem?_toArray, List.getElem?_cons_zero, List.getElem?_cons_succ, Option.elim]; rfl)
            case hy14b => (simp only [List.getElem?_toArray, List.getElem?_cons_zero, List.getElem?_cons_succ, Option.elim]; intro wx _; go_simp; with_reducible rfl)
            simp only [dstOf, List.getElem?_toArray, List.getElem?_cons_zero, List.getElem?_cons_succ, Option.bind, Act.put, List.setIfInBounds_toArray, List.set_cons_zero, List.set_cons_succ]
            refine till_take 15 8 false (v := ?v15b) (by kernel_rfl) (by kernel_rfl) (by kernel_rfl) (by kernel_rfl) (by kernel_rfl) (fun _ _ _ h => h) ?hw15b S0 ?hy15b ?rest15b
            case hw15b => (simp only [List.getElem?_toArray, List.getElem?_cons_zero, List.getElem?_cons_succ, Option.elim]; rfl)
            case hy15b => (simp only [List.getElem?_toArray, List.getElem?_cons_zero, List.getElem?_cons_succ, Option.elim]; intro wx _; go_simp; with_reducible rfl)
            simp only [dstOf, List.getElem?_toArray, List.getElem?_cons_zero, List.getElem?_cons_succ, Option.bind, Act.put, List.setIfInBounds_toArray, List.set_cons_zero, List.set_cons_succ]
            refine till_take 16 8 true (v := ?v16b) (by kernel_rfl) (by kernel_rfl) (by kernel_rfl) (by kernel_rfl) (by kernel_rfl) (fun _ _ _ h => h) ?hw16b S0 ?hy16b ?rest16b
            case hw16b => (simp only [List.getElem?_toArray, List.getElem?_cons_zero, List.getElem?_cons_succ, Option.elim]; rfl)
            case hy16b => (simp only [List.getElem?_toArray, List.getElem?_cons_zero, List.getElem?_cons_succ, Option.elim]; intro wx hx; obtain ⟨x1, x2, x3⟩ := hx trivial; go_simp; with_reducible rfl)
            simp only [dstOf, List.getElem?_toArray, List.getElem?_cons_zero, List.getElem?_cons_succ, Option.bind, Act.put, List.setIfInBounds_toArray, List.set_cons_zero, List.set_cons_succ]
            refine till_take 17 8 false (v := ?v17b) (by kernel_rfl) (by kernel_rfl) (by kernel_rfl) (by kernel_rfl) (by kernel_rfl) (fun _ _ _ h => h) ?hw17b S0 ?hy17b ?rest17b
            case hw17b => (simp only [List.getElem?_toArray, List.getElem?_cons_zero, List.getElem?_cons_succ, Option.elim]; rfl)
            case hy17b => (simp only [List.getElem?_toArray, List.getElem?_cons_zero, List.getElem?_cons_succ, Option.elim]; intro wx _; go_simp; with_reducible rfl)
            simp only [dstOf, List.getElem?_toArray, List.getElem?_cons_zero, List.getElem?_cons_succ, Option.bind, Act.put, List.setIfInBounds_toArray, List.set_cons_zero, List.set_cons_succ]
            refine till_take 18 8 false (v := ?v18b) (by kernel_rfl) (by kernel_rfl) (by kernel_rfl) (by kernel_rfl) (by kernel_rfl) (fun _ _ _ h => h) ?hw18b S0 ?hy18b ?rest18b
            case hw18b => (simp only [List.getElem?_toArray, List.getElem?_cons_zero, List.getElem?_cons_succ, Option.elim]; rfl)
            case hy18b => (simp only [List.getElem?_toArray, List.getElem?_cons_zero, List.getElem?_cons_succ, Option.elim]; intro wx _; go_simp; with_reducible rfl)
            simp only [dstOf, List.getElem?_toArray, List.getElem?_cons_zero, List.getElem?_cons_succ, Option.bind, Act.put, List.setIfInBounds_toArray, List.set_cons_zero, List.set_cons_succ]
            refine till_take 19 8 false (v := ?v19b) (by kernel_rfl) (by kernel_rfl) (by kernel_rfl) (by kernel_rfl) (by kernel_rfl) (fun _ _ _ h => h) ?hw19b S0 ?hy19b ?rest19b
            case hw19b => (simp only [List.getElem?_toArray, List.getElem?_cons_zero, List.getElem?_cons_succ, Option.elim]; rfl)
            case hy19b => (simp only [List.getElem?_toArray, List.getElem?_cons_zero, List.getElem?_cons_succ, Option.elim]; intro wx _; go_simp; with_reducible rfl)
            simp only [dstOf, List.getElem?_toArray, List.getElem?_cons_zero, List.getElem?_cons_succ, Option.bind, Act.put, List.setIfInBounds_toArray, List.set_cons_zero, List.set_cons_succ]
            refine till_take 20 8 true (v := ?v20b) (by kernel_rfl) (by kernel_rfl) (by kernel_rfl) (by kernel_rfl) (by kernel_rfl) (fun _ _ _ h => h) ?hw20b S0 ?hy20b ?rest20b
            case hw20b => (simp only [List.getElem?_toArray, List.getElem?_cons_zero, List.getElem?_cons_succ, Option.elim]; rfl)
            case hy20b => (simp only [List.getElem?_toArray, List.getElem?_cons_zero, List.getElem?_cons_succ, Option.elim]; intro wx hx; obtain ⟨x1, x2, x3⟩ := hx trivial; go_simp; with_reducible rfl)
            simp only [dstOf, List.getElem?_toArray, List.getElem?_cons_zero, List.getElem?_cons_succ, Option.bind, Act.put, List.setIfInBounds_toArray, List.set_cons_zero, List.set_cons_succ]
            refine till_take 21 8 false (v := ?v21b) (by kernel_rfl) (by kernel_rfl) (by kernel_rfl) (by kernel_rfl) (by kernel_rfl) (fun _ _ _ h => h) ?hw21b S0 ?hy21b ?rest21b
            case hw21b => (simp only [List.getElem?_toArray, List.getElem?_cons_zero, List.getElem?_cons_succ, Option.elim]; rfl)
            case hy21b => (simp only [List.getElem?_toArray, List.getElem?_cons_zero, List.getElem?_cons_succ, Option.elim]; intro wx _; go_simp; with_reducible rfl)
            simp only [dstOf, List.getElem?_toArray, List.getElem?_cons_zero, List.getElem?_cons_succ, Option.bind, Act.put, List.setIfInBounds_toArray, List.set_cons_zero, List.set_cons_succ]
            refine till_take 22 8 false (v := ?v22b) (by kernel_rfl) (by kernel_rfl) (by kernel_rfl) (by kernel_rfl) (by kernel_rfl) (fun _ _ _ h => h) ?hw22b S0 ?hy22b ?rest22b
            case hw22b => (simp only [List.getElem?_toArray, List.getElem?_cons_zero, List.getElem?_cons_succ, Option.elim]; rfl)
            case hy22b => (simp only [List.getElem?_toArray, List.getElem?_cons_zero, List.getElem?_cons_succ, Option.elim]; intro wx _; go_simp; with_reducible rfl)
            simp only [dstOf, List.getElem?_toArray, List.getElem?_cons_zero, List.getElem?_cons_succ, Option.bind, Act.put, List.setIfInBounds_toArray, List.set_cons_zero, List.set_cons_succ]
            refine till_take 23 8 false (v := ?v23b) (by kernel_rfl) (by kernel_rfl) (by kernel_rfl) (by kernel_rfl) (by kernel_rfl) (fun _ _ _ h => h) ?hw23b S0 ?hy23b ?rest23b
            case hw23b => (simp only [List.getElem?_toArray, List.getElem?_cons_zero, List.getElem?_cons_succ, Option.elim]; rfl)
            case hy23b => (simp only [List.getElem?_toArray, List.getElem?_cons_zero, List.getElem?_cons_succ, Option.elim]; intro wx _; go_simp; with_reducible rfl)
            simp only [dstOf, List.getElem?_toArray, List.getElem?_cons_zero, List.getElem?_cons_succ, Option.bind, Act.put, List.setIfInBounds_toArray, List.set_cons_zero, List.set_cons_succ]
            refine till_take 24 8 true (v := ?v24b) (by kernel_rfl) (by kernel_rfl) (by kernel_rfl) (by kernel_rfl) (by kernel_rfl) (fun _ _ _ h => h) ?hw24b S0 ?hy24b ?rest24b
            case hw24b => (simp only [List.getElem?_toArray, List.getElem?_cons_zero, List.getElem?_cons_succ, Option.elim]; rfl)
            case hy24b => (simp only [List.getElem?_toArray, List.getElem?_cons_zero, List.getElem?_cons_succ, Option.elim]; intro wx hx; obtain ⟨x1, x2, x3⟩ := hx trivial; go_simp; with_reducible rfl)
            simp only [dstOf, List.getElem?_toArray, List.getElem?_cons_zero, List.getElem?_cons_succ, Option.bind, Act.put, List.setIfInBounds_toArray, List.set_cons_zero, List.set_cons_succ]
            refine till_take 25 8 false (v := ?v25b) (by kernel_rfl) (by kernel_rfl) (by kernel_rfl) (by kernel_rfl) (by kernel_rfl) (fun _ _ _ h => h) ?hw25b S0 ?hy25b ?rest25b
            case hw25b => (simp only [List.getElem?_toArray, List.getElem?_cons_zero, List.getElem?_cons_succ, Option.elim]; rfl)
            case hy25b => (simp only [List.getElem?_toArray, List.getElem?_cons_zero, List.getElem?_cons_succ, Option.elim]; intro wx _; go_simp; with_reducible rfl)
            simp only [dstOf, List.getElem?_toArray, List.getElem?_cons_zero, List.getElem?_cons_succ, Option.bind, Act.put, List.setIfInBounds_toArray, List.set_cons_zero, List.set_cons_succ]
            refine till_step 26 (by kernel_rfl) (by kernel_rfl) (fun K hK => ?_)
            simp only [List.getElem?_toArray, List.getElem?_cons_zero, List.getElem?_cons_succ, Option.elim]
            rw [if_pos (by rfl)]
            go_simp
            refine hK.out _ _ ?_
            clear hK K
            try simp only [Act.put, List.setIfInBounds_toArray, List.set_cons_zero, List.set_cons_succ]
            refine till_step 27 (by kernel_rfl) (by kernel_rfl) (fun K hK => ?_)
            simp only [List.getElem?_toArray, List.getElem?_cons_zero, List.getElem?_cons_succ, Option.elim]
            rw [if_pos (by rfl)]
            refine Lib.wp_append_run _ (.tmp 58) (.tmp 84) 61 61 rfl _ _ rfl rfl _ _ HRR.out ?_
            refine hK.out _ _ ?_
            clear hK K
            try simp only [Act.put, List.setIfInBounds_toArray, List.set_cons_zero, List.set_cons_succ]
            refine till_step 28 (by kernel_rfl) (by kernel_rfl) (fun K hK => ?_)
            simp only [List.getElem?_toArray, List.getElem?_cons_zero, List.getElem?_cons_succ, Option.elim]
            rw [if_pos (by rfl)]
            go_simp
            refine hK.out _ _ ?_
            clear hK K
            try simp only [Act.put, List.setIfInBounds_toArray, List.set_cons_zero, List.set_cons_succ]
            refine till_end (by kernel_rfl) ?_ _
            go_wp2
            go_roundw
            case rel => exact ⟨k + 1, by omega, by go_num, HB3, Lib.hid (by rw [HFT.out]; exact HO3.out), HJ3⟩
            case measure => simp [intOf]; omega
          · obtain rfl : k = R1.files.length := by omega
            have hO := HO.out
            rw [List.take_length] at hO
            obtain ⟨oa, oc, rfl⟩ := own_form hO
            have f0 := hr.fz 0
            have f1 := hr.fz 1
            have c1 := hr.c 1
            simp only [List.getElem?_toArray, List.getElem?_cons_zero, List.getElem?_cons_succ] at c1
            obtain ⟨lab4, L4, h4, _, k4⟩ := H3.out.1.newFiles (R' := { R1 with files := fallen R1.files }) HE.out HJ.out HOKF.out rfl rfl rfl rfl rfl hO
            have HNW := Lib.hid (h4.newQueue (R' := { R1 with files := fallen R1.files, queue := [] }) (v := .slice none 0 0) (Below.refl _ _) (fun j hj => by cases hj) HOK.out rfl rfl rfl rfl rfl (World.ownsRow_nil _ _ _ _))
            have K4 := Lib.hid (H3.out.2.trans k4)
            clear hO hr h4 k4
            go_wp2
            go_end0
            obtain ⟨lab5, n1, n2⟩ := HNW.out
            exact ⟨rfl, lab5, by rw [HCR.out]; exact n1, K4.out.trans n2⟩
theorem rcrash_any (h : RIn w lab id r R L) (v : Value) (ks : List Int) (hk : KeepR w lab id R L v ks) (hl : ks.length ≤ 140737488355327) (hin : ∀ p ∈ R.queue, 64 * p.2 < (R.now p.1).length) :
    Calls Try.prog 36 #[.pointer (some ⟨r, 0, none⟩), v] w (RPost lab id r (.tuple #[]) (R.crash ks) w) := by
  cases hd : R.down with
  | false => exact rcrash_up h v ks hk hl hd hin
  | true =>
    refine (rcrash_down h v hd).mono ?_
    rintro e w' ⟨rfl, rfl⟩
    have : R.crash ks = R := by simp [Rf.crash, hd]
    rw [this]
    exact ⟨rfl, lab, ⟨L, h⟩, Chg.refl h.lo⟩
end
end Go.Proofs.Ytadnmoaemnajgaa
