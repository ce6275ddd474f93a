/- Several texts in one: DRSettle, DRPlain, DRCrash, DROps, DROps2, DROps3, DROps4, DROps5, DRNew, DTell, DSim, DOrd2, JOrd. -/
import Derived.Test.YtjbcgahdiolhhaaGreatDoorME
import Derived.Test.YtjbcgahdiolhhaaGreatDoorMC
namespace Go.Proofs.YtjbcgahdiolhhaaGreatDoor.D2
open Go.RowKit Go.Maps Go.ChangeMaps Go.MapKept
open Dp
attribute [local go_sem ↓] Go.wp_at_zero Go.wp_at_succ

/-- A string becomes a file and its durable part. -/
def Rf.settle (R : Rf) (f : Nat) (s : List UInt8) : Rf := { R.set ⟨f, s, s⟩ with queue := dropsF f R.queue }
theorem Rf.Ok.settle {R : Rf} (h : R.Ok) {f : Nat} {s : List UInt8} (h1 : f < 16) (h2 : s.length ≤ 16777216) : (R.settle f s).Ok :=
  (h.set (x := ⟨f, s, s⟩) h1 h2 h2).queue' (q := dropsF f R.queue) (h.queue.filter _) (fun p hp => h.few p (List.mem_filter.1 hp).1)
section
variable {w : World} {lab : Nat → Nat} {id r : Nat} {R : Rf} {L : RLoc}
set_option maxHeartbeats 2000000 in
set_option maxRecDepth 100000 in
theorem rsettle_any (h : RIn w lab id r R L) (f : Nat) (s : List UInt8) (h1 : f < 16) (h2 : s.length ≤ 16777216) :
    Calls Tryz.prog 59 #[.pointer (some ⟨r, 0, none⟩), .int .i64 (f : Int), .string (bs s)] w (RPost lab id r (.tuple #[]) (R.settle f s) w) := by
  have HS := Lib.hid (rset_any h ⟨f, s, s⟩ h1 h2 h2)
  have HOK := Lib.hid (h.ok.settle h1 h2)
  have hql := queue_len h.ok.queue h.ok.few
  clear h
  go_enter Tryz.func59, Tryz.ntmps59
  go_wp2_with (go_at_call 72; refine HS.out.mono ?_; rintro e wa ⟨rfl, laba, ⟨La, ha⟩, ka⟩; refine Hid.out ?_)
  refine Lib.hid ?_
  have H := Lib.hid ha
  have KA := Lib.hid ka
  obtain ⟨fa, fc, hfv⟩ := own_form ha.queue
  have HFV := Lib.hid hfv
  clear ha ka hfv HS
  go_wp2
  go_loopw [6, 7] (fun v i wr => ∃ k : Nat, k ≤ R.queue.length ∧ i = .int .i64 (k : Int) ∧ Hid (Below wa.heap.size wa wr) ∧ Hid (wr.ownsRow 0 84 2 v (dropsF f (R.queue.take k)).length (secVs (dropsF f (R.queue.take k)))) ∧ Hid (∀ j, v.ownBlock = some j → wa.heap.size ≤ j)) (fun _ i _ => R.queue.length - (intOf i).toNat)
  case atStart => exact ⟨0, Nat.zero_le _, rfl, Lib.hid (Below.refl _ _), Lib.hid (World.ownsRow_nil _ _ _ _), Lib.hid fun j hj => by cases hj⟩
  case round =>
    obtain ⟨k, hk, rfl, HE, HO, HJ⟩ := hrel
    have hwr := HE.out.size
    have hr := H.out.fresh HE.out
    have c0 := hr.c 1
    simp only [List.getElem?_toArray, List.getElem?_cons_zero, List.getElem?_cons_succ] at c0
    rw [HFV.out] at c0
    have hqe : (R.set ⟨f, s, s⟩).queue = R.queue := rfl
    rw [hqe] at c0
    by_cases hlt : k < R.queue.length
    · obtain ⟨y, hy⟩ : ∃ y, R.queue[k]? = some y := ⟨_, List.getElem?_eq_getElem hlt⟩
      obtain ⟨g, cap, hv, d0, d1⟩ := q_cell hr hy
      have hv2 := HFV.out.symm.trans hv
      simp only [Value.slice.injEq, true_and] at hv2
      obtain ⟨rfl, rfl⟩ := hv2
      have HY := Lib.hid hy
      have HDT := Lib.hid (dropsF_take (f := f) hy)
      clear hy hr hv
      have hol : (dropsF f (R.queue.take k)).length ≤ 4194304 := by have := List.length_filter_le (fun p => decide (p.1 ≠ f)) (R.queue.take k); have := List.length_take_le k R.queue; unfold dropsF; omega
      obtain ⟨oa, oc, rfl⟩ := own_form HO.out
      by_cases hne : y.1 = f
      · have hne' : ((y.1 : Int) == (f : Int)) = true := by rw [beq_iff_eq]; omega
        have HN := Lib.hid hne
        clear hne hqe
        go_wp2
        go_roundw
        case rel => exact ⟨k + 1, by omega, by go_num, HE, Lib.hid (by rw [HDT.out, if_pos HN.out, List.append_nil]; exact HO.out), HJ⟩
        case measure => simp [intOf]; omega
      · have hne' : ((y.1 : Int) == (f : Int)) = false := by rw [beq_eq_false_iff_ne]; omega
        have HN := Lib.hid hne
        have hA := below_alloc wr (.cells #[.int .i64 (y.1 : Int), .int .i64 (y.2 : Int)] 84)
        obtain ⟨v', w', r1, r2, r3, r4⟩ := push_sec (wr.alloc (.cells #[.int .i64 (y.1 : Int), .int .i64 (y.2 : Int)] 84)) _ _ (HO.out.alloc _) hol y (a := wr.heap.size) (alloc_new_cell wr _ _ 0) (alloc_new_cell wr _ _ 1) 66
        have HRR := Lib.hid r1
        have hbA := HE.out.trans (hA.mono hwr)
        have HB3 := Lib.hid (grown_below hbA r3 HJ.out)
        have HO3 := Lib.hid r2
        have HJ3 := Lib.hid (show ∀ j, v'.ownBlock = some j → wa.heap.size ≤ j from fun j hj => by
          rcases r4 with h | h
          · exact HJ.out j (h.symm.trans hj)
          · have h9 := h.symm.trans hj
            simp only [World.size_alloc, Option.some.injEq] at h9
            omega)
        clear r1 r2 r3 r4 hA hbA hne hqe
        go_wp2_with (at_builtin; refine wpList_append_run rfl _ _ _ _ rfl _ _ rfl rfl _ _ HRR.out ?_)
        go_wp2
        go_roundw
        case rel => exact ⟨k + 1, by omega, by go_num, HB3, Lib.hid (by rw [HDT.out, if_neg HN.out]; exact HO3.out), HJ3⟩
        case measure => simp [intOf]; omega
    · obtain rfl : k = R.queue.length := by omega
      have hO := HO.out
      rw [List.take_length] at hO
      obtain ⟨oa, oc, rfl⟩ := own_form hO
      have f0 := hr.fz 1
      have HNW := Lib.hid (H.out.newQueue (R' := R.settle f s) HE.out HJ.out HOK.out rfl rfl rfl rfl rfl hO)
      clear hO hr hqe
      go_wp2
      go_end0
      obtain ⟨lab', n1, n2⟩ := HNW.out
      exact ⟨rfl, lab', n1, KA.out.trans n2⟩
end
end Go.Proofs.YtjbcgahdiolhhaaGreatDoor.D2
namespace Go.Proofs.YtjbcgahdiolhhaaGreatDoor.D2
open Dp

theorem look_set (R : Rf) (x : Fl) (f : Int) : (R.set x).look f = if f = (x.num : Int) then some x else R.look f := by
  unfold Rf.set Rf.look
  rw [List.find?_append, List.find?_filter]
  by_cases h : f = (x.num : Int)
  · rw [if_pos h]
    have : R.files.find? (fun a => decide (decide (a.num ≠ x.num) = true ∧ decide ((a.num : Int) = f) = true)) = none := by
      rw [List.find?_eq_none]
      intro y _
      simp only [decide_eq_true_eq, not_and]
      intro h1 h2; omega
    rw [this]
    simp [h]
  · rw [if_neg h]
    have h1 : (fun a : Fl => decide (decide (a.num ≠ x.num) = true ∧ decide ((a.num : Int) = f) = true)) = fun a => decide ((a.num : Int) = f) := by
      funext a
      by_cases h2 : (a.num : Int) = f
      · have : a.num ≠ x.num := fun e => h (by rw [← e]; exact h2.symm)
        simp [h2, this]
      · simp [h2]
    rw [h1]
    have h2 : ([x] : List Fl).find? (fun a => decide ((a.num : Int) = f)) = none := by
      simp; omega
    rw [h2]; simp
theorem now_set (R : Rf) (x : Fl) (f : Int) : (R.set x).now f = if f = (x.num : Int) then x.now else R.now f := by
  unfold Rf.now; rw [look_set]; split <;> rfl
theorem dur_set (R : Rf) (x : Fl) (f : Int) : (R.set x).dur f = if f = (x.num : Int) then x.dur else R.dur f := by
  unfold Rf.dur; rw [look_set]; split <;> rfl
theorem now_harden (R : Rf) (p : Nat × Nat) (f : Int) : (R.harden p).now f = R.now f := by
  unfold Rf.harden; rw [now_set]
  split
  · rename_i h; rw [h]
  · rfl
def Rf.hardens (R : Rf) (ps : List (Nat × Nat)) : Rf := ps.foldl Rf.harden R
theorem rhardens_snoc (R : Rf) (ps : List (Nat × Nat)) (p : Nat × Nat) : R.hardens (ps ++ [p]) = (R.hardens ps).harden p := by simp [Rf.hardens, List.foldl_append]
theorem rhardens_keeps : ∀ (ps : List (Nat × Nat)) (R : Rf), (R.hardens ps).queue = R.queue ∧ (R.hardens ps).lost = R.lost ∧ (R.hardens ps).down = R.down ∧ (R.hardens ps).armed = R.armed ∧ (R.hardens ps).keep = R.keep ∧ ∀ f, (R.hardens ps).now f = R.now f
  | [], _ => ⟨rfl, rfl, rfl, rfl, rfl, fun _ => rfl⟩
  | p :: ps, R => by
    obtain ⟨h1, h2, h3, h4, h5, h6⟩ := rhardens_keeps ps (R.harden p)
    exact ⟨h1, h2, h3, h4, h5, fun f => (h6 f).trans (now_harden R p f)⟩
theorem hardens_flags : ∀ (ps : List (Nat × Nat)) (R : Rf) (d : Bool) (a : Nat), ({ R with down := d, armed := a } : Rf).hardens ps = { R.hardens ps with down := d, armed := a }
  | [], _, _, _ => rfl
  | p :: ps, R, d, a => hardens_flags ps (R.harden p) d a
/-- The files that the durable parts make. -/
def fallen (l : List Fl) : List Fl := l.map fun x => ⟨x.num, x.dur, x.dur⟩
def Rf.crash (R : Rf) (ks : List Int) : Rf :=
  if R.down then R else { R.hardens (survive ks 0 R.queue) with files := fallen (R.hardens (survive ks 0 R.queue)).files, queue := [], armed := 0, down := true }
theorem Rf.Ok.fallen {R : Rf} (h : R.Ok) : ({ R with files := fallen R.files, queue := [] } : Rf).Ok := by
  refine ⟨?_, fun x hx => ?_, by simp, by simp, h.lost, h.armed, h.keep, h.size⟩
  · have : (Proofs.YtjbcgahdiolhhaaGreatDoor.D2.fallen R.files).map Fl.num = R.files.map Fl.num := by simp [Proofs.YtjbcgahdiolhhaaGreatDoor.D2.fallen, Function.comp_def]
    simp only [this]; exact h.nums
  · obtain ⟨y, hy, rfl⟩ := List.mem_map.1 hx
    have := h.file y hy
    exact ⟨this.1, this.2.2, this.2.2⟩
theorem Rf.Ok.fallen1 {R : Rf} (h : R.Ok) : ({ R with files := Proofs.YtjbcgahdiolhhaaGreatDoor.D2.fallen R.files } : Rf).Ok := ⟨h.fallen.nums, h.fallen.file, h.queue, h.few, h.lost, h.armed, h.keep, h.size⟩
theorem survive_none : ∀ (ps : List (Nat × Nat)) (i : Nat), survive [] i ps = []
  | [], _ => rfl
  | p :: ps, i => by simp [survive, odd, survive_none ps]
theorem fallen_take {l : List Fl} {k : Nat} {x : Fl} (h : l[k]? = some x) : fallen (l.take (k + 1)) = fallen (l.take k) ++ [⟨x.num, x.dur, x.dur⟩] := by
  obtain ⟨hk, rfl⟩ := List.getElem?_eq_some_iff.1 h
  unfold fallen
  rw [List.take_succ_eq_append_getElem hk, List.map_append]
  rfl
theorem i64_and1 (n : Int) : bits .and .i64 n 1 = n % 2 := by
  have h7 : (BitVec.ofInt 64 1).toNat = 2 ^ 1 - 1 := by decide
  have key : (BitVec.ofInt 64 n &&& BitVec.ofInt 64 1).toNat = (n % ((2 ^ 64 : Nat) : Int)).toNat % 2 ^ 1 := by
    rw [BitVec.toNat_and, BitVec.toNat_ofInt, h7, Nat.and_two_pow_sub_one_eq_mod]
  show IntKind.i64.wrap ((BitVec.ofInt 64 n &&& BitVec.ofInt 64 1).toNat : Nat) = n % 2
  rw [key, IntKind.wrap_i64]
  omega

/-! ### The list of what a crash keeps -/
def KeepR (w : World) (lab : Nat → Nat) (id : Nat) (R : Rf) (L : RLoc) (v : Value) (ks : List Int) : Prop :=
  SrcIs w 1 v ks.length (intVs ks) ∧ ((v = L.kv ∧ ks = R.keep) ∨ ∀ ad n c, v = .slice (some ad) n c → 0 < n → (lab ad.block < id ∨ id + 64 ≤ lab ad.block))
theorem KeepR.src {w wr : World} {lab lab' : Nat → Nat} {id r : Nat} {R R' : Rf} {L L' : RLoc} {v : Value} {ks : List Int} (h : KeepR w lab id R L v ks) (hd : RIn wr lab' id r R' L') (hL : L'.kv = L.kv) (hk : R'.keep = R.keep) (hc : Chg id lab lab' w wr) :
    SrcIs wr 1 v ks.length (intVs ks) := by
  obtain ⟨⟨h1, h2⟩, h3⟩ := h
  rcases h3 with ⟨rfl, rfl⟩ | h3
  · have := SrcIs.of_own hd.keep (oneCell_ints _)
    rw [hL, hk] at this
    exact this
  · refine ⟨h1, ?_⟩
    rcases h2 with h2 | ⟨ad, cap, rfl, h4, h5⟩
    · exact .inl h2
    · refine .inr ⟨ad, cap, rfl, fun j u hj => ?_, h5⟩
      have h6 := h4 j u hj
      have hb : (ad.add j).block = ad.block := by cases ad; unfold Addr.add; split <;> rfl
      rw [World.cell?_of_block (w := w) (hc.block _ (Lib.lt_of_cell h6) (by rw [hb]; exact h3 ad _ _ rfl (by have := (List.getElem?_eq_some_iff.1 hj).1; rw [intVs_length] at this; omega)))]
      exact h6
theorem KeepR.self {w : World} {lab : Nat → Nat} {id r : Nat} {R : Rf} {L : RLoc} (h : RIn w lab id r R L) : KeepR w lab id R L L.kv R.keep := ⟨SrcIs.of_own h.keep (oneCell_ints _), .inl ⟨rfl, rfl⟩⟩
end Go.Proofs.YtjbcgahdiolhhaaGreatDoor.D2
namespace Go.Proofs.YtjbcgahdiolhhaaGreatDoor.D2
open Go.RowKit Go.Maps Go.ChangeMaps Go.MapKept
open Dp
attribute [local go_sem ↓] Go.wp_at_zero Go.wp_at_succ
section
variable {w : World} {lab : Nat → Nat} {id r : Nat} {R : Rf} {L : RLoc}
theorem rcrash_down (h : RIn w lab id r R L) (v : Value) (hd : R.down = true) : Calls Tryz.prog 21 #[.pointer (some ⟨r, 0, none⟩), v] w fun e w' => e = .returned (.tuple #[]) ∧ w = w' := by
  have c3 := h.c 3
  simp only [List.getElem?_toArray, List.getElem?_cons_zero, List.getElem?_cons_succ] at c3
  rw [hd] at c3
  clear h hd
  go_enter Tryz.func21, Tryz.ntmps21
  go_wp2
  (try simp only [Exit.inBlock, Exit.then])
  refine bodyPost_ret (results_none rfl _ _ _) rfl ?_
  exact ⟨rfl, rfl⟩
theorem tmod2 (z : Int) : z.tmod 2 ≠ 0 ↔ z % 2 = 1 := by
  constructor
  · intro h
    by_cases h2 : z % 2 = 0
    · exact absurd (Int.tmod_eq_zero_of_dvd (show (2 : Int) ∣ z by omega)) h
    · omega
  · intro h h2
    have := Int.dvd_of_tmod_eq_zero h2
    omega
/-- While sectors survive. -/
def RHardInv (lab : Nat → Nat) (id r : Nat) (R : Rf) (L : RLoc) (w : World) (ps : List (Nat × Nat)) (wr : World) : Prop :=
  ∃ lab' L', RIn wr lab' id r (R.hardens ps) L' ∧ L'.kv = L.kv ∧ Chg id lab lab' w wr
set_option maxHeartbeats 4000000 in
set_option maxRecDepth 100000 in
theorem rcrash_up (h : RIn w lab id r R L) (v : Value) (ks : List Int) (hk : KeepR w lab id R L v ks) (hl : ks.length ≤ 140737488355327) (hd : R.down = false) (hin : ∀ p ∈ R.queue, 64 * p.2 < (R.now p.1).length) :
    Calls Tryz.prog 21 #[.pointer (some ⟨r, 0, none⟩), v] w (RPost lab id r (.tuple #[]) (R.crash ks) w) := by
  have c3 := h.c 3
  have c4 := h.c 4
  simp only [List.getElem?_toArray, List.getElem?_cons_zero, List.getElem?_cons_succ] at c3 c4
  rw [hd] at c3
  have f3 := h.fz 3
  have f4 := h.fz 4
  obtain ⟨h1, k1⟩ := h.setField (i := 3) (v := .bool true) (R' := { R with down := true }) (Hp.refl _) ⟨h.ok.nums, h.ok.file, h.ok.queue, h.ok.few, h.ok.lost, h.ok.armed, h.ok.keep, h.ok.size⟩ rfl rfl rfl (by simp)
  obtain ⟨h2, k2⟩ := h1.setField (i := 4) (v := .int .i64 0) (R' := { R with down := true, armed := 0 }) (Hp.refl _) ⟨h.ok.nums, h.ok.file, h.ok.queue, h.ok.few, h.ok.lost, by simp, h.ok.keep, h.ok.size⟩ rfl rfl rfl (by simp)
  obtain ⟨va, vc, rfl⟩ : ∃ va vc, v = .slice va ks.length vc := by
    rcases hk.1.2 with ⟨rfl, h0⟩ | ⟨ad, cap, rfl, _⟩
    · exact ⟨none, 0, by rw [h0]⟩
    · exact ⟨_, _, rfl⟩
  have HK := Lib.hid hk
  have hn : R.queue.length ≤ 4194304 := queue_len h.ok.queue h.ok.few
  have H2 := Lib.hid h2
  have K2 := Lib.hid (k1.trans k2)
  have HI := Lib.hid hin
  have HFEW := Lib.hid h.ok.few
  obtain ⟨R0, hR0⟩ : ∃ R0 : Rf, R0 = { R with down := true, armed := 0 } := ⟨_, rfl⟩
  rw [← hR0] at H2
  have HR0 := Lib.hid hR0
  have HCR := Lib.hid (show R.crash ks = { R0.hardens (survive ks 0 R.queue) with files := fallen (R0.hardens (survive ks 0 R.queue)).files, queue := [] } by
    rw [hR0, hardens_flags]
    unfold Rf.crash
    rw [hd]
    rfl)
  clear h hk hd hin h1 k1 h2 k2 hR0
  go_enter Tryz.func21, Tryz.ntmps21
  go_wp2
  go_loopw [4] (fun i wr => ∃ k : Nat, k ≤ R.queue.length ∧ i = .int .i64 (k : Int) ∧ RHardInv lab id r R0 L w (survive ks 0 (R.queue.take k)) wr) (fun i _ => R.queue.length - (intOf i).toNat)
  case atStart => exact ⟨0, Nat.zero_le _, rfl, lab, L, H2.out, rfl, K2.out⟩
  case round =>
    obtain ⟨k, hkl, rfl, hinv⟩ := hrel
    have HINV := Lib.hid hinv
    clear hinv c3 c4 f3 f4
    obtain ⟨lab1, L1, h1, hkv, k1⟩ := HINV.out
    have hke := rhardens_keeps (survive ks 0 (R.queue.take k)) R0
    have hq0 : (R0.hardens (survive ks 0 (R.queue.take k))).queue = R.queue := by rw [hke.1, HR0.out]
    have c1 := h1.c 1
    simp only [List.getElem?_toArray, List.getElem?_cons_zero, List.getElem?_cons_succ] at c1
    obtain ⟨qa, qc, hqv⟩ := own_form h1.queue
    rw [hq0] at hqv
    rw [hqv] at c1
    have HSRC := Lib.hid (HK.out.src h1 hkv (by rw [hke.2.2.2.2.1, HR0.out]) k1)
    have HKE := Lib.hid hke
    have HQ0 := Lib.hid hq0
    have HQV := Lib.hid hqv
    have H1 := Lib.hid h1
    have K1 := Lib.hid k1
    have HKV := Lib.hid hkv
    by_cases hlt : k < R.queue.length ∧ 0 < ks.length
    · obtain ⟨hlt, h0⟩ := hlt
      obtain ⟨p, hp⟩ : ∃ p, R.queue[k]? = some p := ⟨_, List.getElem?_eq_getElem hlt⟩
      have HPP := Lib.hid hp
      clear hke hq0 hqv h1 k1 hkv hp
      obtain ⟨qg, qcap, hqv2, s0, s1⟩ := q_cell H1.out (k := k) (p := p) (by rw [HQ0.out]; exact HPP.out)
      rw [HQ0.out] at hqv2
      have hqv3 := HQV.out.symm.trans hqv2
      simp only [Value.slice.injEq, true_and] at hqv3
      obtain ⟨rfl, rfl⟩ := hqv3
      obtain ⟨bk, ok, cap2, hv, hcell⟩ := src_cell HSRC.out (by omega)
      simp only [Value.slice.injEq, true_and] at hv
      obtain ⟨rfl, rfl⟩ := hv
      have hmod : k % ks.length < ks.length := Nat.mod_lt _ (by omega)
      have kc := hcell _ hmod
      have hpos : (0 : Int) < (ks.length : Int) := by omega
      clear hqv2 hcell
      have HST := Lib.hid (survive_take ks R.queue HPP.out)
      have hoe : odd ks k = decide (ks.getD (k % ks.length) 0 % 2 = 1) := by
        unfold odd
        have h5 : decide (0 < ks.length) = true := by rw [decide_eq_true_eq]; omega
        rw [h5, Bool.true_and]
        generalize ks.getD (k % ks.length) 0 = z
        exact decide_eq_decide.2 (tmod2 z)
      have HOE := Lib.hid hoe
      clear hoe
      generalize ks.getD (k % ks.length) 0 = z at kc HOE
      have h1z := i64_and1 z
      generalize hq : k % ks.length = q at kc hmod
      have ht : (k : Int).tmod (ks.length : Int) = (q : Int) := by rw [← hq]; exact (Int.ofNat_tmod k ks.length).symm
      clear hq
      by_cases hodd : z % 2 = 1
      · have hS := survive_any H1.out p (HFEW.out p (List.mem_of_getElem? HPP.out)).1 (by rw [HKE.out.2.2.2.2.2, HR0.out]; exact HI.out p (List.mem_of_getElem? HPP.out))
        have HS := Lib.hid hS
        clear hS
        rw [hodd] at h1z
        go_wp2_with (go_at_call 46; refine HS.out.mono ?_; rintro e w3 ⟨rfl, lab3, L3, h3, hk3, k3⟩; refine Hid.out ?_)
        refine Lib.hid ?_
        go_wp2
        go_roundw
        case rel => exact ⟨k + 1, by omega, by go_num, lab3, L3, by rw [HST.out, HOE.out, if_pos (by simpa using hodd), rhardens_snoc]; exact h3, hk3.trans HKV.out, K1.out.trans k3⟩
        case measure => simp [intOf]; omega
      · rw [show z % 2 = 0 by omega] at h1z
        go_wp2
        go_roundw
        case rel => exact ⟨k + 1, by omega, by go_num, lab1, L1, by rw [HST.out, HOE.out, if_neg (by simpa using hodd), List.append_nil]; exact H1.out, HKV.out, K1.out⟩
        case measure => simp [intOf]; omega
    -- LOOP 2
    · have hsv : survive ks 0 (R.queue.take k) = survive ks 0 R.queue := by
        by_cases h5 : k < R.queue.length
        · have h6 : ks = [] := List.eq_nil_of_length_eq_zero (by omega)
          rw [h6, survive_none, survive_none]
        · rw [List.take_of_length_le (by omega)]
      rw [hsv] at H1
      obtain ⟨R1, hR1⟩ : ∃ R1, R1 = R0.hardens (survive ks 0 R.queue) := ⟨_, rfl⟩
      rw [← hR1] at H1 HCR
      have HOKF := Lib.hid H1.out.ok.fallen1
      have HOK := Lib.hid H1.out.ok.fallen
      have hlen := H1.out.ok.len
      obtain ⟨fa, fc, hfv⟩ := own_form H1.out.files
      have HFV := Lib.hid hfv
      clear hsv hR1 hke hq0 hqv h1 k1 hkv HKE HQ0 HQV HINV HSRC HKV hfv
      by_cases h5 : k < R.queue.length
      · have h6 : ks.length = 0 := by omega
        generalize hgn : ks.length = n at h6 ⊢
        subst h6
        clear hgn
        go_wp2
        have H3 := Lib.hid (And.intro H1.out K1.out)
        clear c1 H1 K1
        obtain ⟨wb, hwb⟩ : ∃ wb, wb = wr := ⟨_, rfl⟩
        rw [← hwb] at H3 ⊢
        clear hwb wr
        go_loopw [5, 6] (fun v i wr => ∃ k : Nat, k ≤ R1.files.length ∧ i = .int .i64 (k : Int) ∧ Hid (Below wb.heap.size wb wr) ∧ Hid (wr.ownsRow 0 86 3 v (fallen (R1.files.take k)).length (flVs (fallen (R1.files.take k)))) ∧ Hid (∀ j, v.ownBlock = some j → wb.heap.size ≤ j)) (fun _ i _ => R1.files.length - (intOf i).toNat)
        case atStart => exact ⟨0, Nat.zero_le _, rfl, Lib.hid (Below.refl _ _), Lib.hid (World.ownsRow_nil _ _ _ _), Lib.hid fun j hj => by cases hj⟩
        case round =>
          obtain ⟨k, hk, rfl, HE, HO, HJ⟩ := hrel
          have hwr := HE.out.size
          have hr := H3.out.1.fresh HE.out
          have c0 := hr.c 0
          simp only [List.getElem?_toArray, List.getElem?_cons_zero] at c0
          rw [HFV.out] at c0
          by_cases hlt2 : k < R1.files.length
          · obtain ⟨y, hy⟩ : ∃ y, R1.files[k]? = some y := ⟨_, List.getElem?_eq_getElem hlt2⟩
            obtain ⟨g, cap, hv, d0, d1, d2⟩ := fl_cell hr hy
            have hv2 := HFV.out.symm.trans hv
            simp only [Value.slice.injEq, true_and] at hv2
            obtain ⟨rfl, rfl⟩ := hv2
            have HFT := Lib.hid (fallen_take hy)
            have hol : (fallen (R1.files.take k)).length ≤ 1000 := by unfold fallen; rw [List.length_map]; have := List.length_take_le k R1.files; omega
            obtain ⟨oa, oc, rfl⟩ := own_form HO.out
            have hDN : Below wb.heap.size wb wr.drew := HE.out.drew
            have hA := below_alloc wr.drew (.cells #[.int .i64 (y.num : Int), .string (bs y.dur), .string (bs y.dur)] 86)
            obtain ⟨v', w', r1, r2, r3, r4⟩ := push_fl (wr.drew.alloc (.cells #[.int .i64 (y.num : Int), .string (bs y.dur), .string (bs y.dur)] 86)) _ _ ((show wr.drew.ownsRow 0 86 3 _ _ _ from HO.out).alloc _) hol ⟨y.num, y.dur, y.dur⟩ (a := wr.heap.size) (alloc_new_cell wr.drew _ _ 0) (alloc_new_cell wr.drew _ _ 1) (alloc_new_cell wr.drew _ _ 2) 65
            have HRR := Lib.hid r1
            have hbA := hDN.trans (hA.mono hwr)
            have HB3 := Lib.hid (grown_below hbA r3 HJ.out)
            have HO3 := Lib.hid r2
            have HJ3 := Lib.hid (show ∀ j, v'.ownBlock = some j → wb.heap.size ≤ j from fun j hj => by
              rcases r4 with h | h
              · exact HJ.out j (h.symm.trans hj)
              · have h9 := h.symm.trans hj
                simp only [World.size_alloc, Option.some.injEq] at h9
                have : wr.drew.heap.size = wr.heap.size := rfl
                omega)
            clear r1 r2 r3 r4 hA hbA hDN hr hy hv
            go_wp2
            have S0 := And.intro c0 (And.intro d0 d2)
            refine region_till 26 (fun w' => w'.cell? ⟨r, 0, none⟩ = some (.slice (some ⟨g, 0, none⟩) R1.files.length fc) ∧ w'.cell? ⟨g, k * 3, none⟩ = some (.int .i64 (y.num : Int)) ∧ w'.cell? ⟨g, k * 3 + 2, none⟩ = some (.string (bs y.dur))) (by kernel_rfl) ?_
            refine till_take 0 8 false (v := ?v0a) (by kernel_rfl) (by kernel_rfl) (by kernel_rfl) (by kernel_rfl) (by kernel_rfl) (fun _ _ _ h => h) ?hw0a S0 ?hy0a ?rest0a
            case hw0a => (simp only [List.getElem?_toArray, List.getElem?_cons_zero, Option.elim]; rfl)
            case hy0a => (simp only [List.getElem?_toArray, List.getElem?_cons_zero, Option.elim]; intro wx _; go_simp; with_reducible rfl)
            simp only [dstOf, List.getElem?_toArray, List.getElem?_cons_zero, Option.bind, Act.put, List.setIfInBounds_toArray, List.set_cons_zero, List.set_cons_succ]
            refine till_take 1 8 false (v := ?v1a) (by kernel_rfl) (by kernel_rfl) (by kernel_rfl) (by kernel_rfl) (by kernel_rfl) (fun _ _ _ h => h) ?hw1a S0 ?hy1a ?rest1a
            case hw1a => (simp only [List.getElem?_toArray, List.getElem?_cons_zero, List.getElem?_cons_succ, Option.elim]; rfl)
            case hy1a => (simp only [List.getElem?_toArray, List.getElem?_cons_zero, List.getElem?_cons_succ, Option.elim]; intro wx _; go_simp; with_reducible rfl)
            simp only [dstOf, List.getElem?_toArray, List.getElem?_cons_zero, List.getElem?_cons_succ, Option.bind, Act.put, List.setIfInBounds_toArray, List.set_cons_zero, List.set_cons_succ]
            refine till_take 2 8 false (v := ?v2a) (by kernel_rfl) (by kernel_rfl) (by kernel_rfl) (by kernel_rfl) (by kernel_rfl) (fun _ _ _ h => h) ?hw2a S0 ?hy2a ?rest2a
            case hw2a => (simp only [List.getElem?_toArray, List.getElem?_cons_zero, List.getElem?_cons_succ, Option.elim]; rfl)
            case hy2a => (simp only [List.getElem?_toArray, List.getElem?_cons_zero, List.getElem?_cons_succ, Option.elim]; intro wx _; go_simp; with_reducible rfl)
            simp only [dstOf, List.getElem?_toArray, List.getElem?_cons_zero, List.getElem?_cons_succ, Option.bind, Act.put, List.setIfInBounds_toArray, List.set_cons_zero, List.set_cons_succ]
            refine till_take 3 8 false (v := ?v3a) (by kernel_rfl) (by kernel_rfl) (by kernel_rfl) (by kernel_rfl) (by kernel_rfl) (fun _ _ _ h => h) ?hw3a S0 ?hy3a ?rest3a
            case hw3a => (simp only [List.getElem?_toArray, List.getElem?_cons_zero, List.getElem?_cons_succ, Option.elim]; rfl)
            case hy3a => (simp only [List.getElem?_toArray, List.getElem?_cons_zero, List.getElem?_cons_succ, Option.elim]; intro wx _; go_simp; with_reducible rfl)
            simp only [dstOf, List.getElem?_toArray, List.getElem?_cons_zero, List.getElem?_cons_succ, Option.bind, Act.put, List.setIfInBounds_toArray, List.set_cons_zero, List.set_cons_succ]
            refine till_take 4 8 true (v := ?v4a) (by kernel_rfl) (by kernel_rfl) (by kernel_rfl) (by kernel_rfl) (by kernel_rfl) (fun _ _ _ h => h) ?hw4a S0 ?hy4a ?rest4a
            case hw4a => (simp only [List.getElem?_toArray, List.getElem?_cons_zero, List.getElem?_cons_succ, Option.elim]; rfl)
            case hy4a => (simp only [List.getElem?_toArray, List.getElem?_cons_zero, List.getElem?_cons_succ, Option.elim]; intro wx hx; obtain ⟨x1, x2, x3⟩ := hx trivial; go_simp; with_reducible rfl)
            simp only [dstOf, List.getElem?_toArray, List.getElem?_cons_zero, List.getElem?_cons_succ, Option.bind, Act.put, List.setIfInBounds_toArray, List.set_cons_zero, List.set_cons_succ]
            refine till_take 5 8 false (v := ?v5a) (by kernel_rfl) (by kernel_rfl) (by kernel_rfl) (by kernel_rfl) (by kernel_rfl) (fun _ _ _ h => h) ?hw5a S0 ?hy5a ?rest5a
            case hw5a => (simp only [List.getElem?_toArray, List.getElem?_cons_zero, List.getElem?_cons_succ, Option.elim]; rfl)
            case hy5a => (simp only [List.getElem?_toArray, List.getElem?_cons_zero, List.getElem?_cons_succ, Option.elim]; intro wx _; go_simp; with_reducible rfl)
            simp only [dstOf, List.getElem?_toArray, List.getElem?_cons_zero, List.getElem?_cons_succ, Option.bind, Act.put, List.setIfInBounds_toArray, List.set_cons_zero, List.set_cons_succ]
            refine till_take 6 8 false (v := ?v6a) (by kernel_rfl) (by kernel_rfl) (by kernel_rfl) (by kernel_rfl) (by kernel_rfl) (fun _ _ _ h => h) ?hw6a S0 ?hy6a ?rest6a
            case hw6a => (simp only [List.getElem?_toArray, List.getElem?_cons_zero, List.getElem?_cons_succ, Option.elim]; rfl)
            case hy6a => (simp only [List.getElem?_toArray, List.getElem?_cons_zero, List.getElem?_cons_succ, Option.elim]; intro wx _; go_simp; with_reducible rfl)
            simp only [dstOf, List.getElem?_toArray, List.getElem?_cons_zero, List.getElem?_cons_succ, Option.bind, Act.put, List.setIfInBounds_toArray, List.set_cons_zero, List.set_cons_succ]
            refine till_take 7 8 false (v := ?v7a) (by kernel_rfl) (by kernel_rfl) (by kernel_rfl) (by kernel_rfl) (by kernel_rfl) (fun _ _ _ h => h) ?hw7a S0 ?hy7a ?rest7a
            case hw7a => (simp only [List.getElem?_toArray, List.getElem?_cons_zero, List.getElem?_cons_succ, Option.elim]; rfl)
            case hy7a => (simp only [List.getElem?_toArray, List.getElem?_cons_zero, List.getElem?_cons_succ, Option.elim]; intro wx _; go_simp; with_reducible rfl)
            simp only [dstOf, List.getElem?_toArray, List.getElem?_cons_zero, List.getElem?_cons_succ, Option.bind, Act.put, List.setIfInBounds_toArray, List.set_cons_zero, List.set_cons_succ]
            refine till_take 8 8 true (v := ?v8a) (by kernel_rfl) (by kernel_rfl) (by kernel_rfl) (by kernel_rfl) (by kernel_rfl) (fun _ _ _ h => h) ?hw8a S0 ?hy8a ?rest8a
            case hw8a => (simp only [List.getElem?_toArray, List.getElem?_cons_zero, List.getElem?_cons_succ, Option.elim]; rfl)
            case hy8a => (simp only [List.getElem?_toArray, List.getElem?_cons_zero, List.getElem?_cons_succ, Option.elim]; intro wx hx; obtain ⟨x1, x2, x3⟩ := hx trivial; go_simp; with_reducible rfl)
            simp only [dstOf, List.getElem?_toArray, List.getElem?_cons_zero, List.getElem?_cons_succ, Option.bind, Act.put, List.setIfInBounds_toArray, List.set_cons_zero, List.set_cons_succ]
            refine till_take 9 8 false (v := ?v9a) (by kernel_rfl) (by kernel_rfl) (by kernel_rfl) (by kernel_rfl) (by kernel_rfl) (fun _ _ _ h => h) ?hw9a S0 ?hy9a ?rest9a
            case hw9a => (simp only [List.getElem?_toArray, List.getElem?_cons_zero, List.getElem?_cons_succ, Option.elim]; rfl)
            case hy9a => (simp only [List.getElem?_toArray, List.getElem?_cons_zero, List.getElem?_cons_succ, Option.elim]; intro wx _; go_simp; with_reducible rfl)
            simp only [dstOf, List.getElem?_toArray, List.getElem?_cons_zero, List.getElem?_cons_succ, Option.bind, Act.put, List.setIfInBounds_toArray, List.set_cons_zero, List.set_cons_succ]
            refine till_take 10 8 false (v := ?v10a) (by kernel_rfl) (by kernel_rfl) (by kernel_rfl) (by kernel_rfl) (by kernel_rfl) (fun _ _ _ h => h) ?hw10a S0 ?hy10a ?rest10a
            case hw10a => (simp only [List.getElem?_toArray, List.getElem?_cons_zero, List.getElem?_cons_succ, Option.elim]; rfl)
            case hy10a => (simp only [List.getElem?_toArray, List.getElem?_cons_zero, List.getElem?_cons_succ, Option.elim]; intro wx _; go_simp; with_reducible rfl)
            simp only [dstOf, List.getElem?_toArray, List.getElem?_cons_zero, List.getElem?_cons_succ, Option.bind, Act.put, List.setIfInBounds_toArray, List.set_cons_zero, List.set_cons_succ]
            refine till_take 11 8 false (v := ?v11a) (by kernel_rfl) (by kernel_rfl) (by kernel_rfl) (by kernel_rfl) (by kernel_rfl) (fun _ _ _ h => h) ?hw11a S0 ?hy11a ?rest11a
            case hw11a => (simp only [List.getElem?_toArray, List.getElem?_cons_zero, List.getElem?_cons_succ, Option.elim]; rfl)
            case hy11a => (simp only [List.getElem?_toArray, List.getElem?_cons_zero, List.getElem?_cons_succ, Option.elim]; intro wx _; go_simp; with_reducible rfl)
            simp only [dstOf, List.getElem?_toArray, List.getElem?_cons_zero, List.getElem?_cons_succ, Option.bind, Act.put, List.setIfInBounds_toArray, List.set_cons_zero, List.set_cons_succ]
            refine till_take 12 8 true (v := ?v12a) (by kernel_rfl) (by kernel_rfl) (by kernel_rfl) (by kernel_rfl) (by kernel_rfl) (fun _ _ _ h => h) ?hw12a S0 ?hy12a ?rest12a
            case hw12a => (simp only [List.getElem?_toArray, List.getElem?_cons_zero, List.getElem?_cons_succ, Option.elim]; rfl)
            case hy12a => (simp only [List.getElem?_toArray, List.getElem?_cons_zero, List.getElem?_cons_succ, Option.elim]; intro wx hx; obtain ⟨x1, x2, x3⟩ := hx trivial; go_simp; with_reducible rfl)
            simp only [dstOf, List.getElem?_toArray, List.getElem?_cons_zero, List.getElem?_cons_succ, Option.bind, Act.put, List.setIfInBounds_toArray, List.set_cons_zero, List.set_cons_succ]
            refine till_take 13 8 false (v := ?v13a) (by kernel_rfl) (by kernel_rfl) (by kernel_rfl) (by kernel_rfl) (by kernel_rfl) (fun _ _ _ h => h) ?hw13a S0 ?hy13a ?rest13a
            case hw13a => (simp only [List.getElem?_toArray, List.getElem?_cons_zero, List.getElem?_cons_succ, Option.elim]; rfl)
            case hy13a => (simp only [List.getElem?_toArray, List.getElem?_cons_zero, List.getElem?_cons_succ, Option.elim]; intro wx _; go_simp; with_reducible rfl)
            simp only [dstOf, List.getElem?_toArray, List.getElem?_cons_zero, List.getElem?_cons_succ, Option.bind, Act.put, List.setIfInBounds_toArray, List.set_cons_zero, List.set_cons_succ]
            refine till_take 14 8 false (v := ?v14a) (by kernel_rfl) (by kernel_rfl) (by kernel_rfl) (by kernel_rfl) (by kernel_rfl) (fun _ _ _ h => h) ?hw14a S0 ?hy14a ?rest14a
            case hw14a => (simp only [List.getElem?_toArray, List.getElem?_cons_zero, List.getElem?_cons_succ, Option.elim]; rfl)
            case hy14a => (simp only [List.getElem?_toArray, List.getElem?_cons_zero, List.getElem?_cons_succ, Option.elim]; intro wx _; go_simp; with_reducible rfl)
            simp only [dstOf, List.getElem?_toArray, List.getElem?_cons_zero, List.getElem?_cons_succ, Option.bind, Act.put, List.setIfInBounds_toArray, List.set_cons_zero, List.set_cons_succ]
            refine till_take 15 8 false (v := ?v15a) (by kernel_rfl) (by kernel_rfl) (by kernel_rfl) (by kernel_rfl) (by kernel_rfl) (fun _ _ _ h => h) ?hw15a S0 ?hy15a ?rest15a
            case hw15a => (simp only [List.getElem?_toArray, List.getElem?_cons_zero, List.getElem?_cons_succ, Option.elim]; rfl)
            case hy15a => (simp only [List.getElem?_toArray, List.getElem?_cons_zero, List.getElem?_cons_succ, Option.elim]; intro wx _; go_simp; with_reducible rfl)
            simp only [dstOf, List.getElem?_toArray, List.getElem?_cons_zero, List.getElem?_cons_succ, Option.bind, Act.put, List.setIfInBounds_toArray, List.set_cons_zero, List.set_cons_succ]
            refine till_take 16 8 true (v := ?v16a) (by kernel_rfl) (by kernel_rfl) (by kernel_rfl) (by kernel_rfl) (by kernel_rfl) (fun _ _ _ h => h) ?hw16a S0 ?hy16a ?rest16a
            case hw16a => (simp only [List.getElem?_toArray, List.getElem?_cons_zero, List.getElem?_cons_succ, Option.elim]; rfl)
            case hy16a => (simp only [List.getElem?_toArray, List.getElem?_cons_zero, List.getElem?_cons_succ, Option.elim]; intro wx hx; obtain ⟨x1, x2, x3⟩ := hx trivial; go_simp; with_reducible rfl)
            simp only [dstOf, List.getElem?_toArray, List.getElem?_cons_zero, List.getElem?_cons_succ, Option.bind, Act.put, List.setIfInBounds_toArray, List.set_cons_zero, List.set_cons_succ]
            refine till_take 17 8 false (v := ?v17a) (by kernel_rfl) (by kernel_rfl) (by kernel_rfl) (by kernel_rfl) (by kernel_rfl) (fun _ _ _ h => h) ?hw17a S0 ?hy17a ?rest17a
            case hw17a => (simp only [List.getElem?_toArray, List.getElem?_cons_zero, List.getElem?_cons_succ, Option.elim]; rfl)
            case hy17a => (simp only [List.getElem?_toArray, List.getElem?_cons_zero, List.getElem?_cons_succ, Option.elim]; intro wx _; go_simp; with_reducible rfl)
            simp only [dstOf, List.getElem?_toArray, List.getElem?_cons_zero, List.getElem?_cons_succ, Option.bind, Act.put, List.setIfInBounds_toArray, List.set_cons_zero, List.set_cons_succ]
            refine till_take 18 8 false (v := ?v18a) (by kernel_rfl) (by kernel_rfl) (by kernel_rfl) (by kernel_rfl) (by kernel_rfl) (fun _ _ _ h => h) ?hw18a S0 ?hy18a ?rest18a
            case hw18a => (simp only [List.getElem?_toArray, List.getElem?_cons_zero, List.getElem?_cons_succ, Option.elim]; rfl)
            case hy18a => (simp only [List.getElem?_toArray, List.getElem?_cons_zero, List.getElem?_cons_succ, Option.elim]; intro wx _; go_simp; with_reducible rfl)
            simp only [dstOf, List.getElem?_toArray, List.getElem?_cons_zero, List.getElem?_cons_succ, Option.bind, Act.put, List.setIfInBounds_toArray, List.set_cons_zero, List.set_cons_succ]
            refine till_take 19 8 false (v := ?v19a) (by kernel_rfl) (by kernel_rfl) (by kernel_rfl) (by kernel_rfl) (by kernel_rfl) (fun _ _ _ h => h) ?hw19a S0 ?hy19a ?rest19a
            case hw19a => (simp only [List.getElem?_toArray, List.getElem?_cons_zero, List.getElem?_cons_succ, Option.elim]; rfl)
            case hy19a => (simp only [List.getElem?_toArray, List.getElem?_cons_zero, List.getElem?_cons_succ, Option.elim]; intro wx _; go_simp; with_reducible rfl)
            simp only [dstOf, List.getElem?_toArray, List.getElem?_cons_zero, List.getElem?_cons_succ, Option.bind, Act.put, List.setIfInBounds_toArray, List.set_cons_zero, List.set_cons_succ]
            refine till_take 20 8 true (v := ?v20a) (by kernel_rfl) (by kernel_rfl) (by kernel_rfl) (by kernel_rfl) (by kernel_rfl) (fun _ _ _ h => h) ?hw20a S0 ?hy20a ?rest20a
            case hw20a => (simp only [List.getElem?_toArray, List.getElem?_cons_zero, List.getElem?_cons_succ, Option.elim]; rfl)
            case hy20a => (simp only [List.getElem?_toArray, List.getElem?_cons_zero, List.getElem?_cons_succ, Option.elim]; intro wx hx; obtain ⟨x1, x2, x3⟩ := hx trivial; go_simp; with_reducible rfl)
            simp only [dstOf, List.getElem?_toArray, List.getElem?_cons_zero, List.getElem?_cons_succ, Option.bind, Act.put, List.setIfInBounds_toArray, List.set_cons_zero, List.set_cons_succ]
            refine till_take 21 8 false (v := ?v21a) (by kernel_rfl) (by kernel_rfl) (by kernel_rfl) (by kernel_rfl) (by kernel_rfl) (fun _ _ _ h => h) ?hw21a S0 ?hy21a ?rest21a
            case hw21a => (simp only [List.getElem?_toArray, List.getElem?_cons_zero, List.getElem?_cons_succ, Option.elim]; rfl)
            case hy21a => (simp only [List.getElem?_toArray, List.getElem?_cons_zero, List.getElem?_cons_succ, Option.elim]; intro wx _; go_simp; with_reducible rfl)
            simp only [dstOf, List.getElem?_toArray, List.getElem?_cons_zero, List.getElem?_cons_succ, Option.bind, Act.put, List.setIfInBounds_toArray, List.set_cons_zero, List.set_cons_succ]
            refine till_take 22 8 false (v := ?v22a) (by kernel_rfl) (by kernel_rfl) (by kernel_rfl) (by kernel_rfl) (by kernel_rfl) (fun _ _ _ h => h) ?hw22a S0 ?hy22a ?rest22a
            case hw22a => (simp only [List.getElem?_toArray, List.getElem?_cons_zero, List.getElem?_cons_succ, Option.elim]; rfl)
            case hy22a => (simp only [List.getElem?_toArray, List.getElem?_cons_zero, List.getElem?_cons_succ, Option.elim]; intro wx _; go_simp; with_reducible rfl)
            simp only [dstOf, List.getElem?_toArray, List.getElem?_cons_zero, List.getElem?_cons_succ, Option.bind, Act.put, List.setIfInBounds_toArray, List.set_cons_zero, List.set_cons_succ]
            refine till_take 23 8 false (v := ?v23a) (by kernel_rfl) (by kernel_rfl) (by kernel_rfl) (by kernel_rfl) (by kernel_rfl) (fun _ _ _ h => h) ?hw23a S0 ?hy23a ?rest23a
            case hw23a => (simp only [List.getElem?_toArray, List.getElem?_cons_zero, List.getElem?_cons_succ, Option.elim]; rfl)
            case hy23a => (simp only [List.getElem?_toArray, List.getElem?_cons_zero, List.getElem?_cons_succ, Option.elim]; intro wx _; go_simp; with_reducible rfl)
            simp only [dstOf, List.getElem?_toArray, List.getElem?_cons_zero, List.getElem?_cons_succ, Option.bind, Act.put, List.setIfInBounds_toArray, List.set_cons_zero, List.set_cons_succ]
            refine till_take 24 8 true (v := ?v24a) (by kernel_rfl) (by kernel_rfl) (by kernel_rfl) (by kernel_rfl) (by kernel_rfl) (fun _ _ _ h => h) ?hw24a S0 ?hy24a ?rest24a
            case hw24a => (simp only [List.getElem?_toArray, List.getElem?_cons_zero, List.getElem?_cons_succ, Option.elim]; rfl)
            case hy24a => (simp only [List.getElem?_toArray, List.getElem?_cons_zero, List.getElem?_cons_succ, Option.elim]; intro wx hx; obtain ⟨x1, x2, x3⟩ := hx trivial; go_simp; with_reducible rfl)
            simp only [dstOf, List.getElem?_toArray, List.getElem?_cons_zero, List.getElem?_cons_succ, Option.bind, Act.put, List.setIfInBounds_toArray, List.set_cons_zero, List.set_cons_succ]
            refine till_take 25 8 false (v := ?v25a) (by kernel_rfl) (by kernel_rfl) (by kernel_rfl) (by kernel_rfl) (by kernel_rfl) (fun _ _ _ h => h) ?hw25a S0 ?hy25a ?rest25a
            case hw25a => (simp only [List.getElem?_toArray, List.getElem?_cons_zero, List.getElem?_cons_succ, Option.elim]; rfl)
            case hy25a => (simp only [List.getElem?_toArray, List.getElem?_cons_zero, List.getElem?_cons_succ, Option.elim]; intro wx _; go_simp; with_reducible rfl)
            simp only [dstOf, List.getElem?_toArray, List.getElem?_cons_zero, List.getElem?_cons_succ, Option.bind, Act.put, List.setIfInBounds_toArray, List.set_cons_zero, List.set_cons_succ]
            refine till_step 26 (by kernel_rfl) (by kernel_rfl) (fun K hK => ?_)
            simp only [List.getElem?_toArray, List.getElem?_cons_zero, List.getElem?_cons_succ, Option.elim]
            rw [if_pos (by rfl)]
            go_simp
            refine hK.out _ _ ?_
            clear hK K
            try simp only [Act.put, List.setIfInBounds_toArray, List.set_cons_zero, List.set_cons_succ]
            refine till_step 27 (by kernel_rfl) (by kernel_rfl) (fun K hK => ?_)
            simp only [List.getElem?_toArray, List.getElem?_cons_zero, List.getElem?_cons_succ, Option.elim]
            rw [if_pos (by rfl)]
            refine Lib.wp_append_run _ (.tmp 58) (.tmp 84) 65 65 rfl _ _ rfl rfl _ _ HRR.out ?_
            refine hK.out _ _ ?_
            clear hK K
            try simp only [Act.put, List.setIfInBounds_toArray, List.set_cons_zero, List.set_cons_succ]
            refine till_step 28 (by kernel_rfl) (by kernel_rfl) (fun K hK => ?_)
            simp only [List.getElem?_toArray, List.getElem?_cons_zero, List.getElem?_cons_succ, Option.elim]
            rw [if_pos (by rfl)]
            go_simp
            refine hK.out _ _ ?_
            clear hK K
            try simp only [Act.put, List.setIfInBounds_toArray, List.set_cons_zero, List.set_cons_succ]
            refine till_end (by kernel_rfl) ?_ _
            go_wp2
            go_roundw
            case rel => exact ⟨k + 1, by omega, by go_num, HB3, Lib.hid (by rw [HFT.out]; exact HO3.out), HJ3⟩
            case measure => simp [intOf]; omega
          · obtain rfl : k = R1.files.length := by omega
            have hO := HO.out
            rw [List.take_length] at hO
            obtain ⟨oa, oc, rfl⟩ := own_form hO
            have f0 := hr.fz 0
            have f1 := hr.fz 1
            have c1 := hr.c 1
            simp only [List.getElem?_toArray, List.getElem?_cons_zero, List.getElem?_cons_succ] at c1
            obtain ⟨lab4, L4, h4, _, k4⟩ := H3.out.1.newFiles (R' := { R1 with files := fallen R1.files }) HE.out HJ.out HOKF.out rfl rfl rfl rfl rfl hO
            have HNW := Lib.hid (h4.newQueue (R' := { R1 with files := fallen R1.files, queue := [] }) (v := .slice none 0 0) (Below.refl _ _) (fun j hj => by cases hj) HOK.out rfl rfl rfl rfl rfl (World.ownsRow_nil _ _ _ _))
            have K4 := Lib.hid (H3.out.2.trans k4)
            clear hO hr h4 k4
            go_wp2
            go_end0
            obtain ⟨lab5, n1, n2⟩ := HNW.out
            exact ⟨rfl, lab5, by rw [HCR.out]; exact n1, K4.out.trans n2⟩
      · go_wp2
        have H3 := Lib.hid (And.intro H1.out K1.out)
        clear c1 H1 K1
        obtain ⟨wb, hwb⟩ : ∃ wb, wb = wr := ⟨_, rfl⟩
        rw [← hwb] at H3 ⊢
        clear hwb wr
        go_loopw [5, 6] (fun v i wr => ∃ k : Nat, k ≤ R1.files.length ∧ i = .int .i64 (k : Int) ∧ Hid (Below wb.heap.size wb wr) ∧ Hid (wr.ownsRow 0 86 3 v (fallen (R1.files.take k)).length (flVs (fallen (R1.files.take k)))) ∧ Hid (∀ j, v.ownBlock = some j → wb.heap.size ≤ j)) (fun _ i _ => R1.files.length - (intOf i).toNat)
        case atStart => exact ⟨0, Nat.zero_le _, rfl, Lib.hid (Below.refl _ _), Lib.hid (World.ownsRow_nil _ _ _ _), Lib.hid fun j hj => by cases hj⟩
        case round =>
          obtain ⟨k, hk, rfl, HE, HO, HJ⟩ := hrel
          have hwr := HE.out.size
          have hr := H3.out.1.fresh HE.out
          have c0 := hr.c 0
          simp only [List.getElem?_toArray, List.getElem?_cons_zero] at c0
          rw [HFV.out] at c0
          by_cases hlt2 : k < R1.files.length
          · obtain ⟨y, hy⟩ : ∃ y, R1.files[k]? = some y := ⟨_, List.getElem?_eq_getElem hlt2⟩
            obtain ⟨g, cap, hv, d0, d1, d2⟩ := fl_cell hr hy
            have hv2 := HFV.out.symm.trans hv
            simp only [Value.slice.injEq, true_and] at hv2
            obtain ⟨rfl, rfl⟩ := hv2
            have HFT := Lib.hid (fallen_take hy)
            have hol : (fallen (R1.files.take k)).length ≤ 1000 := by unfold fallen; rw [List.length_map]; have := List.length_take_le k R1.files; omega
            obtain ⟨oa, oc, rfl⟩ := own_form HO.out
            have hDN : Below wb.heap.size wb wr.drew := HE.out.drew
            have hA := below_alloc wr.drew (.cells #[.int .i64 (y.num : Int), .string (bs y.dur), .string (bs y.dur)] 86)
            obtain ⟨v', w', r1, r2, r3, r4⟩ := push_fl (wr.drew.alloc (.cells #[.int .i64 (y.num : Int), .string (bs y.dur), .string (bs y.dur)] 86)) _ _ ((show wr.drew.ownsRow 0 86 3 _ _ _ from HO.out).alloc _) hol ⟨y.num, y.dur, y.dur⟩ (a := wr.heap.size) (alloc_new_cell wr.drew _ _ 0) (alloc_new_cell wr.drew _ _ 1) (alloc_new_cell wr.drew _ _ 2) 65
            have HRR := Lib.hid r1
            have hbA := hDN.trans (hA.mono hwr)
            have HB3 := Lib.hid (grown_below hbA r3 HJ.out)
            have HO3 := Lib.hid r2
            have HJ3 := Lib.hid (show ∀ j, v'.ownBlock = some j → wb.heap.size ≤ j from fun j hj => by
              rcases r4 with h | h
              · exact HJ.out j (h.symm.trans hj)
              · have h9 := h.symm.trans hj
                simp only [World.size_alloc, Option.some.injEq] at h9
                have : wr.drew.heap.size = wr.heap.size := rfl
                omega)
            clear r1 r2 r3 r4 hA hbA hDN hr hy hv
            go_wp2
            have S0 := And.intro c0 (And.intro d0 d2)
            refine region_till 26 (fun w' => w'.cell? ⟨r, 0, none⟩ = some (.slice (some ⟨g, 0, none⟩) R1.files.length fc) ∧ w'.cell? ⟨g, k * 3, none⟩ = some (.int .i64 (y.num : Int)) ∧ w'.cell? ⟨g, k * 3 + 2, none⟩ = some (.string (bs y.dur))) (by kernel_rfl) ?_
            refine till_take 0 8 false (v := ?v0b) (by kernel_rfl) (by kernel_rfl) (by kernel_rfl) (by kernel_rfl) (by kernel_rfl) (fun _ _ _ h => h) ?hw0b S0 ?hy0b ?rest0b
            case hw0b => (simp only [List.getElem?_toArray, List.getElem?_cons_zero, Option.elim]; rfl)
            case hy0b => (simp only [List.getElem?_toArray, List.getElem?_cons_zero, Option.elim]; intro wx _; go_simp; with_reducible rfl)
            simp only [dstOf, List.getElem?_toArray, List.getElem?_cons_zero, Option.bind, Act.put, List.setIfInBounds_toArray, List.set_cons_zero, List.set_cons_succ]
            refine till_take 1 8 false (v := ?v1b) (by kernel_rfl) (by kernel_rfl) (by kernel_rfl) (by kernel_rfl) (by kernel_rfl) (fun _ _ _ h => h) ?hw1b S0 ?hy1b ?rest1b
            case hw1b => (simp only [List.getElem?_toArray, List.getElem?_cons_zero, List.getElem?_cons_succ, Option.elim]; rfl)
            case hy1b => (simp only [List.getElem?_toArray, List.getElem?_cons_zero, List.getElem?_cons_succ, Option.elim]; intro wx _; go_simp; with_reducible rfl)
            simp only [dstOf, List.getElem?_toArray, List.getElem?_cons_zero, List.getElem?_cons_succ, Option.bind, Act.put, List.setIfInBounds_toArray, List.set_cons_zero, List.set_cons_succ]
            refine till_take 2 8 false (v := ?v2b) (by kernel_rfl) (by kernel_rfl) (by kernel_rfl) (by kernel_rfl) (by kernel_rfl) (fun _ _ _ h => h) ?hw2b S0 ?hy2b ?rest2b
            case hw2b => (simp only [List.getElem?_toArray, List.getElem?_cons_zero, List.getElem?_cons_succ, Option.elim]; rfl)
            case hy2b => (simp only [List.getElem?_toArray, List.getElem?_cons_zero, List.getElem?_cons_succ, Option.elim]; intro wx _; go_simp; with_reducible rfl)
            simp only [dstOf, List.getElem?_toArray, List.getElem?_cons_zero, List.getElem?_cons_succ, Option.bind, Act.put, List.setIfInBounds_toArray, List.set_cons_zero, List.set_cons_succ]
            refine till_take 3 8 false (v := ?v3b) (by kernel_rfl) (by kernel_rfl) (by kernel_rfl) (by kernel_rfl) (by kernel_rfl) (fun _ _ _ h => h) ?hw3b S0 ?hy3b ?rest3b
            case hw3b => (simp only [List.getElem?_toArray, List.getElem?_cons_zero, List.getElem?_cons_succ, Option.elim]; rfl)
            case hy3b => (simp only [List.getElem?_toArray, List.getElem?_cons_zero, List.getElem?_cons_succ, Option.elim]; intro wx _; go_simp; with_reducible rfl)
            simp only [dstOf, List.getElem?_toArray, List.getElem?_cons_zero, List.getElem?_cons_succ, Option.bind, Act.put, List.setIfInBounds_toArray, List.set_cons_zero, List.set_cons_succ]
            refine till_take 4 8 true (v := ?v4b) (by kernel_rfl) (by kernel_rfl) (by kernel_rfl) (by kernel_rfl) (by kernel_rfl) (fun _ _ _ h => h) ?hw4b S0 ?hy4b ?rest4b
            case hw4b => (simp only [List.getElem?_toArray, List.getElem?_cons_zero, List.getElem?_cons_succ, Option.elim]; rfl)
            case hy4b => (simp only [List.getElem?_toArray, List.getElem?_cons_zero, List.getElem?_cons_succ, Option.elim]; intro wx hx; obtain ⟨x1, x2, x3⟩ := hx trivial; go_simp; with_reducible rfl)
            simp only [dstOf, List.getElem?_toArray, List.getElem?_cons_zero, List.getElem?_cons_succ, Option.bind, Act.put, List.setIfInBounds_toArray, List.set_cons_zero, List.set_cons_succ]
            refine till_take 5 8 false (v := ?v5b) (by kernel_rfl) (by kernel_rfl) (by kernel_rfl) (by kernel_rfl) (by kernel_rfl) (fun _ _ _ h => h) ?hw5b S0 ?hy5b ?rest5b
            case hw5b => (simp only [List.getElem?_toArray, List.getElem?_cons_zero, List.getElem?_cons_succ, Option.elim]; rfl)
            case hy5b => (simp only [List.getElem?_toArray, List.getElem?_cons_zero, List.getElem?_cons_succ, Option.elim]; intro wx _; go_simp; with_reducible rfl)
            simp only [dstOf, List.getElem?_toArray, List.getElem?_cons_zero, List.getElem?_cons_succ, Option.bind, Act.put, List.setIfInBounds_toArray, List.set_cons_zero, List.set_cons_succ]
            refine till_take 6 8 false (v := ?v6b) (by kernel_rfl) (by kernel_rfl) (by kernel_rfl) (by kernel_rfl) (by kernel_rfl) (fun _ _ _ h => h) ?hw6b S0 ?hy6b ?rest6b
            case hw6b => (simp only [List.getElem?_toArray, List.getElem?_cons_zero, List.getElem?_cons_succ, Option.elim]; rfl)
            case hy6b => (simp only [List.getElem?_toArray, List.getElem?_cons_zero, List.getElem?_cons_succ, Option.elim]; intro wx _; go_simp; with_reducible rfl)
            simp only [dstOf, List.getElem?_toArray, List.getElem?_cons_zero, List.getElem?_cons_succ, Option.bind, Act.put, List.setIfInBounds_toArray, List.set_cons_zero, List.set_cons_succ]
            refine till_take 7 8 false (v := ?v7b) (by kernel_rfl) (by kernel_rfl) (by kernel_rfl) (by kernel_rfl) (by kernel_rfl) (fun _ _ _ h => h) ?hw7b S0 ?hy7b ?rest7b
            case hw7b => (simp only [List.getElem?_toArray, List.getElem?_cons_zero, List.getElem?_cons_succ, Option.elim]; rfl)
            case hy7b => (simp only [List.getElem?_toArray, List.getElem?_cons_zero, List.getElem?_cons_succ, Option.elim]; intro wx _; go_simp; with_reducible rfl)
            simp only [dstOf, List.getElem?_toArray, List.getElem?_cons_zero, List.getElem?_cons_succ, Option.bind, Act.put, List.setIfInBounds_toArray, List.set_cons_zero, List.set_cons_succ]
            refine till_take 8 8 true (v := ?v8b) (by kernel_rfl) (by kernel_rfl) (by kernel_rfl) (by kernel_rfl) (by kernel_rfl) (fun _ _ _ h => h) ?hw8b S0 ?hy8b ?rest8b
            case hw8b => (simp only [List.getElem?_toArray, List.getElem?_cons_zero, List.getElem?_cons_succ, Option.elim]; rfl)
            case hy8b => (simp only [List.getElem?_toArray, List.getElem?_cons_zero, List.getElem?_cons_succ, Option.elim]; intro wx hx; obtain ⟨x1, x2, x3⟩ := hx trivial; go_simp; with_reducible rfl)
            simp only [dstOf, List.getElem?_toArray, List.getElem?_cons_zero, List.getElem?_cons_succ, Option.bind, Act.put, List.setIfInBounds_toArray, List.set_cons_zero, List.set_cons_succ]
            refine till_take 9 8 false (v := ?v9b) (by kernel_rfl) (by kernel_rfl) (by kernel_rfl) (by kernel_rfl) (by kernel_rfl) (fun _ _ _ h => h) ?hw9b S0 ?hy9b ?rest9b
            case hw9b => (simp only [List.getElem?_toArray, List.getElem?_cons_zero, List.getElem?_cons_succ, Option.elim]; rfl)
            case hy9b => (simp only [List.getElem?_toArray, List.getElem?_cons_zero, List.getElem?_cons_succ, Option.elim]; intro wx _; go_simp; with_reducible rfl)
            simp only [dstOf, List.getElem?_toArray, List.getElem?_cons_zero, List.getElem?_cons_succ, Option.bind, Act.put, List.setIfInBounds_toArray, List.set_cons_zero, List.set_cons_succ]
            refine till_take 10 8 false (v := ?v10b) (by kernel_rfl) (by kernel_rfl) (by kernel_rfl) (by kernel_rfl) (by kernel_rfl) (fun _ _ _ h => h) ?hw10b S0 ?hy10b ?rest10b
            case hw10b => (simp only [List.getElem?_toArray, List.getElem?_cons_zero, List.getElem?_cons_succ, Option.elim]; rfl)
            case hy10b => (simp only [List.getElem?_toArray, List.getElem?_cons_zero, List.getElem?_cons_succ, Option.elim]; intro wx _; go_simp; with_reducible rfl)
            simp only [dstOf, List.getElem?_toArray, List.getElem?_cons_zero, List.getElem?_cons_succ, Option.bind, Act.put, List.setIfInBounds_toArray, List.set_cons_zero, List.set_cons_succ]
            refine till_take 11 8 false (v := ?v11b) (by kernel_rfl) (by kernel_rfl) (by kernel_rfl) (by kernel_rfl) (by kernel_rfl) (fun _ _ _ h => h) ?hw11b S0 ?hy11b ?rest11b
            case hw11b => (simp only [List.getElem?_toArray, List.getElem?_cons_zero, List.getElem?_cons_succ, Option.elim]; rfl)
            case hy11b => (simp only [List.getElem?_toArray, List.getElem?_cons_zero, List.getElem?_cons_succ, Option.elim]; intro wx _; go_simp; with_reducible rfl)
            simp only [dstOf, List.getElem?_toArray, List.getElem?_cons_zero, List.getElem?_cons_succ, Option.bind, Act.put, List.setIfInBounds_toArray, List.set_cons_zero, List.set_cons_succ]
            refine till_take 12 8 true (v := ?v12b) (by kernel_rfl) (by kernel_rfl) (by kernel_rfl) (by kernel_rfl) (by kernel_rfl) (fun _ _ _ h => h) ?hw12b S0 ?hy12b ?rest12b
            case hw12b => (simp only [List.getElem?_toArray, List.getElem?_cons_zero, List.getElem?_cons_succ, Option.elim]; rfl)
            case hy12b => (simp only [List.getElem?_toArray, List.getElem?_cons_zero, List.getElem?_cons_succ, Option.elim]; intro wx hx; obtain ⟨x1, x2, x3⟩ := hx trivial; go_simp; with_reducible rfl)
            simp only [dstOf, List.getElem?_toArray, List.getElem?_cons_zero, List.getElem?_cons_succ, Option.bind, Act.put, List.setIfInBounds_toArray, List.set_cons_zero, List.set_cons_succ]
            refine till_take 13 8 false (v := ?v13b) (by kernel_rfl) (by kernel_rfl) (by kernel_rfl) (by kernel_rfl) (by kernel_rfl) (fun _ _ _ h => h) ?hw13b S0 ?hy13b ?rest13b
            case hw13b => (simp only [List.getElem?_toArray, List.getElem?_cons_zero, List.getElem?_cons_succ, Option.elim]; rfl)
            case hy13b => (simp only [List.getElem?_toArray, List.getElem?_cons_zero, List.getElem?_cons_succ, Option.elim]; intro wx _; go_simp; with_reducible rfl)
            simp only [dstOf, List.getElem?_toArray, List.getElem?_cons_zero, List.getElem?_cons_succ, Option.bind, Act.put, List.setIfInBounds_toArray, List.set_cons_zero, List.set_cons_succ]
            refine till_take 14 8 false (v := ?v14b) (by kernel_rfl) (by kernel_rfl) (by kernel_rfl) (by kernel_rfl) (by kernel_rfl) (fun _ _ _ h => h) ?hw14b S0 ?hy14b ?rest14b
            case hw14b => (simp only [List.getElem?_toArray, List.getElem?_cons_zero, List.getElem?_cons_succ, Option.elim]; rfl)
            case hy14b => (simp only [List.getElem?_toArray, List.getElem?_cons_zero, List.getElem?_cons_succ, Option.elim]; intro wx _; go_simp; with_reducible rfl)
            simp only [dstOf, List.getElem?_toArray, List.getElem?_cons_zero, List.getElem?_cons_succ, Option.bind, Act.put, List.setIfInBounds_toArray, List.set_cons_zero, List.set_cons_succ]
            refine till_take 15 8 false (v := ?v15b) (by kernel_rfl) (by kernel_rfl) (by kernel_rfl) (by kernel_rfl) (by kernel_rfl) (fun _ _ _ h => h) ?hw15b S0 ?hy15b ?rest15b
            case hw15b => (simp only [List.getElem?_toArray, List.getElem?_cons_zero, List.getElem?_cons_succ, Option.elim]; rfl)
            case hy15b => (simp only [List.getElem?_toArray, List.getElem?_cons_zero, List.getElem?_cons_succ, Option.elim]; intro wx _; go_simp; with_reducible rfl)
            simp only [dstOf, List.getElem?_toArray, List.getElem?_cons_zero, List.getElem?_cons_succ, Option.bind, Act.put, List.setIfInBounds_toArray, List.set_cons_zero, List.set_cons_succ]
            refine till_take 16 8 true (v := ?v16b) (by kernel_rfl) (by kernel_rfl) (by kernel_rfl) (by kernel_rfl) (by kernel_rfl) (fun _ _ _ h => h) ?hw16b S0 ?hy16b ?rest16b
            case hw16b => (simp only [List.getElem?_toArray, List.getElem?_cons_zero, List.getElem?_cons_succ, Option.elim]; rfl)
            case hy16b => (simp only [List.getElem?_toArray, List.getElem?_cons_zero, List.getElem?_cons_succ, Option.elim]; intro wx hx; obtain ⟨x1, x2, x3⟩ := hx trivial; go_simp; with_reducible rfl)
            simp only [dstOf, List.getElem?_toArray, List.getElem?_cons_zero, List.getElem?_cons_succ, Option.bind, Act.put, List.setIfInBounds_toArray, List.set_cons_zero, List.set_cons_succ]
            refine till_take 17 8 false (v := ?v17b) (by kernel_rfl) (by kernel_rfl) (by kernel_rfl) (by kernel_rfl) (by kernel_rfl) (fun _ _ _ h => h) ?hw17b S0 ?hy17b ?rest17b
            case hw17b => (simp only [List.getElem?_toArray, List.getElem?_cons_zero, List.getElem?_cons_succ, Option.elim]; rfl)
            case hy17b => (simp only [List.getElem?_toArray, List.getElem?_cons_zero, List.getElem?_cons_succ, Option.elim]; intro wx _; go_simp; with_reducible rfl)
            simp only [dstOf, List.getElem?_toArray, List.getElem?_cons_zero, List.getElem?_cons_succ, Option.bind, Act.put, List.setIfInBounds_toArray, List.set_cons_zero, List.set_cons_succ]
            refine till_take 18 8 false (v := ?v18b) (by kernel_rfl) (by kernel_rfl) (by kernel_rfl) (by kernel_rfl) (by kernel_rfl) (fun _ _ _ h => h) ?hw18b S0 ?hy18b ?rest18b
            case hw18b => (simp only [List.getElem?_toArray, List.getElem?_cons_zero, List.getElem?_cons_succ, Option.elim]; rfl)
            case hy18b => (simp only [List.getElem?_toArray, List.getElem?_cons_zero, List.getElem?_cons_succ, Option.elim]; intro wx _; go_simp; with_reducible rfl)
            simp only [dstOf, List.getElem?_toArray, List.getElem?_cons_zero, List.getElem?_cons_succ, Option.bind, Act.put, List.setIfInBounds_toArray, List.set_cons_zero, List.set_cons_succ]
            refine till_take 19 8 false (v := ?v19b) (by kernel_rfl) (by kernel_rfl) (by kernel_rfl) (by kernel_rfl) (by kernel_rfl) (fun _ _ _ h => h) ?hw19b S0 ?hy19b ?rest19b
            case hw19b => (simp only [List.getElem?_toArray, List.getElem?_cons_zero, List.getElem?_cons_succ, Option.elim]; rfl)
            case hy19b => (simp only [List.getElem?_toArray, List.getElem?_cons_zero, List.getElem?_cons_succ, Option.elim]; intro wx _; go_simp; with_reducible rfl)
            simp only [dstOf, List.getElem?_toArray, List.getElem?_cons_zero, List.getElem?_cons_succ, Option.bind, Act.put, List.setIfInBounds_toArray, List.set_cons_zero, List.set_cons_succ]
            refine till_take 20 8 true (v := ?v20b) (by kernel_rfl) (by kernel_rfl) (by kernel_rfl) (by kernel_rfl) (by kernel_rfl) (fun _ _ _ h => h) ?hw20b S0 ?hy20b ?rest20b
            case hw20b => (simp only [List.getElem?_toArray, List.getElem?_cons_zero, List.getElem?_cons_succ, Option.elim]; rfl)
            case hy20b => (simp only [List.getElem?_toArray, List.getElem?_cons_zero, List.getElem?_cons_succ, Option.elim]; intro wx hx; obtain ⟨x1, x2, x3⟩ := hx trivial; go_simp; with_reducible rfl)
            simp only [dstOf, List.getElem?_toArray, List.getElem?_cons_zero, List.getElem?_cons_succ, Option.bind, Act.put, List.setIfInBounds_toArray, List.set_cons_zero, List.set_cons_succ]
            refine till_take 21 8 false (v := ?v21b) (by kernel_rfl) (by kernel_rfl) (by kernel_rfl) (by kernel_rfl) (by kernel_rfl) (fun _ _ _ h => h) ?hw21b S0 ?hy21b ?rest21b
            case hw21b => (simp only [List.getElem?_toArray, List.getElem?_cons_zero, List.getElem?_cons_succ, Option.elim]; rfl)
            case hy21b => (simp only [List.getElem?_toArray, List.getElem?_cons_zero, List.getElem?_cons_succ, Option.elim]; intro wx _; go_simp; with_reducible rfl)
            simp only [dstOf, List.getElem?_toArray, List.getElem?_cons_zero, List.getElem?_cons_succ, Option.bind, Act.put, List.setIfInBounds_toArray, List.set_cons_zero, List.set_cons_succ]
            refine till_take 22 8 false (v := ?v22b) (by kernel_rfl) (by kernel_rfl) (by kernel_rfl) (by kernel_rfl) (by kernel_rfl) (fun _ _ _ h => h) ?hw22b S0 ?hy22b ?rest22b
            case hw22b => (simp only [List.getElem?_toArray, List.getElem?_cons_zero, List.getElem?_cons_succ, Option.elim]; rfl)
            case hy22b => (simp only [List.getElem?_toArray, List.getElem?_cons_zero, List.getElem?_cons_succ, Option.elim]; intro wx _; go_simp; with_reducible rfl)
            simp only [dstOf, List.getElem?_toArray, List.getElem?_cons_zero, List.getElem?_cons_succ, Option.bind, Act.put, List.setIfInBounds_toArray, List.set_cons_zero, List.set_cons_succ]
            refine till_take 23 8 false (v := ?v23b) (by kernel_rfl) (by kernel_rfl) (by kernel_rfl) (by kernel_rfl) (by kernel_rfl) (fun _ _ _ h => h) ?hw23b S0 ?hy23b ?rest23b
            case hw23b => (simp only [List.getElem?_toArray, List.getElem?_cons_zero, List.getElem?_cons_succ, Option.elim]; rfl)
            case hy23b => (simp only [List.getElem?_toArray, List.getElem?_cons_zero, List.getElem?_cons_succ, Option.elim]; intro wx _; go_simp; with_reducible rfl)
            simp only [dstOf, List.getElem?_toArray, List.getElem?_cons_zero, List.getElem?_cons_succ, Option.bind, Act.put, List.setIfInBounds_toArray, List.set_cons_zero, List.set_cons_succ]
            refine till_take 24 8 true (v := ?v24b) (by kernel_rfl) (by kernel_rfl) (by kernel_rfl) (by kernel_rfl) (by kernel_rfl) (fun _ _ _ h => h) ?hw24b S0 ?hy24b ?rest24b
            case hw24b => (simp only [List.getElem?_toArray, List.getElem?_cons_zero, List.getElem?_cons_succ, Option.elim]; rfl)
            case hy24b => (simp only [List.getElem?_toArray, List.getElem?_cons_zero, List.getElem?_cons_succ, Option.elim]; intro wx hx; obtain ⟨x1, x2, x3⟩ := hx trivial; go_simp; with_reducible rfl)
            simp only [dstOf, List.getElem?_toArray, List.getElem?_cons_zero, List.getElem?_cons_succ, Option.bind, Act.put, List.setIfInBounds_toArray, List.set_cons_zero, List.set_cons_succ]
            refine till_take 25 8 false (v := ?v25b) (by kernel_rfl) (by kernel_rfl) (by kernel_rfl) (by kernel_rfl) (by kernel_rfl) (fun _ _ _ h => h) ?hw25b S0 ?hy25b ?rest25b
            case hw25b => (simp only [List.getElem?_toArray, List.getElem?_cons_zero, List.getElem?_cons_succ, Option.elim]; rfl)
            case hy25b => (simp only [List.getElem?_toArray, List.getElem?_cons_zero, List.getElem?_cons_succ, Option.elim]; intro wx _; go_simp; with_reducible rfl)
            simp only [dstOf, List.getElem?_toArray, List.getElem?_cons_zero, List.getElem?_cons_succ, Option.bind, Act.put, List.setIfInBounds_toArray, List.set_cons_zero, List.set_cons_succ]
            refine till_step 26 (by kernel_rfl) (by kernel_rfl) (fun K hK => ?_)
            simp only [List.getElem?_toArray, List.getElem?_cons_zero, List.getElem?_cons_succ, Option.elim]
            rw [if_pos (by rfl)]
            go_simp
            refine hK.out _ _ ?_
            clear hK K
            try simp only [Act.put, List.setIfInBounds_toArray, List.set_cons_zero, List.set_cons_succ]
            refine till_step 27 (by kernel_rfl) (by kernel_rfl) (fun K hK => ?_)
            simp only [List.getElem?_toArray, List.getElem?_cons_zero, List.getElem?_cons_succ, Option.elim]
            rw [if_pos (by rfl)]
            refine Lib.wp_append_run _ (.tmp 58) (.tmp 84) 65 65 rfl _ _ rfl rfl _ _ HRR.out ?_
            refine hK.out _ _ ?_
            clear hK K
            try simp only [Act.put, List.setIfInBounds_toArray, List.set_cons_zero, List.set_cons_succ]
            refine till_step 28 (by kernel_rfl) (by kernel_rfl) (fun K hK => ?_)
            simp only [List.getElem?_toArray, List.getElem?_cons_zero, List.getElem?_cons_succ, Option.elim]
            rw [if_pos (by rfl)]
            go_simp
            refine hK.out _ _ ?_
            clear hK K
            try simp only [Act.put, List.setIfInBounds_toArray, List.set_cons_zero, List.set_cons_succ]
            refine till_end (by kernel_rfl) ?_ _
            go_wp2
            go_roundw
            case rel => exact ⟨k + 1, by omega, by go_num, HB3, Lib.hid (by rw [HFT.out]; exact HO3.out), HJ3⟩
            case measure => simp [intOf]; omega
          · obtain rfl : k = R1.files.length := by omega
            have hO := HO.out
            rw [List.take_length] at hO
            obtain ⟨oa, oc, rfl⟩ := own_form hO
            have f0 := hr.fz 0
            have f1 := hr.fz 1
            have c1 := hr.c 1
            simp only [List.getElem?_toArray, List.getElem?_cons_zero, List.getElem?_cons_succ] at c1
            obtain ⟨lab4, L4, h4, _, k4⟩ := H3.out.1.newFiles (R' := { R1 with files := fallen R1.files }) HE.out HJ.out HOKF.out rfl rfl rfl rfl rfl hO
            have HNW := Lib.hid (h4.newQueue (R' := { R1 with files := fallen R1.files, queue := [] }) (v := .slice none 0 0) (Below.refl _ _) (fun j hj => by cases hj) HOK.out rfl rfl rfl rfl rfl (World.ownsRow_nil _ _ _ _))
            have K4 := Lib.hid (H3.out.2.trans k4)
            clear hO hr h4 k4
            go_wp2
            go_end0
            obtain ⟨lab5, n1, n2⟩ := HNW.out
            exact ⟨rfl, lab5, by rw [HCR.out]; exact n1, K4.out.trans n2⟩
theorem rcrash_any (h : RIn w lab id r R L) (v : Value) (ks : List Int) (hk : KeepR w lab id R L v ks) (hl : ks.length ≤ 140737488355327) (hin : ∀ p ∈ R.queue, 64 * p.2 < (R.now p.1).length) :
    Calls Tryz.prog 21 #[.pointer (some ⟨r, 0, none⟩), v] w (RPost lab id r (.tuple #[]) (R.crash ks) w) := by
  cases hd : R.down with
  | false => exact rcrash_up h v ks hk hl hd hin
  | true =>
    refine (rcrash_down h v hd).mono ?_
    rintro e w' ⟨rfl, rfl⟩
    have : R.crash ks = R := by simp [Rf.crash, hd]
    rw [this]
    exact ⟨rfl, lab, ⟨L, h⟩, Chg.refl h.lo⟩
end
end Go.Proofs.YtjbcgahdiolhhaaGreatDoor.D2
namespace Go.Proofs.YtjbcgahdiolhhaaGreatDoor.D2
open Go.RowKit Go.Maps Go.ChangeMaps Go.MapKept
open Dp
attribute [local go_sem ↓] Go.wp_at_zero Go.wp_at_succ

/-- Each pending sector has a byte of its file. -/
def Rf.In (R : Rf) : Prop := ∀ p ∈ R.queue, 64 * p.2 < (R.now p.1).length
theorem rin_add {R : Rf} (h : R.In) (f a : Nat) (s : List UInt8) : (R.add f a s).In := by
  unfold Rf.add
  split
  · exact h
  · rename_i hs
    have hs0 : 0 < s.length := by cases s with | nil => exact absurd rfl hs | cons x t => simp
    intro p hp
    have hnow : ∀ g : Int, ({ R.putF f a s with queue := addSecs R.queue f (a / 64) (K0 a s.length) } : Rf).now g = (R.putF f a s).now g := fun _ => rfl
    rw [hnow]
    unfold Rf.putF
    rw [now_set]
    have hpn : putN (R.now f) a s = putL (R.now f) a s := by unfold putN; rw [if_neg hs]
    rcases addSecs_mem _ (show p ∈ addSecs R.queue f (a / 64) _ from hp) with h1 | ⟨h1, h2⟩
    · have := h p h1
      split
      · rename_i he
        simp only at he
        rw [hpn, putL_length]
        rw [he] at this
        omega
      · exact this
    · rw [if_pos (by simp only; omega)]
      simp only
      rw [hpn, putL_length]
      unfold K0 at h2
      omega
theorem keep_add (R : Rf) (f a : Nat) (s : List UInt8) : (R.add f a s).keep = R.keep := by unfold Rf.add; split <;> rfl
def Rf.comes (R : Rf) (f a : Int) (s : List UInt8) : Rf :=
  if R.down = true ∨ R.armed = 0 then R
  else if 1 < R.armed then { R with armed := R.armed - 1 }
  else (if isFile f = true ∧ fitsB a s = true then ({ R with armed := 0 } : Rf).add f.toNat a.toNat s else { R with armed := 0 }).crash R.keep
theorem Rf.Ok.armed' {R : Rf} (h : R.Ok) {n : Nat} (hn : (n : Int) ≤ 9223372036854775807) : ({ R with armed := n } : Rf).Ok := ⟨h.nums, h.file, h.queue, h.few, h.lost, hn, h.keep, h.size⟩
theorem Rf.Ok.lost' {R : Rf} (h : R.Ok) {n : Nat} (hn : (n : Int) ≤ 9223372036854775807) : ({ R with lost := n } : Rf).Ok := ⟨h.nums, h.file, h.queue, h.few, hn, h.armed, h.keep, h.size⟩
section
variable {w : World} {lab : Nat → Nat} {id r : Nat} {R : Rf} {L : RLoc}
set_option maxRecDepth 100000 in
theorem rstart_any (h : RIn w lab id r R L) : Calls Tryz.prog 23 #[.pointer (some ⟨r, 0, none⟩)] w (RPost lab id r (.tuple #[]) { R with down := false } w) := by
  have c3 := h.c 3
  have f3 := h.fz 3
  simp only [List.getElem?_toArray, List.getElem?_cons_zero, List.getElem?_cons_succ] at c3
  obtain ⟨h1, k1⟩ := h.setField (i := 3) (v := .bool false) (R' := { R with down := false }) (Hp.refl _) ⟨h.ok.nums, h.ok.file, h.ok.queue, h.ok.few, h.ok.lost, h.ok.armed, h.ok.keep, h.ok.size⟩ rfl rfl rfl (by simp)
  have H := Lib.hid (show RPost lab id r (.tuple #[]) { R with down := false } w (.returned (.tuple #[])) _ from ⟨rfl, lab, ⟨L, h1⟩, k1⟩)
  clear h h1 k1
  go_enter Tryz.func23, Tryz.ntmps23
  go_wp2
  go_end0
  exact H.out
set_option maxRecDepth 100000 in
theorem rlose_any (h : RIn w lab id r R L) (n : Int) (hn : I64 n) : Calls Tryz.prog 17 #[.pointer (some ⟨r, 0, none⟩), .int .i64 n] w (RPost lab id r (.tuple #[]) { R with lost := n.toNat } w) := by
  have c2 := h.c 2
  have f2 := h.fz 2
  simp only [List.getElem?_toArray, List.getElem?_cons_zero, List.getElem?_cons_succ] at c2
  have n2 := hn.2
  obtain ⟨h1, k1⟩ := h.setField (i := 2) (v := .int .i64 (n.toNat : Int)) (R' := { R with lost := n.toNat }) (Hp.refl _) (h.ok.lost' (by omega)) rfl rfl rfl (by simp)
  rw [show ((n.toNat : Nat) : Int) = max n 0 by omega] at h1 k1
  have H := Lib.hid (show RPost lab id r (.tuple #[]) { R with lost := n.toNat } w (.returned (.tuple #[])) _ from ⟨rfl, lab, ⟨L, h1⟩, k1⟩)
  clear h h1 k1 hn n2
  go_enter Tryz.func17, Tryz.ntmps17
  go_wp2
  go_end0
  exact H.out
set_option maxHeartbeats 1500000 in
set_option maxRecDepth 100000 in
theorem rcomes_any (h : RIn w lab id r R L) (hin : R.In) (f a : Int) (s : List UInt8) (hf : I64 f) (ha : I64 a) (hs : s.length ≤ 140737488355327) :
    Calls Tryz.prog 58 #[.pointer (some ⟨r, 0, none⟩), .int .i64 f, .int .i64 a, .string (bs s)] w (RPost lab id r (.tuple #[]) (R.comes f a s) w) := by
  have c3 := h.c 3
  have c4 := h.c 4
  have f4 := h.fz 4
  simp only [List.getElem?_toArray, List.getElem?_cons_zero, List.getElem?_cons_succ] at c3 c4
  have HN := Lib.hid (show RPost lab id r (.tuple #[]) R w (.returned (.tuple #[])) w from ⟨rfl, lab, ⟨L, h⟩, Chg.refl h.lo⟩)
  unfold Rf.comes
  by_cases hd : R.down = true
  · rw [if_pos (.inl hd)]
    rw [hd] at c3
    clear h hin hf ha
    go_enter Tryz.func58, Tryz.ntmps58
    go_wp2
    refine bodyPost_ret (results_none rfl _ _ _) rfl ?_
    exact HN.out
  have hd' : R.down = false := by simpa using hd
  rw [hd'] at c3
  by_cases h0 : R.armed = 0
  · rw [if_pos (.inr h0)]
    rw [h0] at c4
    clear h hin hf ha hd
    go_enter Tryz.func58, Tryz.ntmps58
    go_wp2
    refine bodyPost_ret (results_none rfl _ _ _) rfl ?_
    exact HN.out
  rw [if_neg (by simp [hd', h0])]
  have harm := h.ok.armed
  obtain ⟨n, hn⟩ : ∃ n, R.armed = n + 1 := ⟨R.armed - 1, by omega⟩
  obtain ⟨h1, k1⟩ := h.setField (i := 4) (v := .int .i64 (n : Int)) (R' := { R with armed := n }) (Hp.refl _) (h.ok.armed' (by omega)) rfl rfl rfl (by simp)
  have hsub : IntKind.i64.wrap (((n : Int) + 1) - 1) = (n : Int) := by rw [IntKind.wrap_i64]; omega
  rw [hn, show ((n + 1 : Nat) : Int) = (n : Int) + 1 by omega] at c4
  by_cases h2 : 1 < R.armed
  · rw [if_pos h2]
    have hnp : (0 : Int) < (n : Int) := by omega
    have hnb : (n : Int) ≤ 9223372036854775807 := by omega
    have hw64 : wrap64 (n : Int) = (n : Int) := by unfold wrap64; omega
    have HF := Lib.hid (show RPost lab id r (.tuple #[]) { R with armed := R.armed - 1 } w (.returned (.tuple #[])) _ from ⟨rfl, lab, ⟨L, by rw [show R.armed - 1 = n by omega]; exact h1⟩, k1⟩)
    clear h hin hf ha hd h0 h1 k1 harm hn h2
    go_enter Tryz.func58, Tryz.ntmps58
    go_wp2
    refine bodyPost_ret (results_none rfl _ _ _) rfl ?_
    exact HF.out
  · rw [if_neg h2]
    obtain rfl : n = 0 := by omega
    have HI1 := Lib.hid (show ({ R with armed := 0 } : Rf).In from hin)
    simp only [Int.natCast_zero, Int.zero_add] at c4 h1 k1
    have H1 := Lib.hid h1
    have K1 := Lib.hid k1
    have HFA := Lib.hid (And.intro hf ha)
    clear h hin hf ha hd h0 h1 k1 harm hn h2 hsub
    by_cases hfile : isFile f = true
    · have hfb : 0 ≤ f ∧ f < 16 := by simpa [isFile] using hfile
      obtain ⟨hf0, hf1⟩ := hfb
      have hf2 : f ≤ 15 := by omega
      have HFT := Lib.hid (fun w => fits_any a s HFA.out.2 hs w)
      by_cases hfits : fitsB a s = true
      · rw [if_pos ⟨hfile, hfits⟩]
        have hfb : 0 ≤ a ∧ a + s.length ≤ 16777216 := by simpa [fitsB] using hfits
        have HAD := Lib.hid (radd_any H1.out f.toNat a.toNat s (by omega) (by omega))
        have HI2 := Lib.hid (rin_add HI1.out f.toNat a.toNat s)
        rw [show ((f.toNat : Nat) : Int) = f by omega, show ((a.toNat : Nat) : Int) = a by omega] at HAD
        rw [hfits] at HFT
        have hkk := keep_add ({ R with armed := 0 } : Rf) f.toNat a.toNat s
        obtain ⟨R2, hR2⟩ : ∃ R2, R2 = ({ R with armed := 0 } : Rf).add f.toNat a.toNat s := ⟨_, rfl⟩
        rw [← hR2] at HAD HI2 hkk ⊢
        have HKK := Lib.hid hkk
        clear hfile hfits hfb hR2 hkk
        go_enter Tryz.func58, Tryz.ntmps58
        go_wp2_with (first | (go_at_call 68; refine (HFT.out _).mono ?_; rintro e w2 ⟨rfl, rfl⟩) | (go_at_call 69; refine HAD.out.mono ?_; rintro e w2 ⟨rfl, lab2, ⟨L2, h2⟩, k2⟩; refine Hid.out ?_))
        refine Lib.hid ?_
        have c5 := h2.c 5
        simp only [List.getElem?_toArray, List.getElem?_cons_zero, List.getElem?_cons_succ] at c5
        obtain ⟨ka, kc, hkv⟩ := own_form h2.keep
        rw [HKK.out] at hkv
        have hks := KeepR.self h2
        have hsz := h2.ok.size
        rw [HKK.out] at hks hsz
        have HCR := Lib.hid (rcrash_any h2 L2.kv _ hks (by omega) HI2.out)
        clear hks hsz
        rw [hkv] at c5 HCR
        have K2 := Lib.hid (K1.out.trans k2)
        clear h2 k2 hkv
        go_wp2_with (go_at_call 21; refine HCR.out.mono ?_; rintro e w3 ⟨rfl, lab3, g3, k3⟩; refine Hid.out ?_)
        refine Lib.hid ?_
        have HF := Lib.hid (show RPost lab id r (.tuple #[]) _ w (.returned (.tuple #[])) w3 from ⟨rfl, lab3, g3, K2.out.trans k3⟩)
        clear g3 k3 HCR c5
        go_wp2
        go_end0
        exact HF.out
      · rw [if_neg (fun e => hfits e.2)]
        have hfits' : fitsB a s = false := by simpa using hfits
        rw [hfits'] at HFT
        clear hfile hfits hfits'
        obtain ⟨w2, hw2⟩ : ∃ w2, w2 = w.setCell ⟨r, 4, none⟩ (.int .i64 0) := ⟨_, rfl⟩
        have h2 := H1.out
        rw [← hw2] at h2
        have c5 := h2.c 5
        simp only [List.getElem?_toArray, List.getElem?_cons_zero, List.getElem?_cons_succ] at c5
        obtain ⟨ka, kc, hkv⟩ := own_form h2.keep
        have HCR := Lib.hid (rcrash_any h2 L.kv R.keep (KeepR.self h2) (by have h9 : R.keep.length ≤ 1000000 := h2.ok.size; omega) HI1.out)
        rw [hkv] at c5 HCR
        rw [hw2] at c5 HCR
        clear h2 hkv hw2 w2
        go_enter Tryz.func58, Tryz.ntmps58
        go_wp2_with (first | (go_at_call 68; refine (HFT.out _).mono ?_; rintro e w2 ⟨rfl, rfl⟩) | (go_at_call 21; refine HCR.out.mono ?_; rintro e w3 ⟨rfl, lab3, g3, k3⟩; refine Hid.out ?_))
        refine Lib.hid ?_
        have HF := Lib.hid (show RPost lab id r (.tuple #[]) _ w (.returned (.tuple #[])) w3 from ⟨rfl, lab3, g3, K1.out.trans k3⟩)
        clear g3 k3 HCR
        go_wp2
        go_end0
        exact HF.out
    · rw [if_neg (fun e => hfile e.1)]
      have HFT := Lib.hid (fun w => fits_any a s HFA.out.2 hs w)
      have hfb : f < 0 ∨ 15 < f := by simp only [isFile, decide_eq_true_eq] at hfile; omega
      clear hfile
      by_cases hf0 : f < 0
      · clear hfb
        obtain ⟨w2, hw2⟩ : ∃ w2, w2 = w.setCell ⟨r, 4, none⟩ (.int .i64 0) := ⟨_, rfl⟩
        have h2 := H1.out
        rw [← hw2] at h2
        have c5 := h2.c 5
        simp only [List.getElem?_toArray, List.getElem?_cons_zero, List.getElem?_cons_succ] at c5
        obtain ⟨ka, kc, hkv⟩ := own_form h2.keep
        have HCR := Lib.hid (rcrash_any h2 L.kv R.keep (KeepR.self h2) (by have h9 : R.keep.length ≤ 1000000 := h2.ok.size; omega) HI1.out)
        rw [hkv] at c5 HCR
        rw [hw2] at c5 HCR
        clear h2 hkv hw2 w2
        go_enter Tryz.func58, Tryz.ntmps58
        go_wp2_with (first | (go_at_call 68; refine (HFT.out _).mono ?_; rintro e w2 ⟨rfl, rfl⟩) | (go_at_call 21; refine HCR.out.mono ?_; rintro e w3 ⟨rfl, lab3, g3, k3⟩; refine Hid.out ?_))
        refine Lib.hid ?_
        have HF := Lib.hid (show RPost lab id r (.tuple #[]) _ w (.returned (.tuple #[])) w3 from ⟨rfl, lab3, g3, K1.out.trans k3⟩)
        clear g3 k3 HCR
        go_wp2
        go_end0
        exact HF.out
      · have hf1 : 15 < f := by omega
        have hf2 : 0 ≤ f := by omega
        clear hfb
        obtain ⟨w2, hw2⟩ : ∃ w2, w2 = w.setCell ⟨r, 4, none⟩ (.int .i64 0) := ⟨_, rfl⟩
        have h2 := H1.out
        rw [← hw2] at h2
        have c5 := h2.c 5
        simp only [List.getElem?_toArray, List.getElem?_cons_zero, List.getElem?_cons_succ] at c5
        obtain ⟨ka, kc, hkv⟩ := own_form h2.keep
        have HCR := Lib.hid (rcrash_any h2 L.kv R.keep (KeepR.self h2) (by have h9 : R.keep.length ≤ 1000000 := h2.ok.size; omega) HI1.out)
        rw [hkv] at c5 HCR
        rw [hw2] at c5 HCR
        clear h2 hkv hw2 w2
        go_enter Tryz.func58, Tryz.ntmps58
        go_wp2_with (first | (go_at_call 68; refine (HFT.out _).mono ?_; rintro e w2 ⟨rfl, rfl⟩) | (go_at_call 21; refine HCR.out.mono ?_; rintro e w3 ⟨rfl, lab3, g3, k3⟩; refine Hid.out ?_))
        refine Lib.hid ?_
        have HF := Lib.hid (show RPost lab id r (.tuple #[]) _ w (.returned (.tuple #[])) w3 from ⟨rfl, lab3, g3, K1.out.trans k3⟩)
        clear g3 k3 HCR
        go_wp2
        go_end0
        exact HF.out
end
end Go.Proofs.YtjbcgahdiolhhaaGreatDoor.D2
namespace Go.Proofs.YtjbcgahdiolhhaaGreatDoor.D2
open Go.RowKit Go.Maps Go.ChangeMaps Go.MapKept
open Dp
attribute [local go_sem ↓] Go.wp_at_zero Go.wp_at_succ

def Rf.wr (R : Rf) (f a : Int) (s : List UInt8) : Int × Rf :=
  if R.may f ≠ 0 then (R.may f, R) else if a < 0 then (1, R) else if fitsB a s = false then (6, R) else (0, R.add f.toNat a.toNat s)
def Rf.sy (R : Rf) (f : Int) : Int × Rf :=
  if R.may f ≠ 0 then (R.may f, R) else if 0 < R.lost then (9, { R with lost := R.lost - 1 }) else (0, R.settle f.toNat (R.now f))
def Rf.tr (R : Rf) (f n : Int) : Int × Rf :=
  if R.may f ≠ 0 then (R.may f, R) else if n < 0 ∨ ((R.now f).length : Int) < n then (1, R) else (0, R.settle f.toNat ((R.now f).take n.toNat))
theorem may_file {R : Rf} {f : Int} (h : R.may f = 0) : 0 ≤ f ∧ f ≤ 15 := by
  unfold Rf.may at h
  split at h
  · cases h
  · split at h
    · cases h
    · omega
section
variable {w : World} {lab : Nat → Nat} {id r : Nat} {R : Rf} {L : RLoc}
set_option maxHeartbeats 1500000 in
set_option maxRecDepth 100000 in
theorem rwrite_any (h : RIn w lab id r R L) (hin : R.In) (f a : Int) (s : List UInt8) (hf : I64 f) (ha : I64 a) (hs : s.length ≤ 140737488355327) :
    Calls Tryz.prog 43 #[.pointer (some ⟨r, 0, none⟩), .int .i64 f, .int .i64 a, .string (bs s)] w (RPost lab id r (.int .i64 ((R.comes f a s).wr f a s).1) ((R.comes f a s).wr f a s).2 w) := by
  have HC := Lib.hid (rcomes_any h hin f a s hf ha hs)
  generalize R.comes f a s = R1 at HC ⊢
  have HFT := Lib.hid (fun w => fits_any a s ha hs w)
  clear h hin hf ha
  by_cases hm : R1.may f = 0
  · obtain ⟨f0, f1⟩ := may_file hm
    by_cases ha0 : a < 0
    · have hwr : R1.wr f a s = (1, R1) := by unfold Rf.wr; rw [if_neg (by simp [hm]), if_pos ha0]
      rw [hwr]
      clear hwr
      go_enter Tryz.func43, Tryz.ntmps43
      go_wp2_with (first | (go_at_call 58; refine HC.out.mono ?_; rintro e w1 ⟨rfl, lab1, ⟨L1, h1⟩, k1⟩; have H1 := Lib.hid h1; have K1 := Lib.hid k1; clear h1 k1) | (go_at_call 48; refine (may_any H1.out f).mono ?_; rintro e w2 ⟨rfl, rfl⟩))
      go_ret
      exact ⟨rfl, lab1, ⟨L1, H1.out⟩, K1.out⟩
    · have ha1 : 0 ≤ a := by omega
      by_cases hfits : fitsB a s = true
      · have hwr : R1.wr f a s = (0, R1.add f.toNat a.toNat s) := by unfold Rf.wr; rw [if_neg (by simp [hm]), if_neg ha0, if_neg (by simp [hfits])]
        rw [hwr]
        have hfb : 0 ≤ a ∧ a + s.length ≤ 16777216 := by simpa [fitsB] using hfits
        obtain ⟨_, hfb⟩ := hfb
        rw [hfits] at HFT
        clear hwr hfits
        go_enter Tryz.func43, Tryz.ntmps43
        go_wp2_with (go_at_call 58; refine HC.out.mono ?_; rintro e w1 ⟨rfl, lab1, ⟨L1, h1⟩, k1⟩; refine Hid.out ?_)
        refine Lib.hid ?_
        have H1 := Lib.hid h1
        have K1 := Lib.hid k1
        have HAD := Lib.hid (radd_any H1.out f.toNat a.toNat s (by omega) (by omega))
        rw [show ((f.toNat : Nat) : Int) = f by omega, show ((a.toNat : Nat) : Int) = a by omega] at HAD
        clear h1 k1 HC
        go_wp2_with (first | (go_at_call 48; refine (may_any H1.out f).mono ?_; rintro e w2 ⟨rfl, rfl⟩) | (go_at_call 68; refine (HFT.out _).mono ?_; rintro e w2 ⟨rfl, rfl⟩) | (go_at_call 69; refine HAD.out.mono ?_; rintro e w2 ⟨rfl, lab2, g2, k2⟩; have G2 := Lib.hid g2; have K2 := Lib.hid k2; clear g2 k2))
        go_ret
        exact ⟨rfl, lab2, G2.out, K1.out.trans K2.out⟩
      · have hf' : fitsB a s = false := by simpa using hfits
        have hwr : R1.wr f a s = (6, R1) := by unfold Rf.wr; rw [if_neg (by simp [hm]), if_neg ha0, if_pos hf']
        rw [hwr]
        rw [hf'] at HFT
        clear hwr hfits hf'
        go_enter Tryz.func43, Tryz.ntmps43
        go_wp2_with (first | (go_at_call 58; refine HC.out.mono ?_; rintro e w1 ⟨rfl, lab1, ⟨L1, h1⟩, k1⟩; have H1 := Lib.hid h1; have K1 := Lib.hid k1; clear h1 k1) | (go_at_call 48; refine (may_any H1.out f).mono ?_; rintro e w2 ⟨rfl, rfl⟩) | (go_at_call 68; refine (HFT.out _).mono ?_; rintro e w2 ⟨rfl, rfl⟩))
        go_ret
        exact ⟨rfl, lab1, ⟨L1, H1.out⟩, K1.out⟩
  · have hwr : R1.wr f a s = (R1.may f, R1) := by unfold Rf.wr; rw [if_pos hm]
    rw [hwr]
    have hm' : (R1.may f == 0) = false := by simpa using hm
    clear hwr
    go_enter Tryz.func43, Tryz.ntmps43
    go_wp2_with (first | (go_at_call 58; refine HC.out.mono ?_; rintro e w1 ⟨rfl, lab1, ⟨L1, h1⟩, k1⟩; have H1 := Lib.hid h1; have K1 := Lib.hid k1; clear h1 k1) | (go_at_call 48; refine (may_any H1.out f).mono ?_; rintro e w2 ⟨rfl, rfl⟩))
    go_ret
    exact ⟨rfl, lab1, ⟨L1, H1.out⟩, K1.out⟩
end
end Go.Proofs.YtjbcgahdiolhhaaGreatDoor.D2
namespace Go.Proofs.YtjbcgahdiolhhaaGreatDoor.D2
open Go.RowKit Go.Maps Go.ChangeMaps Go.MapKept
open Dp
attribute [local go_sem ↓] Go.wp_at_zero Go.wp_at_succ
section
variable {w : World} {lab : Nat → Nat} {id r : Nat} {R : Rf} {L : RLoc}
set_option maxHeartbeats 1500000 in
set_option maxRecDepth 100000 in
theorem rsync_any (h : RIn w lab id r R L) (hin : R.In) (f : Int) (hf : I64 f) :
    Calls Tryz.prog 36 #[.pointer (some ⟨r, 0, none⟩), .int .i64 f] w (RPost lab id r (.int .i64 ((R.comes 0 0 []).sy f).1) ((R.comes 0 0 []).sy f).2 w) := by
  have HC := Lib.hid (rcomes_any h hin 0 0 [] ⟨by omega, by omega⟩ ⟨by omega, by omega⟩ (by simp))
  rw [show bs [] = (⟨#[]⟩ : ByteArray) from rfl] at HC
  generalize R.comes 0 0 [] = R1 at HC ⊢
  have HF := Lib.hid hf
  clear h hin hf
  by_cases hm : R1.may f = 0
  · obtain ⟨f0, f1⟩ := may_file hm
    by_cases hl : 0 < R1.lost
    · have hwr : R1.sy f = (9, { R1 with lost := R1.lost - 1 }) := by unfold Rf.sy; rw [if_neg (by simp [hm]), if_pos hl]
      rw [hwr]
      clear hwr
      obtain ⟨n, hn⟩ : ∃ n, R1.lost = n + 1 := ⟨R1.lost - 1, by omega⟩
      have HNN := Lib.hid hn
      clear hl hn
      go_enter Tryz.func36, Tryz.ntmps36
      go_wp2_with (go_at_call 58; refine HC.out.mono ?_; rintro e w1 ⟨rfl, lab1, ⟨L1, h1⟩, k1⟩; refine Hid.out ?_)
      refine Lib.hid ?_
      have c2 := h1.c 2
      have fz := h1.fz 2
      have hlo := h1.ok.lost
      simp only [List.getElem?_toArray, List.getElem?_cons_zero, List.getElem?_cons_succ] at c2
      rw [HNN.out, show ((n + 1 : Nat) : Int) = (n : Int) + 1 by omega] at c2 hlo
      obtain ⟨h2, k2⟩ := h1.setField (i := 2) (v := .int .i64 (n : Int)) (R' := { R1 with lost := n }) (Hp.refl _) (h1.ok.lost' (by omega)) rfl rfl rfl (by simp)
      have hnb : (n : Int) ≤ 9223372036854775807 := by omega
      have hw64 : wrap64 (n : Int) = (n : Int) := by unfold wrap64; omega
      have HR := Lib.hid (show RPost lab id r (.int .i64 9) { R1 with lost := R1.lost - 1 } w (.returned (.int .i64 9)) _ from ⟨rfl, lab1, ⟨L1, by rw [HNN.out, show n + 1 - 1 = n by omega]; exact h2⟩, k1.trans k2⟩)
      have H1 := Lib.hid h1
      clear h1 k1 h2 k2 HC
      go_wp2_with (first | (go_at_call 48; refine (may_any H1.out f).mono ?_; rintro e w2 ⟨rfl, rfl⟩))
      go_ret
      exact HR.out
    · have hl0 : R1.lost = 0 := by omega
      have hwr : R1.sy f = (0, R1.settle f.toNat (R1.now f)) := by unfold Rf.sy; rw [if_neg (by simp [hm]), if_neg hl]
      rw [hwr]
      clear hwr hl
      have HL0 := Lib.hid hl0
      clear hl0
      go_enter Tryz.func36, Tryz.ntmps36
      go_wp2_with (go_at_call 58; refine HC.out.mono ?_; rintro e w1 ⟨rfl, lab1, ⟨L1, h1⟩, k1⟩; refine Hid.out ?_)
      refine Lib.hid ?_
      have c2 := h1.c 2
      simp only [List.getElem?_toArray, List.getElem?_cons_zero, List.getElem?_cons_succ] at c2
      rw [HL0.out] at c2
      have hfd := field1 f (bs (R1.now f)) (bs (R1.dur f))
      have H1 := Lib.hid h1
      have K1 := Lib.hid k1
      have HNL := Lib.hid (rnow_len h1.ok f).1
      clear h1 k1 HC
      go_wp2_with (first | (go_at_call 48; refine (may_any H1.out f).mono ?_; rintro e w2 ⟨rfl, rfl⟩) | (go_at_call 49; refine (get_any H1.out f HF.out).mono ?_; rintro e w3 ⟨rfl, b3⟩; refine Hid.out ?_))
      refine Lib.hid ?_
      have HS := Lib.hid (rsettle_any (H1.out.fresh b3) f.toNat (R1.now f) (by omega) HNL.out)
      rw [show ((f.toNat : Nat) : Int) = f by omega] at HS
      have K3 := Lib.hid (K1.out.trans (H1.out.chg0 b3))
      clear b3
      go_wp2_with (go_at_call 59; refine HS.out.mono ?_; rintro e w4 ⟨rfl, lab4, g4, k4⟩; have G4 := Lib.hid g4; have K4 := Lib.hid k4; clear g4 k4)
      go_ret
      exact ⟨rfl, lab4, G4.out, K3.out.trans K4.out⟩
  · have hwr : R1.sy f = (R1.may f, R1) := by unfold Rf.sy; rw [if_pos hm]
    rw [hwr]
    have hm' : (R1.may f == 0) = false := by simpa using hm
    clear hwr
    go_enter Tryz.func36, Tryz.ntmps36
    go_wp2_with (first | (go_at_call 58; refine HC.out.mono ?_; rintro e w1 ⟨rfl, lab1, ⟨L1, h1⟩, k1⟩; have H1 := Lib.hid h1; have K1 := Lib.hid k1; clear h1 k1) | (go_at_call 48; refine (may_any H1.out f).mono ?_; rintro e w2 ⟨rfl, rfl⟩))
    go_ret
    exact ⟨rfl, lab1, ⟨L1, H1.out⟩, K1.out⟩
end
end Go.Proofs.YtjbcgahdiolhhaaGreatDoor.D2
namespace Go.Proofs.YtjbcgahdiolhhaaGreatDoor.D2
open Go.RowKit Go.Maps Go.ChangeMaps Go.MapKept
open Dp
attribute [local go_sem ↓] Go.wp_at_zero Go.wp_at_succ
theorem str_pre (w : World) {s : List UInt8} (j : Nat) (h2 : j ≤ (bs s).size) : (Instr.slice 9 (.string (bs s)) none (some (.int .i64 (j : Int))) none).run Tryz.prog w = .ok (.string ((bs s).extract 0 j)) w := by
  simp [Instr.slice, Instr.sliceBounds, Instr.sliceBound, asIntOf, run_underlying Tryz.underlying9, h2, Result.andThen, go_sem]
def Rf.read (R : Rf) (f a n : Int) : List UInt8 × Int :=
  if R.may f ≠ 0 then ([], R.may f) else if a < 0 ∨ n < 0 then ([], 1) else (((R.now f).drop a.toNat).take n.toNat, 0)
section
variable {w : World} {lab : Nat → Nat} {id r : Nat} {R : Rf} {L : RLoc}
set_option maxHeartbeats 1500000 in
set_option maxRecDepth 100000 in
theorem rtruncate_any (h : RIn w lab id r R L) (hin : R.In) (f n : Int) (hf : I64 f) :
    Calls Tryz.prog 39 #[.pointer (some ⟨r, 0, none⟩), .int .i64 f, .int .i64 n] w (RPost lab id r (.int .i64 ((R.comes 0 0 []).tr f n).1) ((R.comes 0 0 []).tr f n).2 w) := by
  have HC := Lib.hid (rcomes_any h hin 0 0 [] ⟨by omega, by omega⟩ ⟨by omega, by omega⟩ (by simp))
  rw [show bs [] = (⟨#[]⟩ : ByteArray) from rfl] at HC
  generalize R.comes 0 0 [] = R1 at HC ⊢
  have HF := Lib.hid hf
  clear h hin hf
  by_cases hm : R1.may f = 0
  · obtain ⟨f0, f1⟩ := may_file hm
    have hz := bs_size (R1.now f)
    by_cases hbad : n < 0 ∨ ((R1.now f).length : Int) < n
    · have hwr : R1.tr f n = (1, R1) := by unfold Rf.tr; rw [if_neg (by simp [hm]), if_pos hbad]
      rw [hwr]
      have hbad' : n < 0 ∨ (0 ≤ n ∧ ((bs (R1.now f)).size : Int) < n) := by omega
      clear hwr hbad
      have hfd := field1 f (bs (R1.now f)) (bs (R1.dur f))
      have HZ := Lib.hid hz
      clear hz
      rcases hbad' with hb | ⟨hb0, hb⟩
      all_goals
        go_enter Tryz.func39, Tryz.ntmps39
        go_wp2_with (first | (go_at_call 58; refine HC.out.mono ?_; rintro e w1 ⟨rfl, lab1, ⟨L1, h1⟩, k1⟩; have H1 := Lib.hid h1; have K1 := Lib.hid k1; clear h1 k1) | (go_at_call 48; refine (may_any H1.out f).mono ?_; rintro e w2 ⟨rfl, rfl⟩) | (go_at_call 49; refine (get_any H1.out f HF.out).mono ?_; rintro e w3 ⟨rfl, b3⟩; have B3 := Lib.hid b3; clear b3))
        go_ret
        exact ⟨rfl, lab1, ⟨L1, H1.out.fresh B3.out⟩, K1.out.trans (H1.out.chg0 B3.out)⟩
    · have hwr : R1.tr f n = (0, R1.settle f.toNat ((R1.now f).take n.toNat)) := by unfold Rf.tr; rw [if_neg (by simp [hm]), if_neg hbad]
      rw [hwr]
      obtain ⟨m, rfl⟩ : ∃ m : Nat, n = (m : Int) := ⟨n.toNat, by omega⟩
      rw [Int.toNat_natCast]
      have hml : m ≤ (bs (R1.now f)).size := by omega
      have hml2 : (m : Int) ≤ ((bs (R1.now f)).size : Int) := by omega
      have hsl := fun w => str_pre w (s := R1.now f) m hml
      have hex : (bs (R1.now f)).extract 0 m = bs ((R1.now f).take m) := by rw [bs_extract]; simp
      rw [hex] at hsl
      have hfd := field1 f (bs (R1.now f)) (bs (R1.dur f))
      have HZ := Lib.hid hz
      clear hwr hbad hz hex
      go_enter Tryz.func39, Tryz.ntmps39
      go_wp2_with (go_at_call 58; refine HC.out.mono ?_; rintro e w1 ⟨rfl, lab1, ⟨L1, h1⟩, k1⟩; refine Hid.out ?_)
      refine Lib.hid ?_
      have H1 := Lib.hid h1
      have K1 := Lib.hid k1
      have HNL := Lib.hid (rnow_len h1.ok f).1
      clear h1 k1 HC
      go_wp2_with (first | (go_at_call 48; refine (may_any H1.out f).mono ?_; rintro e w2 ⟨rfl, rfl⟩) | (go_at_call 49; refine (get_any H1.out f HF.out).mono ?_; rintro e w3 ⟨rfl, b3⟩; refine Hid.out ?_))
      refine Lib.hid ?_
      have HS := Lib.hid (rsettle_any (H1.out.fresh b3) f.toNat ((R1.now f).take m) (by omega) (by have := HNL.out; rw [List.length_take]; omega))
      rw [show ((f.toNat : Nat) : Int) = f by omega] at HS
      have K3 := Lib.hid (K1.out.trans (H1.out.chg0 b3))
      clear b3
      go_wp2_with (go_at_call 59; refine HS.out.mono ?_; rintro e w4 ⟨rfl, lab4, g4, k4⟩; have G4 := Lib.hid g4; have K4 := Lib.hid k4; clear g4 k4)
      go_ret
      exact ⟨rfl, lab4, G4.out, K3.out.trans K4.out⟩
  · have hwr : R1.tr f n = (R1.may f, R1) := by unfold Rf.tr; rw [if_pos hm]
    rw [hwr]
    have hm' : (R1.may f == 0) = false := by simpa using hm
    clear hwr
    go_enter Tryz.func39, Tryz.ntmps39
    go_wp2_with (first | (go_at_call 58; refine HC.out.mono ?_; rintro e w1 ⟨rfl, lab1, ⟨L1, h1⟩, k1⟩; have H1 := Lib.hid h1; have K1 := Lib.hid k1; clear h1 k1) | (go_at_call 48; refine (may_any H1.out f).mono ?_; rintro e w2 ⟨rfl, rfl⟩))
    go_ret
    exact ⟨rfl, lab1, ⟨L1, H1.out⟩, K1.out⟩
set_option maxHeartbeats 1500000 in
set_option maxRecDepth 100000 in
theorem rread_any (h : RIn w lab id r R L) (f a n : Int) (hf : I64 f) :
    Calls Tryz.prog 28 #[.pointer (some ⟨r, 0, none⟩), .int .i64 f, .int .i64 a, .int .i64 n] w fun e w' => e = .returned (.tuple #[.string (bs (R.read f a n).1), .int .i64 (R.read f a n).2]) ∧ Below w.heap.size w w' := by
  have H := Lib.hid h
  have HF := Lib.hid hf
  have HNL := Lib.hid (rnow_len h.ok f).1
  clear h hf
  by_cases hm : R.may f = 0
  · obtain ⟨f0, f1⟩ := may_file hm
    have hz := bs_size (R.now f)
    have hfd := field1 f (bs (R.now f)) (bs (R.dur f))
    by_cases hbad : a < 0 ∨ n < 0
    · have hwr : R.read f a n = ([], 1) := by unfold Rf.read; rw [if_neg (by simp [hm]), if_pos hbad]
      rw [hwr]
      have hbad' : a < 0 ∨ (0 ≤ a ∧ n < 0) := by omega
      clear hwr hbad hz
      rcases hbad' with hb | ⟨hb0, hb⟩
      all_goals
        go_enter Tryz.func28, Tryz.ntmps28
        go_wp2_with (first | (go_at_call 48; refine (may_any H.out f).mono ?_; rintro e w2 ⟨rfl, rfl⟩))
        go_ret2
        exact ⟨rfl, Below.refl _ _⟩
    · have hwr : R.read f a n = (((R.now f).drop a.toNat).take n.toNat, 0) := by unfold Rf.read; rw [if_neg (by simp [hm]), if_neg hbad]
      rw [hwr]
      obtain ⟨i, rfl⟩ : ∃ i : Nat, a = (i : Int) := ⟨a.toNat, by omega⟩
      obtain ⟨k, rfl⟩ : ∃ k : Nat, n = (k : Int) := ⟨n.toNat, by omega⟩
      simp only [Int.toNat_natCast]
      clear hwr hbad
      by_cases hlen : (bs (R.now f)).size ≤ i
      · have hdr : ((R.now f).drop i).take k = [] := by rw [List.drop_of_length_le (by omega), List.take_nil]
        rw [hdr]
        have hli : ((bs (R.now f)).size : Int) ≤ (i : Int) := by omega
        clear hdr hz
        go_enter Tryz.func28, Tryz.ntmps28
        go_wp2_with (first | (go_at_call 48; refine (may_any H.out f).mono ?_; rintro e w2 ⟨rfl, rfl⟩) | (go_at_call 49; refine (get_any H.out f HF.out).mono ?_; rintro e w3 ⟨rfl, b3⟩; have B3 := Lib.hid b3; clear b3))
        go_ret2
        exact ⟨rfl, B3.out⟩
      · have hzz : (bs (R.now f)).size ≤ 16777216 := by have := HNL.out; omega
        obtain ⟨m, hmm⟩ : ∃ m : Nat, m = min k ((bs (R.now f)).size - i) := ⟨_, rfl⟩
        have hmin : min (k : Int) (((bs (R.now f)).size : Int) - (i : Int)) = (m : Int) := by omega
        have him : i + m ≤ (bs (R.now f)).size := by omega
        have hsl := fun w => str_slice w (s := R.now f) i (i + m) (by omega) him
        have hex : (bs (R.now f)).extract i (i + m) = bs (((R.now f).drop i).take k) := by
          rw [bs_extract]; congr 1
          apply List.ext_getElem?
          intro j
          rw [List.getElem?_take, List.getElem?_take]
          by_cases hj : j < k
          · rw [if_pos hj]
            split
            · rfl
            · exact (List.getElem?_eq_none (by simp; omega)).symm
          · rw [if_neg hj, if_neg (by omega)]
        rw [show ((i + m : Nat) : Int) = (i : Int) + (m : Int) by omega] at hsl
        have HEX := Lib.hid hex
        have hlt : (i : Int) < ((bs (R.now f)).size : Int) := by omega
        have hi1 : (i : Int) + (m : Int) ≤ ((bs (R.now f)).size : Int) := by omega
        clear hex hmm hz hlen
        go_enter Tryz.func28, Tryz.ntmps28
        go_wp2_with (first | (go_at_call 48; refine (may_any H.out f).mono ?_; rintro e w2 ⟨rfl, rfl⟩) | (go_at_call 49; refine (get_any H.out f HF.out).mono ?_; rintro e w3 ⟨rfl, b3⟩; have B3 := Lib.hid b3; clear b3))
        go_ret2
        exact ⟨by rw [← HEX.out]; rfl, B3.out⟩
  · have hwr : R.read f a n = ([], R.may f) := by unfold Rf.read; rw [if_pos hm]
    rw [hwr]
    have hm' : (R.may f == 0) = false := by simpa using hm
    clear hwr
    go_enter Tryz.func28, Tryz.ntmps28
    go_wp2_with (first | (go_at_call 48; refine (may_any H.out f).mono ?_; rintro e w2 ⟨rfl, rfl⟩))
    go_ret2
    exact ⟨rfl, Below.refl _ _⟩
end
end Go.Proofs.YtjbcgahdiolhhaaGreatDoor.D2
namespace Go.Proofs.YtjbcgahdiolhhaaGreatDoor.D2
open Go.RowKit Go.Maps Go.ChangeMaps Go.MapKept
open Dp
attribute [local go_sem ↓] Go.wp_at_zero Go.wp_at_succ
def Rf.arm (R : Rf) (n : Int) (ks : List Int) : Rf := { R with armed := n.toNat, keep := ks }
section
variable {w : World} {lab : Nat → Nat} {id r : Nat} {R : Rf} {L : RLoc}
theorem RIn.newKeep {w1 : World} (h : RIn w lab id r R L) (hb : Below w.heap.size w w1) {R' : Rf} {v : Value} (hv : ∀ k, v.ownBlock = some k → w.heap.size ≤ k) (ok : R'.Ok) (hf : R'.files = R.files) (hq : R'.queue = R.queue) (hl : R'.lost = R.lost) (hd : R'.down = R.down) (ha : R'.armed = R.armed)
    (o : w1.ownsRow 0 3 1 v R'.keep.length (intVs R'.keep)) :
    ∃ lab', RG (w1.setCell ⟨r, 5, none⟩ v) lab' id r R' ∧ Chg id lab lab' w (w1.setCell ⟨r, 5, none⟩ v) := by
  have h1 := h.fresh hb
  obtain ⟨h2, k2⟩ := h1.setRow (i := 5) (R' := R') (L' := { L with kv := v }) (c := id + 3) (h.chg0 hb) (.inr (.inr rfl)) (grown_refl w1 v.ownBlock) (fun k hk' => .inr ⟨h.lo k (hv k hk'), hv k hk'⟩) (fun k hk' => .inl hk') (fun k hk' => (o.lt k hk').2) (Hp.refl _) ok hl hd ha rfl (.inl ⟨by omega, rfl, hf⟩) (.inl ⟨by omega, rfl, hq⟩) (.inr ⟨rfl, rfl, o⟩)
  exact ⟨_, ⟨_, h2⟩, k2⟩
set_option maxHeartbeats 1500000 in
set_option maxRecDepth 100000 in
theorem rarm_any (h : RIn w lab id r R L) (n : Int) (hn : I64 n) (v : Value) (ks : List Int) (hk : KeepR w lab id R L v ks) (hks : ∀ z ∈ ks, I64 z) (hl : ks.length ≤ 1000000) :
    Calls Tryz.prog 19 #[.pointer (some ⟨r, 0, none⟩), .int .i64 n, v] w (RPost lab id r (.tuple #[]) (R.arm n ks) w) := by
  have c4 := h.c 4
  have f4 := h.fz 4
  simp only [List.getElem?_toArray, List.getElem?_cons_zero, List.getElem?_cons_succ] at c4
  have n2 := hn.2
  obtain ⟨h1, k1⟩ := h.setField (i := 4) (v := .int .i64 (n.toNat : Int)) (R' := { R with armed := n.toNat }) (Hp.refl _) (h.ok.armed' (by omega)) rfl rfl rfl (by simp)
  rw [show ((n.toNat : Nat) : Int) = max n 0 by omega] at h1 k1
  have hsrc := hk.src h1 rfl rfl k1
  have HOK := Lib.hid (show (R.arm n ks).Ok from ⟨h.ok.nums, h.ok.file, h.ok.queue, h.ok.few, h.ok.lost, by show ((n.toNat : Nat) : Int) ≤ _; omega, hks, hl⟩)
  have H1 := Lib.hid h1
  have K1 := Lib.hid k1
  clear h h1 k1 hk hks hn n2
  generalize hw1 : w.setCell ⟨r, 4, none⟩ (.int .i64 (max n 0)) = w1 at H1 K1 hsrc
  have c5 := H1.out.c 5
  have f5 := H1.out.fz 5
  simp only [List.getElem?_toArray, List.getElem?_cons_zero, List.getElem?_cons_succ] at c5
  obtain ⟨ka, kc, hkv⟩ := own_form H1.out.keep
  rw [hkv] at c5
  obtain ⟨i0, hi, hz0, hz1, hz2⟩ := info_parts int_info
  obtain ⟨hln, hsr⟩ := hsrc
  have HLN := Lib.hid hln
  clear hkv hln
  rcases hsr with ⟨rfl, h0⟩ | ⟨ad, cap, rfl, hc, ho⟩
  · obtain rfl : ks = [] := List.eq_nil_of_length_eq_zero h0
    subst hw1
    have hA := below_alloc (w.setCell ⟨r, 4, none⟩ (.int .i64 (max n 0))) (.cells #[] 3)
    have h2 := H1.out.fresh hA
    have e5 := h2.c 5
    have g5 := h2.fz 5
    simp only [List.getElem?_toArray, List.getElem?_cons_zero, List.getElem?_cons_succ] at e5
    have HNW := Lib.hid (H1.out.newKeep (R' := R.arm n []) (v := .slice (some ⟨(w.setCell ⟨r, 4, none⟩ (.int .i64 (max n 0))).heap.size, 0, none⟩) 0 0) hA (fun k hk => by cases hk; exact Nat.le_refl _) HOK.out rfl rfl rfl rfl rfl (World.ownsRow_made _ #[] 0 (Nat.zero_le _) (by unfold maxLen; omega) (by simp)))
    rw [show (w.setCell ⟨r, 4, none⟩ (.int .i64 (max n 0))).heap.size = w.heap.size from set_size _ _ _] at HNW
    clear hi hz0 hz1 hz2 hA h2 c5 f5
    go_enter Tryz.func19, Tryz.ntmps19
    go_wp2
    go_end0
    obtain ⟨lab', g, k⟩ := HNW.out
    exact ⟨rfl, lab', g, K1.out.trans k⟩
  · have HC := Lib.hid hc
    have HO := Lib.hid ho
    subst hw1
    clear hc ho
    obtain ⟨wb, hwb⟩ : ∃ wb, wb = w.setCell ⟨r, 4, none⟩ (.int .i64 (max n 0)) := ⟨_, rfl⟩
    have hbs : wb.heap.size = w.heap.size := by rw [hwb]; exact set_size _ _ _
    rw [← hwb] at H1 K1 HC c5 f5
    have hA := below_alloc wb (.cells #[] 3)
    obtain ⟨v', w', r1, r2, r3, _, r5⟩ := run_append_own_at (P := Tryz.prog) (wb.alloc (.cells #[] 3)) 0 36 36 3 i0 (.int .i64 0) 1 8 Tryz.underlying36 hi hz0 hz1 hz2 rfl (by decide) _ 0 [] (World.ownsRow_made wb #[] 0 (Nat.zero_le _) (by unfold maxLen; omega) (by simp)) ad ks.length cap (intVs ks) HLN.out (fun j u hj => (World.grownBy_alloc _ _ none).cell (HC.out j u hj) (by simp)) HO.out (by unfold maxLen; omega) (by omega) (Nat.zero_le _)
    rw [Nat.zero_add, List.nil_append] at r2
    have HRR := Lib.hid r1
    have hb2 := grown_below hA r3 (fun k hk => by cases hk; exact Nat.le_refl _)
    have h2 := H1.out.fresh hb2
    have e5 := h2.c 5
    have g5 := h2.fz 5
    simp only [List.getElem?_toArray, List.getElem?_cons_zero, List.getElem?_cons_succ] at e5
    have HNW := Lib.hid (H1.out.newKeep (R' := R.arm n ks) (v := v') hb2 (fun k hk => by
      rcases r5 with h | h
      · have h9 := h.symm.trans hk; cases h9; exact Nat.le_refl _
      · have h9 := h.symm.trans hk; simp only [World.size_alloc, Option.some.injEq] at h9; omega) HOK.out rfl rfl rfl rfl rfl r2)
    obtain ⟨oa, oc, hov⟩ := own_form r2
    subst hov
    rw [hbs] at HRR
    rw [hwb] at HRR
    clear hi hz0 hz1 hz2 hA h2 c5 f5 r1 r2 r3 r5 hb2 hbs
    go_enter Tryz.func19, Tryz.ntmps19
    go_wp2_with (at_builtin; refine wpList_append_run rfl _ _ _ _ rfl _ _ rfl rfl _ _ HRR.out ?_)
    go_end0
    obtain ⟨lab', g, k⟩ := HNW.out
    exact ⟨rfl, lab', g, (by rw [hwb] at K1; exact K1.out.trans (by rw [← hwb]; exact k))⟩
end
end Go.Proofs.YtjbcgahdiolhhaaGreatDoor.D2
namespace Go.Proofs.YtjbcgahdiolhhaaGreatDoor.D2
open Go.RowKit Go.Maps Go.ChangeMaps Go.MapKept
open Dp
attribute [local go_sem ↓] Go.wp_at_zero Go.wp_at_succ
/-- A new block's label. -/
def labNew (w : World) (lab : Nat → Nat) (id : Nat) (x : Nat) : Nat := if x = w.heap.size then id else if w.heap.size ≤ x then 0 else lab x
theorem rnew_in (w : World) (lab : Nat → Nat) (id : Nat) (h64 : 64 ≤ id) :
    RIn (w.alloc (.cells #[.slice none 0 0, .slice none 0 0, .int .i64 0, .bool false, .int .i64 0, .slice none 0 0] 68)) (labNew w lab id) id w.heap.size Rf.new ⟨.slice none 0 0, .slice none 0 0, .slice none 0 0⟩ ∧
    Chg id lab (labNew w lab id) w (w.alloc (.cells #[.slice none 0 0, .slice none 0 0, .int .i64 0, .bool false, .int .i64 0, .slice none 0 0] 68)) := by
  have hb := below_alloc w (.cells #[.slice none 0 0, .slice none 0 0, .int .i64 0, .bool false, .int .i64 0, .slice none 0 0] 68)
  refine ⟨⟨⟨(by simp [Rf.new]), (by simp [Rf.new]), (by simp [Rf.new]), (by simp [Rf.new]), (by simp [Rf.new]), (by simp [Rf.new]), (by simp [Rf.new]), (by simp [Rf.new])⟩, fun x hx => ?_, h64, heap_alloc_new w _, World.ownsRow_nil _ _ _ _, World.ownsRow_nil _ _ _ _, World.ownsRow_nil _ _ _ _, by simp [labNew], (fun k hk => by cases hk), (fun k hk => by cases hk), (fun k hk => by cases hk)⟩,
    ⟨hb.os, hb.tape, hb.output, hb.size, fun x hx => ?_, fun x hx _ => hb.block x hx, fun x hx => ?_⟩⟩
  · simp only [World.size_alloc] at hx
    unfold labNew
    rw [if_neg (by omega), if_pos (by omega)]
  · unfold labNew
    rw [if_neg (by omega), if_neg (by omega)]
  · unfold labNew
    by_cases h : x = w.heap.size
    · rw [if_pos h]; exact .inr ⟨Nat.le_refl _, by omega⟩
    · rw [if_neg h, if_pos hx]; exact .inl rfl
set_option maxRecDepth 100000 in
theorem rnew_any (w : World) (lab : Nat → Nat) (id : Nat) (h64 : 64 ≤ id) :
    Calls Tryz.prog 7 #[] w fun e w' => e = .returned (.pointer (some ⟨w.heap.size, 0, none⟩)) ∧ RIn w' (labNew w lab id) id w.heap.size Rf.new ⟨.slice none 0 0, .slice none 0 0, .slice none 0 0⟩ ∧ Chg id lab (labNew w lab id) w w' := by
  have H := Lib.hid (rnew_in w lab id h64)
  go_enter Tryz.func7, Tryz.ntmps7
  go_wp2
  go_ret
  exact ⟨rfl, H.out⟩
end Go.Proofs.YtjbcgahdiolhhaaGreatDoor.D2
namespace Go.Proofs.YtjbcgahdiolhhaaGreatDoor.D2
open Go.RowKit Go.Maps Go.ChangeMaps Go.MapKept
open Dp
attribute [local go_sem ↓] Go.wp_at_zero Go.wp_at_succ
def Rf.act (R : Rf) (x : Act1) : Int × Rf :=
  if x.K % 8 = 2 then (R.comes 0 0 []).sy x.F else if x.K % 8 = 3 then (R.comes 0 0 []).tr x.F x.N else if x.K % 8 = 4 then (0, { R with lost := (x.N % 4).toNat })
  else if x.K % 8 = 5 then (0, R.arm x.N x.Keep) else if x.K % 8 = 6 then (0, R.crash x.Keep) else if x.K % 8 = 7 then (0, { R with down := false }) else (R.comes x.F x.N x.S).wr x.F x.N x.S
section
variable {w : World} {lab : Nat → Nat} {id r : Nat} {R : Rf} {L : RLoc}
end
end Go.Proofs.YtjbcgahdiolhhaaGreatDoor.D2
namespace Go.Proofs.YtjbcgahdiolhhaaGreatDoor.D2
open Dp

/-- A disk and the reference's disk say the same. -/
structure Sim (D : Dk) (R : Rf) : Prop where
  now : ∀ f : Nat, f < 16 → R.now (f : Int) = D.now f
  dur : ∀ f : Nat, f < 16 → R.dur (f : Int) = D.dur f
  queue : R.queue = D.pend
  lost : R.lost = D.lost
  down : R.down = D.down
  armed : R.armed = D.calls
  keep : R.armed ≠ 0 → R.keep = D.keep
theorem sim_new : Sim new Rf.new := ⟨fun _ _ => rfl, fun _ _ => rfl, rfl, rfl, rfl, rfl, fun _ => rfl⟩
theorem Sim.inn {D : Dk} {R : Rf} (h : Sim D R) (hd : D.In) (hf : ∀ p ∈ D.pend, p.1 < 16) : R.In := by
  intro p hp
  rw [h.queue] at hp
  rw [h.now p.1 (hf p hp)]
  exact hd p hp
theorem sim_add {D : Dk} {R : Rf} (h : Sim D R) {f : Nat} (hf : f < 16) (a : Nat) {s : List UInt8} (hs : s ≠ []) : Sim (D.put f a s) (R.add f a s) := by
  unfold Rf.add
  rw [if_neg hs]
  refine ⟨fun g hg => ?_, fun g hg => ?_, ?_, h.lost, h.down, h.armed, h.keep⟩
  · show (R.putF f a s).now g = upd D.now f (putL (D.now f) a s) g
    unfold Rf.putF upd
    rw [now_set]
    by_cases hgf : g = f
    · subst hgf; rw [if_pos rfl, if_pos rfl]; simp only; unfold putN; rw [if_neg hs, h.now g hg]
    · rw [if_neg (by simp only; omega), if_neg hgf]; exact h.now g hg
  · show (R.putF f a s).dur g = D.dur g
    unfold Rf.putF
    rw [dur_set]
    split
    · rename_i he; simp only at he ⊢; rw [← he]; exact h.dur g hg
    · exact h.dur g hg
  · show addSecs R.queue f (a / 64) (K0 a s.length) = _
    rw [h.queue]; rfl
theorem sim_harden {D : Dk} {R : Rf} (h : Sim D R) (p : Nat × Nat) : Sim (D.harden p) (R.harden p) := by
  refine ⟨fun g hg => ?_, fun g hg => ?_, h.queue, h.lost, h.down, h.armed, h.keep⟩
  · rw [now_harden]; exact h.now g hg
  · show (R.harden p).dur g = upd D.dur p.1 (putL (D.dur p.1) (64 * p.2) (sec (D.now p.1) p.2)) g
    unfold Rf.harden upd
    rw [dur_set]
    by_cases hgf : g = p.1
    · subst hgf; rw [if_pos rfl, if_pos rfl]; simp only; rw [h.now _ hg, h.dur _ hg]
    · rw [if_neg (by simp only; omega), if_neg hgf]; exact h.dur g hg
theorem sim_hardens : ∀ (ps : List (Nat × Nat)) {D : Dk} {R : Rf}, Sim D R → Sim (hardens D ps) (R.hardens ps)
  | [], _, _, h => h
  | p :: ps, _, _, h => sim_hardens ps (sim_harden h p)
theorem look_fallen (R : Rf) (f : Int) : ({ R with files := fallen R.files } : Rf).look f = (R.look f).map fun x => ⟨x.num, x.dur, x.dur⟩ := by
  unfold Rf.look fallen
  simp only
  rw [List.find?_map]
  rfl
theorem now_fallen (R : Rf) (f : Int) : ({ R with files := fallen R.files } : Rf).now f = R.dur f := by
  unfold Rf.now Rf.dur; rw [look_fallen]; cases R.look f <;> rfl
theorem dur_fallen (R : Rf) (f : Int) : ({ R with files := fallen R.files } : Rf).dur f = R.dur f := by
  unfold Rf.dur; rw [look_fallen]; cases R.look f <;> rfl
theorem sim_crash {D : Dk} {R : Rf} (h : Sim D R) (ks : List Int) : Sim (D.crash ks) (R.crash ks) := by
  unfold Dk.crash Rf.crash
  rw [h.down]
  cases hd : D.down with
  | true => exact h
  | false =>
    simp only [Bool.false_eq_true, if_false]
    have h1 := sim_hardens (survive ks 0 D.pend) h
    rw [h.queue]
    generalize R.hardens (survive ks 0 D.pend) = R1 at h1 ⊢
    generalize hardens D (survive ks 0 D.pend) = D1 at h1 ⊢
    refine ⟨fun g hg => ?_, fun g hg => ?_, rfl, h1.lost, rfl, rfl, fun h => absurd rfl h⟩
    · show ({ R1 with files := fallen R1.files } : Rf).now g = if g < 16 then D1.dur g else D1.now g
      rw [now_fallen, if_pos hg]; exact h1.dur g hg
    · show ({ R1 with files := fallen R1.files } : Rf).dur g = D1.dur g
      rw [dur_fallen]; exact h1.dur g hg
theorem sim_settle {D : Dk} {R : Rf} (h : Sim D R) (hg : Good D) {f : Nat} (hf : f < 16) : Sim (D.settle f) (R.settle f (R.now f)) := by
  have hk := hardens_keeps (D.pend.filter (fun p => p.1 = f)) D
  refine ⟨fun g hgl => ?_, fun g hgl => ?_, ?_, by rw [show (D.settle f).lost = _ from hk.2.2.2.1]; exact h.lost, by rw [show (D.settle f).down = _ from hk.2.2.1]; exact h.down, by rw [show (D.settle f).calls = _ from hk.2.2.2.2.1]; exact h.armed, fun ha => by rw [show (D.settle f).keep = _ from hk.2.2.2.2.2]; exact h.keep ha⟩
  · rw [show (D.settle f).now = D.now from hk.1]
    show (R.set ⟨f, R.now f, R.now f⟩).now g = _
    rw [now_set]
    split
    · rename_i he; simp only at he ⊢; rw [← he]; exact h.now g hgl
    · exact h.now g hgl
  · show (R.set ⟨f, R.now f, R.now f⟩).dur g = _
    rw [dur_set]
    by_cases hgf : g = f
    · subst hgf; rw [if_pos rfl, settle_dur hg]; exact h.now g hgl
    · rw [if_neg (by simp only; omega), settle_dur_other D hgf]; exact h.dur g hgl
  · show dropsF f R.queue = dropsF f D.pend
    rw [h.queue]
theorem sim_trunc {D : Dk} {R : Rf} (h : Sim D R) (hg : Good D) {f : Int} (hf : 0 ≤ f ∧ f < 16) (n : Nat) : Sim (D.trunc f n) (R.settle f.toNat ((R.now f).take n)) := by
  obtain ⟨k, rfl⟩ : ∃ k : Nat, f = (k : Int) := ⟨f.toNat, by omega⟩
  have hs := sim_settle h hg (f := k) (by omega)
  have hn := settle_dur hg k
  have hk := hardens_keeps (D.pend.filter (fun p => p.1 = k)) D
  rw [Int.toNat_natCast]
  refine ⟨fun g hgl => ?_, fun g hgl => ?_, hs.queue, hs.lost, hs.down, hs.armed, hs.keep⟩
  · show (R.set ⟨k, (R.now k).take n, (R.now k).take n⟩).now g = upd (D.settle k).now k (((D.settle k).now k).take n) g
    rw [now_set]; unfold upd
    have h2 := hs.now g hgl
    by_cases hgf : g = k
    · subst hgf; rw [if_pos rfl, if_pos rfl, show (D.settle g).now = D.now from hk.1, ← h.now g hgl]
    · rw [if_neg (by simp only; omega), if_neg hgf, show (D.settle k).now = D.now from hk.1]; exact h.now g hgl
  · show (R.set ⟨k, (R.now k).take n, (R.now k).take n⟩).dur g = upd (D.settle k).dur k (((D.settle k).dur k).take n) g
    rw [dur_set]; unfold upd
    by_cases hgf : g = k
    · subst hgf; rw [if_pos rfl, if_pos rfl, hn, ← h.now g hgl]
    · rw [if_neg (by simp only; omega), if_neg hgf, settle_dur_other D hgf]; exact h.dur g hgl

/-! ### The calls -/
theorem sim_may {D : Dk} {R : Rf} (h : Sim D R) (f : Int) : R.may f = if D.down then 8 else if isFile f = false then 1 else 0 := by
  unfold Rf.may
  rw [h.down]
  cases D.down with
  | true => rfl
  | false =>
    simp only [Bool.false_eq_true, if_false]
    by_cases hf : isFile f = false
    · rw [if_pos hf, if_pos (by simp [isFile] at hf; omega)]
    · rw [if_neg hf, if_neg (by simp [isFile] at hf; omega)]
theorem sim_wr {D : Dk} {R : Rf} (h : Sim D R) (hd : D.down = false) (f a : Int) (s : List UInt8) : (R.wr f a s).1 = (D.wr f a s).1 ∧ Sim (D.wr f a s).2 (R.wr f a s).2 := by
  unfold Rf.wr Dk.wr
  rw [sim_may h, hd]
  simp only [Bool.false_eq_true, if_false]
  by_cases hf : isFile f = false
  · rw [if_pos hf, if_pos (by decide), if_pos (.inl hf)]; exact ⟨rfl, h⟩
  · rw [if_neg hf, if_neg (by decide)]
    have hff : 0 ≤ f ∧ f < 16 := by simpa [isFile] using hf
    by_cases ha : a < 0
    · rw [if_pos ha, if_pos (.inr ha)]; exact ⟨rfl, h⟩
    · rw [if_neg ha, if_neg (show ¬ (isFile f = false ∨ a < 0) by simp [ha, hf])]
      by_cases hft : 16777216 - (s.length : Int) < a
      · rw [if_pos hft, if_pos (show fitsB a s = false by unfold fitsB; rw [decide_eq_false_iff_not]; omega)]; exact ⟨rfl, h⟩
      · rw [if_neg hft, if_neg (show ¬ fitsB a s = false by unfold fitsB; rw [decide_eq_false_iff_not]; omega)]
        by_cases hs : s = []
        · rw [if_pos hs]
          have : R.add f.toNat a.toNat s = R := by unfold Rf.add; rw [if_pos hs]
          rw [this]; exact ⟨rfl, h⟩
        · rw [if_neg hs]; exact ⟨rfl, sim_add h (by omega) _ hs⟩
theorem may_down {R : Rf} (h : R.down = true) (f : Int) : R.may f = 8 := by unfold Rf.may; rw [if_pos h]
theorem crash_down_true (D : Dk) (ks : List Int) : (D.crash ks).down = true := by
  unfold Dk.crash
  cases h : D.down with
  | true => exact h
  | false => rfl
theorem wr_keeps (D : Dk) (f a : Int) (s : List UInt8) : (D.wr f a s).2.calls = D.calls ∧ (D.wr f a s).2.keep = D.keep ∧ (D.wr f a s).2.down = D.down := by
  unfold Dk.wr
  split
  · exact ⟨rfl, rfl, rfl⟩
  · split
    · exact ⟨rfl, rfl, rfl⟩
    · split <;> exact ⟨rfl, rfl, rfl⟩
theorem wr_setcalls (D : Dk) (f a : Int) (s : List UInt8) (n : Nat) : ({ D with calls := n } : Dk).wr f a s = ((D.wr f a s).1, { (D.wr f a s).2 with calls := n }) := by
  unfold Dk.wr
  split
  · rfl
  · split
    · rfl
    · split <;> rfl
/-- Nothing happens, or a call is counted, or the machine goes down. -/
theorem sim_strike {D : Dk} {R : Rf} (h : Sim D R) (hd : D.down = false) (f a : Int) (s : List UInt8) :
    (D.calls = 0 ∧ R.comes f a s = R) ∨ (D.calls = 1 ∧ Sim (({ (D.wr f a s).2 with calls := 0 } : Dk).crash D.keep) (R.comes f a s)) ∨ (1 < D.calls ∧ Sim { D with calls := D.calls - 1 } (R.comes f a s)) := by
  have hr := h.down.trans hd
  unfold Rf.comes
  rw [h.armed]
  by_cases h0 : D.calls = 0
  · exact .inl ⟨h0, by rw [if_pos (.inr h0)]⟩
  · rw [if_neg (by simp [hr, h0])]
    by_cases h1 : 1 < D.calls
    · rw [if_pos h1]
      exact .inr (.inr ⟨h1, h.now, h.dur, h.queue, h.lost, h.down, rfl, fun _ => h.keep (by rw [h.armed]; exact h0)⟩)
    · rw [if_neg h1]
      refine .inr (.inl ⟨by omega, ?_⟩)
      rw [← h.keep (by rw [h.armed]; exact h0)]
      refine sim_crash ?_ _
      have hz : Sim { D with calls := 0 } { R with armed := 0 } := ⟨h.now, h.dur, h.queue, h.lost, h.down, rfl, fun h => absurd rfl h⟩
      have hw := sim_wr hz hd f a s
      rw [wr_setcalls] at hw
      simp only at hw
      by_cases hc : isFile f = true ∧ fitsB a s = true
      · rw [if_pos hc]
        have e : ({ R with armed := 0 } : Rf).wr f a s = (0, ({ R with armed := 0 } : Rf).add f.toNat a.toNat s) := by
          have hm := sim_may hz f
          rw [hd] at hm
          have hft := hc.2
          simp only [fitsB, decide_eq_true_eq] at hft
          unfold Rf.wr
          rw [hm]
          simp only [Bool.false_eq_true, if_false]
          rw [if_neg (by simp [hc.1]), if_neg (by omega), if_neg (by simp [hc.2])]
        rw [e] at hw
        exact hw.2
      · rw [if_neg hc]
        have e : (({ R with armed := 0 } : Rf).wr f a s).2 = { R with armed := 0 } := by
          have hm := sim_may hz f
          rw [hd] at hm
          unfold Rf.wr
          rw [hm]
          simp only [Bool.false_eq_true, if_false]
          by_cases hf : isFile f = false
          · rw [if_pos (by simp [hf])]
          · have hf' : isFile f = true := by simpa using hf
            have hft : fitsB a s = false := by
              cases h9 : fitsB a s with
              | false => rfl
              | true => exact absurd ⟨hf', h9⟩ hc
            rw [if_neg (by simp [hf'])]
            by_cases ha : a < 0
            · rw [if_pos ha]
            · rw [if_neg ha, if_pos hft]
        rw [e] at hw
        exact hw.2
/-- What comes before a call that is no write. -/
theorem sim_comes {D : Dk} {R : Rf} (h : Sim D R) (hd : D.down = false) : (D.strike.1 = true ↔ (R.comes 0 0 []).down = true) ∧ Sim D.strike.2 (R.comes 0 0 []) := by
  have hw : (D.wr 0 0 []).2 = D := by unfold Dk.wr; simp [isFile]
  have hs := sim_strike h hd 0 0 []
  rw [hw] at hs
  unfold Dk.strike
  rcases hs with ⟨h0, hs⟩ | ⟨h1, hs⟩ | ⟨h1, hs⟩
  · rw [if_pos h0, hs, h.down, hd]; exact ⟨by simp, h⟩
  · rw [if_neg (by omega), if_pos h1, hs.down]
    exact ⟨by simp [crash_down_true], hs⟩
  · rw [if_neg (by omega), if_neg (by omega), hs.down]
    exact ⟨by simp [hd], hs⟩
theorem comes_down {R : Rf} (h : R.down = true) (f a : Int) (s : List UInt8) : R.comes f a s = R := by unfold Rf.comes; rw [if_pos (.inl h)]
theorem strike0 {D : Dk} (h : D.calls = 0) : D.strike = (false, D) := by unfold Dk.strike; rw [if_pos h]
theorem strike1 {D : Dk} (h : D.calls = 1) : D.strike = (true, ({ D with calls := 0 } : Dk).crash D.keep) := by unfold Dk.strike; rw [if_neg (by omega), if_pos h]
theorem strike2 {D : Dk} (h : 1 < D.calls) : D.strike = (false, { D with calls := D.calls - 1 }) := by unfold Dk.strike; rw [if_neg (by omega), if_neg (by omega)]
theorem sim_write {D : Dk} {R : Rf} (h : Sim D R) (f a : Int) (s : List UInt8) : ((R.comes f a s).wr f a s).1 = (D.write f a s).1 ∧ Sim (D.write f a s).2 ((R.comes f a s).wr f a s).2 := by
  unfold Dk.write
  cases hd : D.down with
  | true =>
    have hr := h.down.trans hd
    rw [comes_down hr]
    unfold Rf.wr
    rw [may_down hr]
    exact ⟨rfl, h⟩
  | false =>
    simp only [Bool.false_eq_true, if_false]
    obtain ⟨k1, k2, k3⟩ := wr_keeps D f a s
    rcases sim_strike h hd f a s with ⟨h0, hs⟩ | ⟨h1, hs⟩ | ⟨h1, hs⟩
    · rw [hs, strike0 (k1.trans h0)]; exact sim_wr h hd f a s
    · have hdn : (R.comes f a s).down = true := by rw [hs.down]; exact crash_down_true _ _
      rw [← k2] at hs
      rw [strike1 (k1.trans h1)]
      unfold Rf.wr
      rw [may_down hdn]
      exact ⟨rfl, hs⟩
    · have hw := sim_wr hs hd f a s
      rw [wr_setcalls] at hw
      rw [strike2 (by omega), k1]
      exact hw
theorem sim_sync {D : Dk} {R : Rf} (h : Sim D R) (hg : Good D) (f : Int) : ((R.comes 0 0 []).sy f).1 = (D.sync f).1 ∧ Sim (D.sync f).2 ((R.comes 0 0 []).sy f).2 := by
  unfold Dk.sync
  cases hd : D.down with
  | true =>
    have hr := h.down.trans hd
    rw [comes_down hr]
    unfold Rf.sy
    rw [may_down hr]
    exact ⟨rfl, h⟩
  | false =>
    simp only [Bool.false_eq_true, if_false]
    obtain ⟨h1, h2⟩ := sim_comes h hd
    have hg2 := good_strike hg
    generalize R.comes 0 0 [] = R1 at h1 h2 ⊢
    generalize D.strike = S at h1 h2 hg2 ⊢
    by_cases hs : S.1 = true
    · rw [if_pos hs]
      unfold Rf.sy
      rw [may_down (h1.1 hs)]
      exact ⟨rfl, h2⟩
    · have hdn : S.2.down = false := by
        cases h9 : S.2.down with
        | false => rfl
        | true => exact absurd (h1.2 (h2.down.trans h9)) hs
      rw [if_neg hs]
      unfold Rf.sy
      rw [sim_may h2, hdn]
      simp only [Bool.false_eq_true, if_false]
      by_cases hf : isFile f = false
      · rw [if_pos hf, if_pos hf, if_pos (by decide)]; exact ⟨rfl, h2⟩
      · have hff : 0 ≤ f ∧ f < 16 := by simpa [isFile] using hf
        rw [if_neg hf, if_neg hf, if_neg (by decide), h2.lost]
        by_cases hl : 0 < S.2.lost
        · rw [if_pos hl, if_pos hl]
          exact ⟨rfl, h2.now, h2.dur, h2.queue, rfl, h2.down.trans hdn, h2.armed, h2.keep⟩
        · rw [if_neg hl, if_neg hl]
          have := sim_settle h2 hg2 (f := f.toNat) (by omega)
          rw [show ((f.toNat : Nat) : Int) = f by omega] at this
          exact ⟨rfl, this⟩
theorem sim_truncate {D : Dk} {R : Rf} (h : Sim D R) (hg : Good D) (f n : Int) : ((R.comes 0 0 []).tr f n).1 = (D.truncate f n).1 ∧ Sim (D.truncate f n).2 ((R.comes 0 0 []).tr f n).2 := by
  unfold Dk.truncate
  cases hd : D.down with
  | true =>
    have hr := h.down.trans hd
    rw [comes_down hr]
    unfold Rf.tr
    rw [may_down hr]
    exact ⟨rfl, h⟩
  | false =>
    simp only [Bool.false_eq_true, if_false]
    obtain ⟨h1, h2⟩ := sim_comes h hd
    have hg2 := good_strike hg
    generalize R.comes 0 0 [] = R1 at h1 h2 ⊢
    generalize D.strike = S at h1 h2 hg2 ⊢
    by_cases hs : S.1 = true
    · rw [if_pos hs]
      unfold Rf.tr
      rw [may_down (h1.1 hs)]
      exact ⟨rfl, h2⟩
    · have hdn : S.2.down = false := by
        cases h9 : S.2.down with
        | false => rfl
        | true => exact absurd (h1.2 (h2.down.trans h9)) hs
      rw [if_neg hs]
      unfold Rf.tr
      rw [sim_may h2, hdn]
      simp only [Bool.false_eq_true, if_false]
      by_cases hf : isFile f = false
      · rw [if_pos hf, if_pos (show isFile f = false ∨ n < 0 ∨ (S.2.size f : Int) < n from .inl hf), if_pos (by decide)]; exact ⟨rfl, h2⟩
      · have hff : 0 ≤ f ∧ f < 16 := by simpa [isFile] using hf
        have hz : S.2.size f = (R1.now f).length := by
          unfold Dk.size
          rw [if_pos (by simpa using hf), ← h2.now f.toNat (by omega), show ((f.toNat : Nat) : Int) = f by omega]
        rw [if_neg hf, if_neg (by decide), hz]
        by_cases hb : n < 0 ∨ ((R1.now f).length : Int) < n
        · rw [if_pos hb, if_pos (.inr hb)]; exact ⟨rfl, h2⟩
        · rw [if_neg hb, if_neg (by simp only [not_or] at hb ⊢; exact ⟨hf, hb⟩)]
          exact ⟨rfl, sim_trunc h2 hg2 hff n.toNat⟩
theorem sim_act {D : Dk} {R : Rf} (h : Sim D R) (hg : Good D) (x : Act1) : (R.act x).1 = (Dk.act D x).1 ∧ Sim (Dk.act D x).2 (R.act x).2 := by
  unfold Dk.act Rf.act
  split
  · exact sim_sync h hg _
  · split
    · exact sim_truncate h hg _ _
    · split
      · exact ⟨rfl, h.now, h.dur, h.queue, rfl, h.down, h.armed, h.keep⟩
      · split
        · exact ⟨rfl, h.now, h.dur, h.queue, h.lost, h.down, rfl, fun _ => rfl⟩
        · split
          · exact ⟨rfl, sim_crash h _⟩
          · split
            · exact ⟨rfl, h.now, h.dur, h.queue, h.lost, rfl, h.armed, h.keep⟩
            · exact sim_write h _ _ _
theorem sim_size {D : Dk} {R : Rf} (h : Sim D R) (hok : R.Ok) (f : Int) : R.size f = D.size f := by
  unfold Rf.size Dk.size
  by_cases hf : isFile f = true
  · have hff : 0 ≤ f ∧ f < 16 := by simpa [isFile] using hf
    rw [if_pos hf, ← h.now f.toNat (by omega), show ((f.toNat : Nat) : Int) = f by omega]
  · rw [if_neg hf]
    have : R.look f = none := by
      unfold Rf.look
      rw [List.find?_eq_none]
      intro x hx he
      have := (hok.file x hx).1
      simp only [decide_eq_true_eq] at he
      simp only [isFile, decide_eq_true_eq] at hf
      omega
    unfold Rf.now
    rw [this]; rfl
theorem sim_read {D : Dk} {R : Rf} (h : Sim D R) (f a n : Int) : R.read f a n = D.read f a n := by
  unfold Rf.read Dk.read
  rw [sim_may h]
  cases hd : D.down with
  | true => rfl
  | false =>
    simp only [Bool.false_eq_true, if_false]
    by_cases hf : isFile f = false
    · rw [if_pos hf, if_pos (by decide), if_pos (.inl hf)]; rfl
    · have hff : 0 ≤ f ∧ f < 16 := by simpa [isFile] using hf
      rw [if_neg hf, if_neg (by decide), ← h.now f.toNat (by omega), show ((f.toNat : Nat) : Int) = f by omega]
      by_cases hb : a < 0 ∨ n < 0
      · rw [if_pos hb, if_pos (.inr hb)]; rfl
      · rw [if_neg hb, if_neg (by simp only [not_or] at hb ⊢; exact ⟨hf, hb⟩)]; rfl
end Go.Proofs.YtjbcgahdiolhhaaGreatDoor.D2
namespace Go.Proofs.YtjbcgahdiolhhaaGreatDoor.D2
open Go
section
variable {P : Program} {ops : Array Oper} {Q : Exit → Act → World → Prop} {md : Region.Mode} {S : World → Prop} {c : Nat}
/-- Take number i, which yields in whatever world, once c has come up. -/
theorem till_late (i : Nat) {v : Value} {n : Nat} {t : Array Bool} {a : Act} {w : World} (hsel : Region.noSelect ops = true) (hic : (i == c) = false)
    (hf : Region.free md ops t i = true) (hr : (Region.ready md ops t).contains i = true) (hQ : ∀ p a w, Q (.panic p) (a.put (dstOf ops i) v) w → Q (.panic p) a w) (hct : t.getD c false = true)
    (hw : (ops[i]?).elim False fun oi => Region.wanted oi (yielded ops a.tmps) = true)
    (hy : (ops[i]?).elim False fun oi => ∀ w, (execOp a.eval oi).run P w = .ok (.value v) w)
    (h : Till P md ops Q c S n (t.setIfInBounds i true) (a.put (dstOf ops i) v) w) : Till P md ops Q c S (n + 1) t a w := by
  intro hs
  cases hi : ops[i]? with
  | none => rw [hi] at hw; exact hw.elim
  | some oi =>
    rw [hi] at hw hy
    simp only [Option.elim] at hw hy
    have hr' : i ∈ Region.ready md ops t := by simpa using hr
    have hd : dstOf ops i = oi.dst := by unfold dstOf; rw [hi]; rfl
    rw [hd] at h hQ
    refine till_first (b := false) (f := 0) hi hsel (fun hbt => by cases hbt) (by simpa using hic) hQ n t a w hs (Region.free_spec hi hf) hr' (.inl ⟨hw, fun w _ => hy w⟩) (fun h0 => by rw [hct] at h0; cases h0) (h (shut_set hs hr'))
/-- One alone may come up, before c: S is shown anew. -/
theorem till_before (i : Nat) {n : Nat} {t : Array Bool} {a : Act} {w : World} (hr : Region.ready md ops t = [i])
    (h : ∀ K : Act → World → Prop, HeldK (∀ a' w', S w' → Till P md ops Q c S n (t.setIfInBounds i true) a' w' → K a' w') →
      (ops[i]?).elim False fun o => if Region.wanted o (yielded ops a.tmps) = true then Oper.wp P o a w K Q else K (a.put o.dst undef) w) : Till P md ops Q c S (n + 1) t a w := by
  intro hs
  refine ⟨fun h0 => (by rw [hr] at h0; cases h0), fun j hj => ?_⟩
  have hj' : j ∈ Region.ready md ops t := hj
  rw [hr] at hj
  have hji : j = i := by simpa using hj
  subst hji
  have h1 := h _ (fun a' w' hS h2 => (⟨fun _ => hS, h2 (shut_set hs hj')⟩ : ((t.setIfInBounds j true).getD c false = false → S w') ∧ anyTill P md ops Q c S n (t.setIfInBounds j true) a' w'))
  unfold wpOp
  cases ho : ops[j]? with
  | none => rw [ho] at h1; exact h1.elim
  | some o =>
    rw [ho] at h1
    simp only [Option.elim] at h1 ⊢
    split
    · rename_i hw; rw [if_pos hw] at h1; exact .inl h1
    · rename_i hw; rw [if_neg hw] at h1; exact h1
end
end Go.Proofs.YtjbcgahdiolhhaaGreatDoor.D2
namespace Go.Proofs.YtjbcgahdiolhhaaGreatDoor.D2
open Go
section
variable {P : Program} {ops : Array Oper} {Q : Exit → Act → World → Prop} {md : Region.Mode} {S : World → Prop} {c : Nat}
/-- Two may come up, before c: S is shown anew behind each. -/
theorem till_split (i j : Nat) {n : Nat} {t : Array Bool} {a : Act} {w : World} (hr : Region.ready md ops t = [i, j])
    (h1 : ∀ K : Act → World → Prop, HeldK (∀ a' w', S w' → Till P md ops Q c S n (t.setIfInBounds i true) a' w' → K a' w') →
      (ops[i]?).elim False fun o => if Region.wanted o (yielded ops a.tmps) = true then Oper.wp P o a w K Q else K (a.put o.dst undef) w)
    (h2 : ∀ K : Act → World → Prop, HeldK (∀ a' w', S w' → Till P md ops Q c S n (t.setIfInBounds j true) a' w' → K a' w') →
      (ops[j]?).elim False fun o => if Region.wanted o (yielded ops a.tmps) = true then Oper.wp P o a w K Q else K (a.put o.dst undef) w) : Till P md ops Q c S (n + 1) t a w := by
  intro hs
  refine ⟨fun h0 => (by rw [hr] at h0; cases h0), fun k hk => ?_⟩
  have hk' : k ∈ Region.ready md ops t := hk
  have key : (∀ K : Act → World → Prop, HeldK (∀ a' w', S w' → Till P md ops Q c S n (t.setIfInBounds k true) a' w' → K a' w') →
      (ops[k]?).elim False fun o => if Region.wanted o (yielded ops a.tmps) = true then Oper.wp P o a w K Q else K (a.put o.dst undef) w) := by
    rw [hr] at hk
    rcases List.mem_cons.1 hk with rfl | hk
    · exact h1
    · obtain rfl := List.mem_singleton.1 hk
      exact h2
  have h3 := key _ (fun a' w' hS h4 => (⟨fun _ => hS, h4 (shut_set hs hk')⟩ : ((t.setIfInBounds k true).getD c false = false → S w') ∧ anyTill P md ops Q c S n (t.setIfInBounds k true) a' w'))
  unfold wpOp
  cases ho : ops[k]? with
  | none => rw [ho] at h3; exact h3.elim
  | some o =>
    rw [ho] at h3
    simp only [Option.elim] at h3 ⊢
    split
    · rename_i hw; rw [if_pos hw] at h3; exact .inl h3
    · rename_i hw; rw [if_neg hw] at h3; exact h3
end
end Go.Proofs.YtjbcgahdiolhhaaGreatDoor.D2
