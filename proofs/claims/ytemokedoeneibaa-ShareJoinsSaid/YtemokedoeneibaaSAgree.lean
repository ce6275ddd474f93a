/- The program's agree. -/
import Derived.Test.YtemokedoeneibaaSCheck
import Derived.Test.YtemokedoeneibaaOrd4
namespace Go.Proofs.Ytemokedoeneibaa
open Go.RowKit Go.Maps Go.ChangeMaps Go.MapKept
open Sp
attribute [local go_sem ↓] Go.wp_at_zero Go.wp_at_succ

open Classical in
noncomputable def fitB (l : List Pt) (k : Nat) : Bool := decide (Fit l k)
/-- Places that differ, values of the field. -/
structure Good (l : List Pt) : Prop where
  nd : (l.map (·.1)).Nodup
  rg : ∀ q ∈ l, (0 ≤ q.1 ∧ q.1 ≤ 20) ∧ 0 ≤ q.2 ∧ q.2 < P
theorem Good.diff {l : List Pt} (h : Good l) : Diff (l.map (·.1)) := diff_of h.nd fun y hy => by obtain ⟨q, hq, rfl⟩ := List.mem_map.1 hy; exact (h.rg q hq).1
theorem Good.take {l : List Pt} (h : Good l) (k : Nat) : Good (l.take k) := by
  refine ⟨?_, fun q hq => h.rg q (List.mem_of_mem_take hq)⟩
  rw [List.map_take]
  exact (List.take_sublist _ _).nodup h.nd
theorem Good.of {l : List Pt} {k : Int} (h : wrong l k = 0) : Good l := by
  obtain ⟨_, _, h3, h4⟩ := wrong_ok h
  exact ⟨h4, fun q hq => by have := h3 q hq; omega⟩
theorem Good.zero {l : List Pt} {k s : Int} (h : wrong l k = 0) (hs : 0 ≤ s ∧ s < P) : Good ((0, s) :: l) := by
  obtain ⟨_, _, h3, h4⟩ := wrong_ok h
  refine ⟨?_, fun q hq => ?_⟩
  · rw [List.map_cons]
    refine List.nodup_cons.2 ⟨fun hm => ?_, h4⟩
    obtain ⟨q, hq, he⟩ := List.mem_map.1 hm
    have := h3 q hq
    simp only at he
    omega
  · rcases List.mem_cons.1 hq with rfl | hq
    · exact ⟨⟨Int.le_refl 0, (by decide : (0 : Int) ≤ 20)⟩, hs⟩
    · have := h3 q hq; omega
open Classical in
theorem fitB_few {l : List Pt} {k : Nat} (h : Good l) (hl : l.length ≤ k) : fitB l k = true := decide_eq_true (fit_few h.diff hl)
open Classical in
theorem fitB_yes {l : List Pt} {k : Nat} (h : Good l) (hk : k ≤ l.length) (ha : ∀ j q, k ≤ j → l[j]? = some q → lag (l.take k) q.1 = q.2) : fitB l k = true :=
  decide_eq_true ((fit_iff h.diff hk).2 fun j q h1 h2 => by rw [ha j q h1 h2, mod_small (h.rg q (List.mem_of_getElem? h2)).2])
open Classical in
theorem fitB_no {l : List Pt} {k j : Nat} {q : Pt} (h : Good l) (hk : k ≤ l.length) (hj : k ≤ j) (hq : l[j]? = some q) (ha : lag (l.take k) q.1 ≠ q.2) : fitB l k = false :=
  decide_eq_false fun hf => ha (by rw [(fit_iff h.diff hk).1 hf j q hj hq, mod_small (h.rg q (List.mem_of_getElem? hq)).2])
section
variable {w : World}
set_option maxHeartbeats 1000000 in
set_option maxRecDepth 100000 in
theorem g_agree {v : Value} {l : List Pt} {k : Nat} (hv : SharesAt w v l) (hg : Good l) (hk1 : 1 ≤ k) (hk2 : k ≤ 20) (hn : l.length ≤ 100) :
    Calls Try.prog 23 #[v, .int .i64 (k : Int)] w fun e w' => e = .returned (.bool (fitB l k)) ∧ Below w.heap.size w w' := by
  have HV := Lib.hid hv
  have HG := Lib.hid hg
  clear hg
  by_cases hle : l.length ≤ k
  · have HR := Lib.hid (fitB_few HG.out hle)
    obtain ⟨a, cap, rfl, _⟩ := hv
    go_enter Try.func23, Try.ntmps23
    go_wp2
    go_ret
    exact ⟨ret_bool HR.out.symm, Below.refl _ _⟩
  · obtain ⟨b, off, cap, rfl, hcap, _⟩ := hv.form (by omega)
    have hlen : ¬ (l.length : Int) ≤ (k : Int) := by omega
    go_enter Try.func23, Try.ntmps23
    go_wp2
    go_loopw [15] (fun i wr => ∃ (m : Nat), k + m ≤ l.length ∧ i = .int .i64 (m : Int) ∧ Hid (∀ j q, k ≤ j → j < k + m → l[j]? = some q → lag (l.take k) q.1 = q.2) ∧ Below w.heap.size w wr) (fun i _ => l.length - (intOf i).toNat)
    case atStart => exact ⟨0, by omega, rfl, Lib.hid fun j q h1 h2 => by omega, Below.refl _ _⟩
    case round =>
      obtain ⟨m, hm, rfl, HA, hb⟩ := hrel
      have HB := Lib.hid hb
      by_cases hlt : k + m < l.length
      · obtain ⟨q, hq⟩ : ∃ q, l[k + m]? = some q := ⟨_, List.getElem?_eq_getElem hlt⟩
        obtain ⟨c0, c1⟩ := ((HV.out.keep hb).drop (k := k) (by omega)).at_ (k := m) (p := q) (by rw [List.getElem?_drop]; exact hq)
        have hbn := (Below.refl wr.heap.size wr).alloc (Nat.le_refl _) (.cells #[.int .i64 q.1, .int .i64 q.2] 39)
        have ht := ((HV.out.keep hb).keep hbn).take (k := k) (by omega)
        have hqr := HG.out.rg q (List.mem_of_getElem? hq)
        have HQ := Lib.hid hq
        have HT := Lib.hid (fun w' (hw : Below (wr.alloc (.cells #[.int .i64 q.1, .int .i64 q.2] 39)).heap.size (wr.alloc (.cells #[.int .i64 q.1, .int .i64 q.2] 39)) w') => g_through (ht.keep hw) (HG.out.take k).rg (HG.out.take k).nd hqr.1 (by rw [List.length_take]; omega))
        clear hq hb ht
        have hkc : k ≤ cap := by omega
        have hlt2 : m < l.length - k := by omega
        go_wp2
        have b1 := HB.out.trans (hbn.mono HB.out.size)
        have s0 : (wr.alloc (.cells #[.int .i64 q.1, .int .i64 q.2] 39)).cell? ⟨wr.heap.size, 0, none⟩ = some (.int .i64 q.1) := by rw [Lib.cell_of_heap (MapKept.heap_alloc _ _).1]; rfl
        have s1 : (wr.alloc (.cells #[.int .i64 q.1, .int .i64 q.2] 39)).cell? ⟨wr.heap.size, 1, none⟩ = some (.int .i64 q.2) := by rw [Lib.cell_of_heap (MapKept.heap_alloc _ _).1]; rfl
        generalize wr.alloc (.cells #[.int .i64 q.1, .int .i64 q.2] 39) = w1 at *
        clear hbn
        generalize wr.heap.size = B at *
        have SS := Lib.hid (fun wx (hx : Below w1.heap.size w1 wx) => (⟨below_cell s0 hx, below_cell s1 hx⟩ : wx.cell? ⟨B, 0, none⟩ = some (.int .i64 q.1) ∧ wx.cell? ⟨B, 1, none⟩ = some (.int .i64 q.2)))
        have S0 := SS.out _ (below_drew w1)
        have B1 := Lib.hid b1
        clear s0 s1 b1 c0 c1
        refine region_till 8 (fun wx => wx.cell? ⟨B, 0, none⟩ = some (.int .i64 q.1) ∧ wx.cell? ⟨B, 1, none⟩ = some (.int .i64 q.2)) (by kernel_rfl) ?_
        refine till_take 0 40 false (v := ?v0) (by kernel_rfl) (by kernel_rfl) (by kernel_rfl) (by kernel_rfl) (by kernel_rfl) (fun _ _ _ h => h) ?hw0 S0 ?hy0 ?rest0
        case hw0 => (simp only [List.getElem?_toArray, List.getElem?_cons_zero, Option.elim]; rfl)
        case hy0 => (simp only [List.getElem?_toArray, List.getElem?_cons_zero, Option.elim]; intro wx _; go_simp; with_reducible rfl)
        simp only [dstOf, List.getElem?_toArray, List.getElem?_cons_zero, Option.bind, Act.put, List.setIfInBounds_toArray, List.set_cons_zero, List.set_cons_succ]
        refine till_take 1 40 false (v := ?v1) (by kernel_rfl) (by kernel_rfl) (by kernel_rfl) (by kernel_rfl) (by kernel_rfl) (fun _ _ _ h => h) ?hw1 S0 ?hy1 ?rest1
        case hw1 => (simp only [List.getElem?_toArray, List.getElem?_cons_zero, List.getElem?_cons_succ, Option.elim]; rfl)
        case hy1 => (simp only [List.getElem?_toArray, List.getElem?_cons_zero, List.getElem?_cons_succ, Option.elim]; intro wx _; go_simp; with_reducible rfl)
        simp only [dstOf, List.getElem?_toArray, List.getElem?_cons_zero, List.getElem?_cons_succ, Option.bind, Act.put, List.setIfInBounds_toArray, List.set_cons_zero, List.set_cons_succ]
        refine till_take 2 40 false (v := ?v2) (by kernel_rfl) (by kernel_rfl) (by kernel_rfl) (by kernel_rfl) (by kernel_rfl) (fun _ _ _ h => h) ?hw2 S0 ?hy2 ?rest2
        case hw2 => (simp only [List.getElem?_toArray, List.getElem?_cons_zero, List.getElem?_cons_succ, Option.elim]; rfl)
        case hy2 => (simp only [List.getElem?_toArray, List.getElem?_cons_zero, List.getElem?_cons_succ, Option.elim]; intro wx _; go_simp; with_reducible rfl)
        simp only [dstOf, List.getElem?_toArray, List.getElem?_cons_zero, List.getElem?_cons_succ, Option.bind, Act.put, List.setIfInBounds_toArray, List.set_cons_zero, List.set_cons_succ]
        refine till_take 3 40 false (v := ?v3) (by kernel_rfl) (by kernel_rfl) (by kernel_rfl) (by kernel_rfl) (by kernel_rfl) (fun _ _ _ h => h) ?hw3 S0 ?hy3 ?rest3
        case hw3 => (simp only [List.getElem?_toArray, List.getElem?_cons_zero, List.getElem?_cons_succ, Option.elim]; rfl)
        case hy3 => (simp only [List.getElem?_toArray, List.getElem?_cons_zero, List.getElem?_cons_succ, Option.elim]; intro wx _; go_simp; with_reducible rfl)
        simp only [dstOf, List.getElem?_toArray, List.getElem?_cons_zero, List.getElem?_cons_succ, Option.bind, Act.put, List.setIfInBounds_toArray, List.set_cons_zero, List.set_cons_succ]
        refine till_take 4 40 true (v := ?v4) (by kernel_rfl) (by kernel_rfl) (by kernel_rfl) (by kernel_rfl) (by kernel_rfl) (fun _ _ _ h => h) ?hw4 S0 ?hy4 ?rest4
        case hw4 => (simp only [List.getElem?_toArray, List.getElem?_cons_zero, List.getElem?_cons_succ, Option.elim]; rfl)
        case hy4 => (simp only [List.getElem?_toArray, List.getElem?_cons_zero, List.getElem?_cons_succ, Option.elim]; intro wx hx; have x0 := (hx trivial).1; have x1 := (hx trivial).2; go_simp; with_reducible rfl)
        simp only [dstOf, List.getElem?_toArray, List.getElem?_cons_zero, List.getElem?_cons_succ, Option.bind, Act.put, List.setIfInBounds_toArray, List.set_cons_zero, List.set_cons_succ]
        refine till_take 6 40 false (v := ?v6) (by kernel_rfl) (by kernel_rfl) (by kernel_rfl) (by kernel_rfl) (by kernel_rfl) (fun _ _ _ h => h) ?hw6 S0 ?hy6 ?rest6
        case hw6 => (simp only [List.getElem?_toArray, List.getElem?_cons_zero, List.getElem?_cons_succ, Option.elim]; rfl)
        case hy6 => (simp only [List.getElem?_toArray, List.getElem?_cons_zero, List.getElem?_cons_succ, Option.elim]; intro wx _; go_simp; with_reducible rfl)
        simp only [dstOf, List.getElem?_toArray, List.getElem?_cons_zero, List.getElem?_cons_succ, Option.bind, Act.put, List.setIfInBounds_toArray, List.set_cons_zero, List.set_cons_succ]
        refine till_take 7 40 true (v := ?v7) (by kernel_rfl) (by kernel_rfl) (by kernel_rfl) (by kernel_rfl) (by kernel_rfl) (fun _ _ _ h => h) ?hw7 S0 ?hy7 ?rest7
        case hw7 => (simp only [List.getElem?_toArray, List.getElem?_cons_zero, List.getElem?_cons_succ, Option.elim]; rfl)
        case hy7 => (simp only [List.getElem?_toArray, List.getElem?_cons_zero, List.getElem?_cons_succ, Option.elim]; intro wx hx; have x0 := (hx trivial).1; have x1 := (hx trivial).2; go_simp; with_reducible rfl)
        simp only [dstOf, List.getElem?_toArray, List.getElem?_cons_zero, List.getElem?_cons_succ, Option.bind, Act.put, List.setIfInBounds_toArray, List.set_cons_zero, List.set_cons_succ]
        refine till_before 5 (by kernel_rfl) (fun K hK => ?_)
        simp only [List.getElem?_toArray, List.getElem?_cons_zero, List.getElem?_cons_succ, Option.elim]
        rw [if_pos (by rfl)]
        go_simp
        go_at_call 24
        refine (HT.out _ (below_drew w1)).mono ?_
        rintro e w2 ⟨rfl, m2⟩
        refine hK.out _ _ (SS.out _ ((below_drew w1).trans m2)) ?_
        clear hK K
        try simp only [Act.put, List.setIfInBounds_toArray, List.set_cons_zero, List.set_cons_succ]
        have M2 := Lib.hid (B1.out.trans (((below_drew w1).trans m2).mono B1.out.size))
        clear m2 S0
        refine till_step 8 (by kernel_rfl) (by kernel_rfl) (fun K hK => ?_)
        simp only [List.getElem?_toArray, List.getElem?_cons_zero, List.getElem?_cons_succ, Option.elim]
        rw [if_pos (by rfl)]
        go_simp
        refine hK.out _ _ ?_
        clear hK K
        try simp only [Act.put, List.setIfInBounds_toArray, List.set_cons_zero, List.set_cons_succ]
        refine till_end (by kernel_rfl) ?_ _
        by_cases he : lag (l.take k) q.1 = q.2
        · have HN := Lib.hid (fun (j : Nat) (r : Pt) (h1 : k ≤ j) (h2 : j < k + (m + 1)) (h3 : l[j]? = some r) => (by
            by_cases hj : j < k + m
            · exact HA.out j r h1 hj h3
            · obtain rfl : j = k + m := by omega
              have := HQ.out.symm.trans h3
              cases this
              exact he : lag (l.take k) r.1 = r.2))
          go_wp2
          go_roundw
          case rel => exact ⟨m + 1, by omega, by go_num, HN, M2.out⟩
          case measure => simp [intOf]; omega
        · have HR := Lib.hid (fitB_no HG.out (by omega) (by omega) HQ.out he)
          go_wp2
          go_ret
          exact ⟨ret_bool HR.out.symm, M2.out⟩
      · obtain rfl : m = l.length - k := by omega
        have HR := Lib.hid (fitB_yes HG.out (k := k) (by omega) fun j q h1 h2 => HA.out j q h1 (by have := (List.getElem?_eq_some_iff.1 h2).1; omega) h2)
        go_wp2
        go_ret
        exact ⟨ret_bool HR.out.symm, HB.out⟩
/-! ### Join, Fits -/
open Classical in
noncomputable def fitsB (l : List Pt) (k s : Int) : Bool := decide (Fits l k s)
theorem join_wrong {l : List Pt} {k : Int} (h : wrong l k ≠ 0) : join l k = (0, wrong l k) := by unfold join; rw [if_pos h]
open Classical in
theorem join_bad {l : List Pt} {k : Int} (hw : wrong l k = 0) (hl : k ≤ (l.length : Int)) (h : fitB l k.toNat = false) : join l k = (0, 18) := join_check hw hl (of_decide_eq_false h)
open Classical in
theorem join_good {l : List Pt} {k : Int} (hw : wrong l k = 0) (hl : k ≤ (l.length : Int)) (h : fitB l k.toNat = true) : join l k = (lag (l.take k.toNat) 0, 0) := join_lag hw hl (of_decide_eq_true h)
open Classical in
theorem fitsB_wrong {l : List Pt} {k s : Int} (h : wrong l k ≠ 0) : fitsB l k s = false := decide_eq_false fun q => h q.1
open Classical in
theorem fitsB_sec {l : List Pt} {k s : Int} (h : inF s = false) : fitsB l k s = false := decide_eq_false fun q => of_decide_eq_false h ⟨q.2.1, q.2.2.1⟩
open Classical in
theorem fitsB_eq {l : List Pt} {k s : Int} (h : wrong l k = 0) (hs : inF s = true) : fitsB l k s = fitB ((0, s) :: l) k.toNat := by
  have hs := of_decide_eq_true hs
  unfold fitsB fitB
  rw [decide_eq_decide]
  exact ⟨fun q => q.2.2.2, fun q => ⟨h, hs.1, hs.2, q⟩⟩
set_option maxHeartbeats 1000000 in
set_option maxRecDepth 100000 in
theorem g_join {v : Value} {l : List Pt} {k : Int} (hv : SharesAt w v l) (hn : l.length ≤ 100) :
    Calls Try.prog 10 #[v, .int .i64 k] w fun e w' => e = .returned (.tuple #[.int .i64 (join l k).1, .int .i64 (join l k).2]) ∧ Below w.heap.size w w' := by
  have HC := Lib.hid (g_check (k := k) hv (by omega))
  by_cases hw : wrong l k = 0
  · rw [hw] at HC
    have hk := wrong_ok hw
    obtain ⟨k, rfl⟩ : ∃ n : Nat, k = (n : Int) := ⟨k.toNat, by omega⟩
    have HK := Lib.hid hk
    have hk1 : 1 ≤ k := by omega
    have hk2 : k ≤ 20 := by omega
    by_cases hlt : l.length < k
    · have HR := Lib.hid (join_few hw (by omega))
      obtain ⟨a, cap, rfl, _⟩ := hv
      clear hk hw
      go_enter Try.func10, Try.ntmps10
      go_wp2_with (go_at_call 22; refine (HC.out).mono ?_; rintro e w1 ⟨rfl, m1⟩; refine Hid.out ?_)
      refine Lib.hid ?_
      have M1 := Lib.hid m1
      go_wp2
      go_ret2
      rw [HR.out]
      exact ⟨rfl, M1.out⟩
    · have hkl : k ≤ l.length := by omega
      obtain ⟨b, off, cap, rfl, hcap, _⟩ := hv.form (by omega)
      have HV := Lib.hid hv
      have HA := fun w1 (h1 : Below w.heap.size w w1) => g_agree (k := k) (hv.keep h1) (Good.of hw) hk1 hk2 hn
      have hkc : k ≤ cap := by omega
      cases hf : fitB l k with
      | false =>
        have HR := Lib.hid (join_bad hw (by omega) (show fitB l ((k : Int).toNat) = false from hf))
        rw [hf] at HA
        have HA := Lib.hid HA
        clear hw hk hf
        go_enter Try.func10, Try.ntmps10
        go_wp2_with (go_at_call 22; refine (HC.out).mono ?_; rintro e w1 ⟨rfl, m1⟩; refine Hid.out ?_)
        refine Lib.hid ?_
        have M1 := Lib.hid m1
        clear m1 HC
        go_wp2_with (go_at_call 23; refine (HA.out _ M1.out).mono ?_; rintro e w2 ⟨rfl, m2⟩; refine Hid.out ?_)
        refine Lib.hid ?_
        have M2 := Lib.hid (M1.out.trans (m2.mono M1.out.size))
        clear m2 HA
        go_wp2
        go_ret2
        rw [HR.out]
        exact ⟨rfl, M2.out⟩
      | true =>
        have HR := Lib.hid (join_good hw (by omega) (show fitB l ((k : Int).toNat) = true from hf))
        rw [hf] at HA
        have HA := Lib.hid HA
        have HG := Lib.hid ((Good.of hw).take k)
        clear hw hk hf
        go_enter Try.func10, Try.ntmps10
        go_wp2_with (go_at_call 22; refine (HC.out).mono ?_; rintro e w1 ⟨rfl, m1⟩; refine Hid.out ?_)
        refine Lib.hid ?_
        have M1 := Lib.hid m1
        clear m1 HC
        go_wp2_with (go_at_call 23; refine (HA.out _ M1.out).mono ?_; rintro e w2 ⟨rfl, m2⟩; refine Hid.out ?_)
        refine Lib.hid ?_
        have M2 := Lib.hid (M1.out.trans (m2.mono M1.out.size))
        clear m2 HA
        have HT := Lib.hid (g_through (x := 0) ((HV.out.keep M2.out).take hkl) HG.out.rg HG.out.nd (by decide) (by rw [List.length_take]; omega))
        go_wp2_with (go_at_call 24; refine (HT.out).mono ?_; rintro e w3 ⟨rfl, m3⟩; refine Hid.out ?_)
        refine Lib.hid ?_
        have M3 := Lib.hid (M2.out.trans (m3.mono M2.out.size))
        clear m3
        go_wp2
        go_ret2
        rw [HR.out]
        exact ⟨rfl, M3.out⟩
  · have HR := Lib.hid (join_wrong hw)
    have HW := Lib.hid hw
    obtain ⟨a, cap, rfl, _⟩ := hv
    have hne : (wrong l k == 0) = false := by simpa using hw
    go_enter Try.func10, Try.ntmps10
    go_wp2_with (go_at_call 22; refine (HC.out).mono ?_; rintro e w1 ⟨rfl, m1⟩; refine Hid.out ?_)
    refine Lib.hid ?_
    have M1 := Lib.hid m1
    go_wp2
    go_ret2
    rw [HR.out]
    exact ⟨rfl, M1.out⟩
end
end Go.Proofs.Ytemokedoeneibaa
