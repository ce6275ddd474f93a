/- The examples of layer 8. -/
import Derived.Test.YtapgcahbccchfaaSApi
namespace Go.Proofs.Ytapgcahbccchfaa
open Go.RowKit Go.Maps Go.ChangeMaps Go.MapKept
open St
attribute [local go_sem ↓] Go.wp_at_zero Go.wp_at_succ

theorem nil_of {w : World} {v : Value} {l : List Cl} (_ : ClAt w v l) : ClAt w (.slice none 0 0) [] := ClAt.nil w
theorem lits_small (w : World) : Below w.heap.size w (((w.alloc (.cells #[.int .i64 0, .int .i64 2, .int .i64 1, .int .i64 3] 40)).alloc (.cells #[.int .i64 0, .int .i64 0, .int .i64 1, .int .i64 2] 40)).alloc (.cells #[.int .i64 0, .int .i64 0, .int .i64 1, .int .i64 1] 40)) ∧
    ClAt (((w.alloc (.cells #[.int .i64 0, .int .i64 2, .int .i64 1, .int .i64 3] 40)).alloc (.cells #[.int .i64 0, .int .i64 0, .int .i64 1, .int .i64 2] 40)).alloc (.cells #[.int .i64 0, .int .i64 0, .int .i64 1, .int .i64 1] 40)) (.slice (some ⟨w.heap.size, 0, none⟩) 2 2) x2 ∧
    ClAt (((w.alloc (.cells #[.int .i64 0, .int .i64 2, .int .i64 1, .int .i64 3] 40)).alloc (.cells #[.int .i64 0, .int .i64 0, .int .i64 1, .int .i64 2] 40)).alloc (.cells #[.int .i64 0, .int .i64 0, .int .i64 1, .int .i64 1] 40)) (.slice (some ⟨w.heap.size + 1, 0, none⟩) 2 2) x1 ∧
    ClAt (((w.alloc (.cells #[.int .i64 0, .int .i64 2, .int .i64 1, .int .i64 3] 40)).alloc (.cells #[.int .i64 0, .int .i64 0, .int .i64 1, .int .i64 2] 40)).alloc (.cells #[.int .i64 0, .int .i64 0, .int .i64 1, .int .i64 1] 40)) (.slice (some ⟨w.heap.size + 1 + 1, 0, none⟩) 2 2) x0 := by
  have a1 := cls_lit w x2 (by decide)
  have b1 := (Below.refl w.heap.size w).alloc (Nat.le_refl _) (.cells (clVs x2).toArray 40)
  have s1 : (w.alloc (.cells (clVs x2).toArray 40)).heap.size = w.heap.size + 1 := by simp
  generalize hw : w.alloc (.cells (clVs x2).toArray 40) = wa at a1 b1 s1
  have a2 := cls_lit wa x1 (by decide)
  have b2 := (Below.refl wa.heap.size wa).alloc (Nat.le_refl _) (.cells (clVs x1).toArray 40)
  have s2 : (wa.alloc (.cells (clVs x1).toArray 40)).heap.size = wa.heap.size + 1 := by simp
  generalize hw2 : wa.alloc (.cells (clVs x1).toArray 40) = wb at a2 b2 s2
  have a3 := cls_lit wb x0 (by decide)
  have b3 := (Below.refl wb.heap.size wb).alloc (Nat.le_refl _) (.cells (clVs x0).toArray 40)
  have b23 := b2.trans (b3.mono b2.size)
  have r1 := a1.keep b23
  have r2 := a2.keep b3
  rw [s2, s1] at a3
  rw [s1] at r2
  subst hw2
  subst hw
  exact ⟨b1.trans (b23.mono b1.size), r1, r2, a3⟩
set_option maxHeartbeats 8000000 in
set_option maxRecDepth 100000 in
theorem small_any (A : SApi) (w : World) : Calls Try.prog 8 #[] w fun e w' => e = .returned (.bool true) ∧ Below w.heap.size w w' := by
  obtain ⟨b0, k2, k1, k0⟩ := lits_small w
  have B := Lib.hid b0
  have K2 := Lib.hid k2
  have K1 := Lib.hid k1
  have K0 := Lib.hid k0
  clear b0 k2 k1 k0
  go_enter Try.func8, Try.ntmps8
  have H := A.solve_fst (nil_of K2.out) (by decide) ⟨by decide, by decide⟩ x_e
  have H := Lib.hid H
  go_wp2_with (go_at_call 17; refine (H.out).mono ?_; rintro e w1 ⟨u1, c1, rfl, hu1, -, bb⟩; refine Hid.out ?_)
  refine Lib.hid ?_
  have K2 := Lib.hid (K2.out.keep bb)
  have K1 := Lib.hid (K1.out.keep bb)
  have K0 := Lib.hid (K0.out.keep bb)
  have B := Lib.hid (B.out.trans (bb.mono B.out.size))
  have U1 := Lib.hid hu1
  clear bb H hu1
  have H := A.solve_fst K2.out (by decide) ⟨by decide, by decide⟩ x_2
  have H := Lib.hid H
  go_wp2_with (go_at_call 17; refine (H.out).mono ?_; rintro e w2 ⟨u2, c2, rfl, hu2, -, bb⟩; refine Hid.out ?_)
  refine Lib.hid ?_
  have K2 := Lib.hid (K2.out.keep bb)
  have K1 := Lib.hid (K1.out.keep bb)
  have K0 := Lib.hid (K0.out.keep bb)
  have U1 := Lib.hid (U1.out.keep bb)
  have B := Lib.hid (B.out.trans (bb.mono B.out.size))
  have U2 := Lib.hid hu2
  clear bb H hu2
  have H := A.solve_fst K1.out (by decide) ⟨by decide, by decide⟩ x_1
  have H := Lib.hid H
  go_wp2_with (go_at_call 17; refine (H.out).mono ?_; rintro e w3 ⟨u3, c3, rfl, hu3, -, bb⟩; refine Hid.out ?_)
  refine Lib.hid ?_
  have K2 := Lib.hid (K2.out.keep bb)
  have K1 := Lib.hid (K1.out.keep bb)
  have K0 := Lib.hid (K0.out.keep bb)
  have U1 := Lib.hid (U1.out.keep bb)
  have U2 := Lib.hid (U2.out.keep bb)
  have B := Lib.hid (B.out.trans (bb.mono B.out.size))
  have U3 := Lib.hid hu3
  clear bb H hu3
  have H := A.solve_none K0.out (by decide) ⟨by decide, by decide⟩ (by decide) x_0
  have H := Lib.hid H
  go_wp2_with (go_at_call 17; refine (H.out).mono ?_; rintro e w4 ⟨u4, c4, cy, rfl, hu4, hc4, bb, hcy⟩; refine Hid.out ?_)
  refine Lib.hid ?_
  have K2 := Lib.hid (K2.out.keep bb)
  have K1 := Lib.hid (K1.out.keep bb)
  have K0 := Lib.hid (K0.out.keep bb)
  have U1 := Lib.hid (U1.out.keep bb)
  have U2 := Lib.hid (U2.out.keep bb)
  have U3 := Lib.hid (U3.out.keep bb)
  have B := Lib.hid (B.out.trans (bb.mono B.out.size))
  have U4 := Lib.hid hu4
  have C4 := Lib.hid hc4
  clear bb H hu4 hc4
  have HCY := Lib.hid hcy
  clear hcy
  have bb := (Below.refl w4.heap.size w4).alloc (Nat.le_refl _) (.cells #[.int .i64 0, .int .i64 4] 40)
  have K2 := Lib.hid (K2.out.keep bb)
  have K1 := Lib.hid (K1.out.keep bb)
  have K0 := Lib.hid (K0.out.keep bb)
  have U1 := Lib.hid (U1.out.keep bb)
  have U2 := Lib.hid (U2.out.keep bb)
  have U3 := Lib.hid (U3.out.keep bb)
  have U4 := Lib.hid (U4.out.keep bb)
  have C4 := Lib.hid (C4.out.keep bb)
  have B := Lib.hid (B.out.trans (bb.mono B.out.size))
  clear bb
  have H := A.solve_arg (l := [(0, 4)]) (n := 2) (cls_lit w4 [(0, 4)] (by decide)) (by decide) ⟨by decide, by decide⟩ (by decide)
  have H := Lib.hid H
  go_wp2_with (go_at_call 17; refine (H.out).mono ?_; rintro e w5 ⟨u5, c5, rfl, hu5, -, bb⟩; refine Hid.out ?_)
  refine Lib.hid ?_
  have K2 := Lib.hid (K2.out.keep bb)
  have K1 := Lib.hid (K1.out.keep bb)
  have K0 := Lib.hid (K0.out.keep bb)
  have U1 := Lib.hid (U1.out.keep bb)
  have U2 := Lib.hid (U2.out.keep bb)
  have U3 := Lib.hid (U3.out.keep bb)
  have U4 := Lib.hid (U4.out.keep bb)
  have C4 := Lib.hid (C4.out.keep bb)
  have B := Lib.hid (B.out.trans (bb.mono B.out.size))
  clear bb H
  clear hu5
  have H := A.forced_ (n := 2) K2.out (by decide) ⟨by decide, by decide⟩
  unfold Forces at H
  rw [z_2] at H
  have H := Lib.hid H
  go_wp2_with (go_at_call 18; refine (H.out).mono ?_; rintro e w6 ⟨f1, rfl, hf1, bb⟩; refine Hid.out ?_)
  refine Lib.hid ?_
  have K2 := Lib.hid (K2.out.keep bb)
  have K1 := Lib.hid (K1.out.keep bb)
  have K0 := Lib.hid (K0.out.keep bb)
  have U1 := Lib.hid (U1.out.keep bb)
  have U2 := Lib.hid (U2.out.keep bb)
  have U3 := Lib.hid (U3.out.keep bb)
  have U4 := Lib.hid (U4.out.keep bb)
  have C4 := Lib.hid (C4.out.keep bb)
  have B := Lib.hid (B.out.trans (bb.mono B.out.size))
  have F1 := Lib.hid hf1
  clear bb H hf1
  have H := A.forced_ (n := 2) K1.out (by decide) ⟨by decide, by decide⟩
  unfold Forces at H
  rw [z_1] at H
  have H := Lib.hid H
  go_wp2_with (go_at_call 18; refine (H.out).mono ?_; rintro e w7 ⟨f2, rfl, hf2, bb⟩; refine Hid.out ?_)
  refine Lib.hid ?_
  have K2 := Lib.hid (K2.out.keep bb)
  have K1 := Lib.hid (K1.out.keep bb)
  have K0 := Lib.hid (K0.out.keep bb)
  have U1 := Lib.hid (U1.out.keep bb)
  have U2 := Lib.hid (U2.out.keep bb)
  have U3 := Lib.hid (U3.out.keep bb)
  have U4 := Lib.hid (U4.out.keep bb)
  have C4 := Lib.hid (C4.out.keep bb)
  have F1 := Lib.hid (F1.out.keep bb)
  have B := Lib.hid (B.out.trans (bb.mono B.out.size))
  have F2 := Lib.hid hf2
  clear bb H hf2
  obtain ⟨ua4, uc4, rfl⟩ : ∃ a c, u4 = .slice a ([] : List Bool).length c := U4.out.slice
  have bb := (Below.refl w7.heap.size w7).alloc (Nat.le_refl _) (.cells #[.bool false, .bool false] 4)
  have K2 := Lib.hid (K2.out.keep bb)
  have K1 := Lib.hid (K1.out.keep bb)
  have K0 := Lib.hid (K0.out.keep bb)
  have U1 := Lib.hid (U1.out.keep bb)
  have U2 := Lib.hid (U2.out.keep bb)
  have U3 := Lib.hid (U3.out.keep bb)
  have U4 := Lib.hid (U4.out.keep bb)
  have C4 := Lib.hid (C4.out.keep bb)
  have F1 := Lib.hid (F1.out.keep bb)
  have F2 := Lib.hid (F2.out.keep bb)
  have B := Lib.hid (B.out.trans (bb.mono B.out.size))
  clear bb
  have H := q_bools U1.out (bools_lit w7 ([false, false] : List Bool) (by decide)) (by decide)
  rw [show decide (([false, false] : List Bool) = [false, false]) = true from by decide] at H
  have H := Lib.hid H
  go_wp2_with (go_at_call 22; refine (H.out).mono ?_; rintro e w8 ⟨rfl, bb⟩; refine Hid.out ?_)
  refine Lib.hid ?_
  have K2 := Lib.hid (K2.out.keep bb)
  have K1 := Lib.hid (K1.out.keep bb)
  have K0 := Lib.hid (K0.out.keep bb)
  have U1 := Lib.hid (U1.out.keep bb)
  have U2 := Lib.hid (U2.out.keep bb)
  have U3 := Lib.hid (U3.out.keep bb)
  have U4 := Lib.hid (U4.out.keep bb)
  have C4 := Lib.hid (C4.out.keep bb)
  have F1 := Lib.hid (F1.out.keep bb)
  have F2 := Lib.hid (F2.out.keep bb)
  have B := Lib.hid (B.out.trans (bb.mono B.out.size))
  clear bb H
  have bb := (Below.refl w8.heap.size w8).alloc (Nat.le_refl _) (.cells #[.bool false, .bool true] 4)
  have K2 := Lib.hid (K2.out.keep bb)
  have K1 := Lib.hid (K1.out.keep bb)
  have K0 := Lib.hid (K0.out.keep bb)
  have U1 := Lib.hid (U1.out.keep bb)
  have U2 := Lib.hid (U2.out.keep bb)
  have U3 := Lib.hid (U3.out.keep bb)
  have U4 := Lib.hid (U4.out.keep bb)
  have C4 := Lib.hid (C4.out.keep bb)
  have F1 := Lib.hid (F1.out.keep bb)
  have F2 := Lib.hid (F2.out.keep bb)
  have B := Lib.hid (B.out.trans (bb.mono B.out.size))
  clear bb
  have H := q_bools U2.out (bools_lit w8 ([false, true] : List Bool) (by decide)) (by decide)
  rw [show decide (([false, true] : List Bool) = [false, true]) = true from by decide] at H
  have H := Lib.hid H
  go_wp2_with (go_at_call 22; refine (H.out).mono ?_; rintro e w9 ⟨rfl, bb⟩; refine Hid.out ?_)
  refine Lib.hid ?_
  have K2 := Lib.hid (K2.out.keep bb)
  have K1 := Lib.hid (K1.out.keep bb)
  have K0 := Lib.hid (K0.out.keep bb)
  have U1 := Lib.hid (U1.out.keep bb)
  have U2 := Lib.hid (U2.out.keep bb)
  have U3 := Lib.hid (U3.out.keep bb)
  have U4 := Lib.hid (U4.out.keep bb)
  have C4 := Lib.hid (C4.out.keep bb)
  have F1 := Lib.hid (F1.out.keep bb)
  have F2 := Lib.hid (F2.out.keep bb)
  have B := Lib.hid (B.out.trans (bb.mono B.out.size))
  clear bb H
  have bb := (Below.refl w9.heap.size w9).alloc (Nat.le_refl _) (.cells #[.bool true, .bool true] 4)
  have K2 := Lib.hid (K2.out.keep bb)
  have K1 := Lib.hid (K1.out.keep bb)
  have K0 := Lib.hid (K0.out.keep bb)
  have U1 := Lib.hid (U1.out.keep bb)
  have U2 := Lib.hid (U2.out.keep bb)
  have U3 := Lib.hid (U3.out.keep bb)
  have U4 := Lib.hid (U4.out.keep bb)
  have C4 := Lib.hid (C4.out.keep bb)
  have F1 := Lib.hid (F1.out.keep bb)
  have F2 := Lib.hid (F2.out.keep bb)
  have B := Lib.hid (B.out.trans (bb.mono B.out.size))
  clear bb
  have H := q_bools U3.out (bools_lit w9 ([true, true] : List Bool) (by decide)) (by decide)
  rw [show decide (([true, true] : List Bool) = [true, true]) = true from by decide] at H
  have H := Lib.hid H
  go_wp2_with (go_at_call 22; refine (H.out).mono ?_; rintro e w10 ⟨rfl, bb⟩; refine Hid.out ?_)
  refine Lib.hid ?_
  have K2 := Lib.hid (K2.out.keep bb)
  have K1 := Lib.hid (K1.out.keep bb)
  have K0 := Lib.hid (K0.out.keep bb)
  have U1 := Lib.hid (U1.out.keep bb)
  have U2 := Lib.hid (U2.out.keep bb)
  have U3 := Lib.hid (U3.out.keep bb)
  have U4 := Lib.hid (U4.out.keep bb)
  have C4 := Lib.hid (C4.out.keep bb)
  have F1 := Lib.hid (F1.out.keep bb)
  have F2 := Lib.hid (F2.out.keep bb)
  have B := Lib.hid (B.out.trans (bb.mono B.out.size))
  clear bb H
  have H := A.refute_ (n := 1) K0.out (by decide) ⟨by decide, by decide⟩ C4.out (refute_len HCY.out)
  rw [HCY.out] at H
  have H := Lib.hid H
  go_wp2_with (go_at_call 13; refine (H.out).mono ?_; rintro e w11 ⟨rfl, bb⟩; refine Hid.out ?_)
  refine Lib.hid ?_
  have K2 := Lib.hid (K2.out.keep bb)
  have K1 := Lib.hid (K1.out.keep bb)
  have K0 := Lib.hid (K0.out.keep bb)
  have U1 := Lib.hid (U1.out.keep bb)
  have U2 := Lib.hid (U2.out.keep bb)
  have U3 := Lib.hid (U3.out.keep bb)
  have U4 := Lib.hid (U4.out.keep bb)
  have C4 := Lib.hid (C4.out.keep bb)
  have F1 := Lib.hid (F1.out.keep bb)
  have F2 := Lib.hid (F2.out.keep bb)
  have B := Lib.hid (B.out.trans (bb.mono B.out.size))
  clear bb H
  have bb := (Below.refl w11.heap.size w11).alloc (Nat.le_refl _) (.cells #[.int .i64 0, .int .i64 1] 3)
  have K2 := Lib.hid (K2.out.keep bb)
  have K1 := Lib.hid (K1.out.keep bb)
  have K0 := Lib.hid (K0.out.keep bb)
  have U1 := Lib.hid (U1.out.keep bb)
  have U2 := Lib.hid (U2.out.keep bb)
  have U3 := Lib.hid (U3.out.keep bb)
  have U4 := Lib.hid (U4.out.keep bb)
  have C4 := Lib.hid (C4.out.keep bb)
  have F1 := Lib.hid (F1.out.keep bb)
  have F2 := Lib.hid (F2.out.keep bb)
  have B := Lib.hid (B.out.trans (bb.mono B.out.size))
  clear bb
  have H := A.refute_ (n := 1) K0.out (by decide) ⟨by decide, by decide⟩ (nums_lit w11 [0, 1] (by decide)) (by decide)
  rw [show refute x0 1 [0, 1] = true from by decide] at H
  have H := Lib.hid H
  go_wp2_with (go_at_call 13; refine (H.out).mono ?_; rintro e w12 ⟨rfl, bb⟩; refine Hid.out ?_)
  refine Lib.hid ?_
  have K2 := Lib.hid (K2.out.keep bb)
  have K1 := Lib.hid (K1.out.keep bb)
  have K0 := Lib.hid (K0.out.keep bb)
  have U1 := Lib.hid (U1.out.keep bb)
  have U2 := Lib.hid (U2.out.keep bb)
  have U3 := Lib.hid (U3.out.keep bb)
  have U4 := Lib.hid (U4.out.keep bb)
  have C4 := Lib.hid (C4.out.keep bb)
  have F1 := Lib.hid (F1.out.keep bb)
  have F2 := Lib.hid (F2.out.keep bb)
  have B := Lib.hid (B.out.trans (bb.mono B.out.size))
  clear bb H
  have bb := (Below.refl w12.heap.size w12).alloc (Nat.le_refl _) (.cells #[.int .i64 (-1), .int .i64 (-1)] 3)
  have K2 := Lib.hid (K2.out.keep bb)
  have K1 := Lib.hid (K1.out.keep bb)
  have K0 := Lib.hid (K0.out.keep bb)
  have U1 := Lib.hid (U1.out.keep bb)
  have U2 := Lib.hid (U2.out.keep bb)
  have U3 := Lib.hid (U3.out.keep bb)
  have U4 := Lib.hid (U4.out.keep bb)
  have C4 := Lib.hid (C4.out.keep bb)
  have F1 := Lib.hid (F1.out.keep bb)
  have F2 := Lib.hid (F2.out.keep bb)
  have B := Lib.hid (B.out.trans (bb.mono B.out.size))
  clear bb
  have H := q_ints F1.out (nums_lit w12 ([(-1), (-1)] : List Int) (by decide)) (by decide)
  rw [show decide (([(-1), (-1)] : List Int) = [(-1), (-1)]) = true from by decide] at H
  have H := Lib.hid H
  go_wp2_with (go_at_call 21; refine (H.out).mono ?_; rintro e w13 ⟨rfl, bb⟩; refine Hid.out ?_)
  refine Lib.hid ?_
  have K2 := Lib.hid (K2.out.keep bb)
  have K1 := Lib.hid (K1.out.keep bb)
  have K0 := Lib.hid (K0.out.keep bb)
  have U1 := Lib.hid (U1.out.keep bb)
  have U2 := Lib.hid (U2.out.keep bb)
  have U3 := Lib.hid (U3.out.keep bb)
  have U4 := Lib.hid (U4.out.keep bb)
  have C4 := Lib.hid (C4.out.keep bb)
  have F1 := Lib.hid (F1.out.keep bb)
  have F2 := Lib.hid (F2.out.keep bb)
  have B := Lib.hid (B.out.trans (bb.mono B.out.size))
  clear bb H
  have bb := (Below.refl w13.heap.size w13).alloc (Nat.le_refl _) (.cells #[.int .i64 1, .int .i64 1] 3)
  have K2 := Lib.hid (K2.out.keep bb)
  have K1 := Lib.hid (K1.out.keep bb)
  have K0 := Lib.hid (K0.out.keep bb)
  have U1 := Lib.hid (U1.out.keep bb)
  have U2 := Lib.hid (U2.out.keep bb)
  have U3 := Lib.hid (U3.out.keep bb)
  have U4 := Lib.hid (U4.out.keep bb)
  have C4 := Lib.hid (C4.out.keep bb)
  have F1 := Lib.hid (F1.out.keep bb)
  have F2 := Lib.hid (F2.out.keep bb)
  have B := Lib.hid (B.out.trans (bb.mono B.out.size))
  clear bb
  have H := q_ints F2.out (nums_lit w13 ([1, 1] : List Int) (by decide)) (by decide)
  rw [show decide (([1, 1] : List Int) = [1, 1]) = true from by decide] at H
  have H := Lib.hid H
  go_wp2_with (go_at_call 21; refine (H.out).mono ?_; rintro e w14 ⟨rfl, bb⟩; refine Hid.out ?_)
  refine Lib.hid ?_
  have K2 := Lib.hid (K2.out.keep bb)
  have K1 := Lib.hid (K1.out.keep bb)
  have K0 := Lib.hid (K0.out.keep bb)
  have U1 := Lib.hid (U1.out.keep bb)
  have U2 := Lib.hid (U2.out.keep bb)
  have U3 := Lib.hid (U3.out.keep bb)
  have U4 := Lib.hid (U4.out.keep bb)
  have C4 := Lib.hid (C4.out.keep bb)
  have F1 := Lib.hid (F1.out.keep bb)
  have F2 := Lib.hid (F2.out.keep bb)
  have B := Lib.hid (B.out.trans (bb.mono B.out.size))
  clear bb H
  have bb := (Below.refl w14.heap.size w14).alloc (Nat.le_refl _) (.cells #[.int .i64 0, .int .i64 2] 3)
  have K2 := Lib.hid (K2.out.keep bb)
  have K1 := Lib.hid (K1.out.keep bb)
  have K0 := Lib.hid (K0.out.keep bb)
  have U1 := Lib.hid (U1.out.keep bb)
  have U2 := Lib.hid (U2.out.keep bb)
  have U3 := Lib.hid (U3.out.keep bb)
  have U4 := Lib.hid (U4.out.keep bb)
  have C4 := Lib.hid (C4.out.keep bb)
  have F1 := Lib.hid (F1.out.keep bb)
  have F2 := Lib.hid (F2.out.keep bb)
  have B := Lib.hid (B.out.trans (bb.mono B.out.size))
  clear bb
  have H := A.follows_ (n := 2) K2.out (by decide) ⟨by decide, by decide⟩ (nums_lit w14 [0, 2] (by decide)) (by decide)
  rw [y_2a] at H
  have H := Lib.hid H
  go_wp2_with (go_at_call 15; refine (H.out).mono ?_; rintro e w15 ⟨rfl, bb⟩; refine Hid.out ?_)
  refine Lib.hid ?_
  have K2 := Lib.hid (K2.out.keep bb)
  have K1 := Lib.hid (K1.out.keep bb)
  have K0 := Lib.hid (K0.out.keep bb)
  have U1 := Lib.hid (U1.out.keep bb)
  have U2 := Lib.hid (U2.out.keep bb)
  have U3 := Lib.hid (U3.out.keep bb)
  have U4 := Lib.hid (U4.out.keep bb)
  have C4 := Lib.hid (C4.out.keep bb)
  have F1 := Lib.hid (F1.out.keep bb)
  have F2 := Lib.hid (F2.out.keep bb)
  have B := Lib.hid (B.out.trans (bb.mono B.out.size))
  clear bb H
  have bb := (Below.refl w15.heap.size w15).alloc (Nat.le_refl _) (.cells #[.int .i64 0] 3)
  have K2 := Lib.hid (K2.out.keep bb)
  have K1 := Lib.hid (K1.out.keep bb)
  have K0 := Lib.hid (K0.out.keep bb)
  have U1 := Lib.hid (U1.out.keep bb)
  have U2 := Lib.hid (U2.out.keep bb)
  have U3 := Lib.hid (U3.out.keep bb)
  have U4 := Lib.hid (U4.out.keep bb)
  have C4 := Lib.hid (C4.out.keep bb)
  have F1 := Lib.hid (F1.out.keep bb)
  have F2 := Lib.hid (F2.out.keep bb)
  have B := Lib.hid (B.out.trans (bb.mono B.out.size))
  clear bb
  have H := A.follows_ (n := 2) K2.out (by decide) ⟨by decide, by decide⟩ (nums_lit w15 [0] (by decide)) (by decide)
  rw [y_2b] at H
  have H := Lib.hid H
  go_wp2_with (go_at_call 15; refine (H.out).mono ?_; rintro e w16 ⟨rfl, bb⟩; refine Hid.out ?_)
  refine Lib.hid ?_
  have K2 := Lib.hid (K2.out.keep bb)
  have K1 := Lib.hid (K1.out.keep bb)
  have K0 := Lib.hid (K0.out.keep bb)
  have U1 := Lib.hid (U1.out.keep bb)
  have U2 := Lib.hid (U2.out.keep bb)
  have U3 := Lib.hid (U3.out.keep bb)
  have U4 := Lib.hid (U4.out.keep bb)
  have C4 := Lib.hid (C4.out.keep bb)
  have F1 := Lib.hid (F1.out.keep bb)
  have F2 := Lib.hid (F2.out.keep bb)
  have B := Lib.hid (B.out.trans (bb.mono B.out.size))
  clear bb H
  go_wp2
  go_ret
  exact ⟨rfl, B.out⟩
end Go.Proofs.Ytapgcahbccchfaa
