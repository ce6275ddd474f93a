/- The walk of RateTells. -/
import Derived.Test.YtmlogoaicjdjiaaRParts
namespace Go.Proofs.Ytmlogoaicjdjiaa
open Go.RowKit Go.Maps Go.ChangeMaps Go.MapKept
open Rt
attribute [local go_sem ↓] Go.wp_at_zero Go.wp_at_succ
theorem RqTake {w : World} {L S r b t n x y z : Int} (h : take L S r b t n = ((x, y), z)) : Calls Try.prog 9 #[.int .i64 L, .int .i64 S, .int .i64 r, .int .i64 b, .int .i64 t, .int .i64 n] w fun e w' => e = .returned (.tuple #[.int .i64 x, .int .i64 y, .int .i64 z]) ∧ w = w' := by
  have := @q_take w L S r b t n; rw [h] at this; exact this
theorem RqFree {w : World} {L S r b t x y : Int} (h : free L S r b t = (x, y)) : Calls Try.prog 11 #[.int .i64 L, .int .i64 S, .int .i64 r, .int .i64 b, .int .i64 t] w fun e w' => e = .returned (.tuple #[.int .i64 x, .int .i64 y]) ∧ w = w' := by
  have := @q_free w L S r b t; rw [h] at this; exact this
theorem RqNext {w : World} {L S r b n x y : Int} (h : next L S r b n = (x, y)) : Calls Try.prog 13 #[.int .i64 L, .int .i64 S, .int .i64 r, .int .i64 b, .int .i64 n] w fun e w' => e = .returned (.tuple #[.int .i64 x, .int .i64 y]) ∧ w = w' := by
  have := @q_next w L S r b n; rw [h] at this; exact this
theorem RqRight {w : World} {L S r b : Int} {x : Bool} (h : right L S r b = x) : Calls Try.prog 15 #[.int .i64 L, .int .i64 S, .int .i64 r, .int .i64 b] w fun e w' => e = .returned (.bool x) ∧ w = w' := by
  have := @q_right w L S r b; rw [h] at this; exact this
set_option maxHeartbeats 8000000 in
set_option maxRecDepth 100000 in
theorem tells_walk (A : RApi) {w : World} {L S r b t n : Int} (hL : I64 L) (hS : I64 S) (hr : I64 r) (hb : I64 b) (ht : I64 t) (hn : I64 n) :
    Calls Try.prog 3 #[.int .i64 L, .int .i64 S, .int .i64 r, .int .i64 b, .int .i64 t, .int .i64 n] w fun e w' => e = .returned (.bool true) ∧ Below w.heap.size w w' := by
  obtain ⟨x1, x2, x3, h1⟩ : ∃ x1 x2 x3, take L S r b t n = ((x1, x2), x3) := ⟨_, _, _, rfl⟩
  obtain ⟨y1, y2, h2⟩ : ∃ y1 y2, free L S r b t = (y1, y2) := ⟨_, _, rfl⟩
  obtain ⟨z1, z2, h3⟩ : ∃ z1 z2, next L S r b n = (z1, z2) := ⟨_, _, rfl⟩
  obtain ⟨q, h4⟩ : ∃ q, right L S r b = q := ⟨_, rfl⟩
  have H1 := Lib.hid (fun w => A.take_eq (w := w) h1 hL hS hr hb ht hn)
  have H2 := Lib.hid (fun w => A.free_eq (w := w) h2 hL hS hr hb ht)
  have H3 := Lib.hid (fun w => A.next_eq (w := w) h3 hL hS hr hb hn)
  have H4 := Lib.hid (fun w => A.right_eq (w := w) h4 hL hS hr hb)
  have R1 := Lib.hid (fun w => RqTake (w := w) h1)
  have R2 := Lib.hid (fun w => RqFree (w := w) h2)
  have R3 := Lib.hid (fun w => RqNext (w := w) h3)
  have R4 := Lib.hid (fun w => RqRight (w := w) h4)
  clear hL hS hr hb hn ht h1 h2 h3 h4
  go_enter Try.func3, Try.ntmps3
  go_wp2_with (go_at_call 7; refine (small_any A _).mono ?_; rintro e w1 ⟨rfl, m1⟩; refine Hid.out ?_)
  refine Lib.hid ?_
  have B := Lib.hid m1
  clear m1
  obtain ⟨c0, c1⟩ := buck_new w1 (L) (S)
  have ba := (Below.refl w1.heap.size w1).alloc (Nat.le_refl _) (.cells #[.int .i64 (L), .int .i64 (S)] 24)
  have B := Lib.hid (B.out.trans (ba.mono B.out.size))
  clear ba
  go_wp2_with (go_at_call 8; refine (H1.out _).mono ?_; rintro e w2 ⟨rfl, bb⟩; refine Hid.out ?_)
  refine Lib.hid ?_
  have c0 := below_cell c0 bb
  have c1 := below_cell c1 bb
  have B := Lib.hid (B.out.trans (bb.mono B.out.size))
  clear bb
  obtain ⟨d0, d1⟩ := buck_new w2 (x1) (x2)
  have ba := (Below.refl w2.heap.size w2).alloc (Nat.le_refl _) (.cells #[.int .i64 (x1), .int .i64 (x2)] 24)
  have c0 := below_cell c0 ba
  have c1 := below_cell c1 ba
  have B := Lib.hid (B.out.trans (ba.mono B.out.size))
  clear ba
  go_wp2_with (go_at_call 9; refine (R1.out _).mono ?_; rintro e w3 ⟨rfl, bb⟩; refine Hid.out ?_)
  refine Lib.hid ?_
  subst bb
  go_wp2_with (go_at_call 10; refine (H2.out _).mono ?_; rintro e w4 ⟨rfl, bb⟩; refine Hid.out ?_)
  refine Lib.hid ?_
  have c0 := below_cell c0 bb
  have c1 := below_cell c1 bb
  have d0 := below_cell d0 bb
  have d1 := below_cell d1 bb
  have B := Lib.hid (B.out.trans (bb.mono B.out.size))
  clear bb
  go_wp2_with (go_at_call 11; refine (R2.out _).mono ?_; rintro e w5 ⟨rfl, bb⟩; refine Hid.out ?_)
  refine Lib.hid ?_
  subst bb
  go_wp2_with (go_at_call 12; refine (H3.out _).mono ?_; rintro e w6 ⟨rfl, bb⟩; refine Hid.out ?_)
  refine Lib.hid ?_
  have c0 := below_cell c0 bb
  have c1 := below_cell c1 bb
  have d0 := below_cell d0 bb
  have d1 := below_cell d1 bb
  have B := Lib.hid (B.out.trans (bb.mono B.out.size))
  clear bb
  go_wp2_with (go_at_call 13; refine (R3.out _).mono ?_; rintro e w7 ⟨rfl, bb⟩; refine Hid.out ?_)
  refine Lib.hid ?_
  subst bb
  go_wp2_with (go_at_call 14; refine (H4.out _).mono ?_; rintro e w8 ⟨rfl, bb⟩; refine Hid.out ?_)
  refine Lib.hid ?_
  have c0 := below_cell c0 bb
  have c1 := below_cell c1 bb
  have d0 := below_cell d0 bb
  have d1 := below_cell d1 bb
  have B := Lib.hid (B.out.trans (bb.mono B.out.size))
  clear bb
  go_wp2_with (go_at_call 15; refine (R4.out _).mono ?_; rintro e w9 ⟨rfl, bb⟩; refine Hid.out ?_)
  refine Lib.hid ?_
  subst bb
  go_wp2
  go_ret
  exact ⟨rfl, B.out⟩
end Go.Proofs.Ytmlogoaicjdjiaa
