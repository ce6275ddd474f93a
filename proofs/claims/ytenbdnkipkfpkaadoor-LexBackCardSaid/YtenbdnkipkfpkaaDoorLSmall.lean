/- The examples of layer 11, and what a string is cut to. -/
import Derived.Test.YtenbdnkipkfpkaaDoorLApi
import Derived.BigQuiet
namespace Go.Proofs.YtenbdnkipkfpkaaDoor
open Go.RowKit Go.Maps Go.ChangeMaps Go.MapKept
open Lx
attribute [local go_sem ↓] Go.wp_at_zero Go.wp_at_succ
theorem cut_any {w : World} {s : S} : Calls Tryd.prog 10 #[.string (bs s)] w fun e w' => e = .returned (.string (bs (s.take 900))) ∧ w = w' := by
  have hz := bs_size s
  by_cases h : s.length ≤ 900
  · have h1 : (s.length : Int) ≤ 900 := by omega
    have hmin : min (s.length : Int) 900 = (s.length : Int) := by omega
    have he : (bs s).extract 0 s.length = bs (s.take 900) := by
      rw [bs_extract, List.drop_zero, Nat.sub_zero, List.take_length, List.take_of_length_le h]
    go_enter Tryd.func10, Tryd.ntmps10
    go_wp2
    go_ret
    exact ⟨rfl, rfl⟩
  · have h1 : ¬ (s.length : Int) ≤ 900 := by omega
    have hmin : min (s.length : Int) 900 = 900 := by omega
    have he : (bs s).extract 0 900 = bs (s.take 900) := by
      rw [bs_extract, List.drop_zero]
    go_enter Tryd.func10, Tryd.ntmps10
    go_wp2
    go_ret
    exact ⟨rfl, rfl⟩
set_option maxHeartbeats 8000000 in
set_option maxRecDepth 100000 in
theorem small_any {E : World → Prop} (A : LApi E) {w : World} (hE : E w) : Calls Tryd.prog 9 #[] w fun e w' => e = .returned (.bool true) ∧ Below w.heap.size w w' := by
  have HE := Lib.hid hE
  have B := Lib.hid (Below.refl w.heap.size w)
  have z0 : lexRes [120, 32, 59, 49, 50, 97] = ([⟨0, [120], 0, 0⟩, ⟨2, [59], 0, 2⟩, ⟨1, [49, 50], 12, 3⟩, ⟨0, [97], 0, 5⟩, ⟨3, [], 0, 6⟩], 0, 0) := by decide +kernel
  have z1 : lexRes [97, 49, 59, 59, 48, 48, 55] = ([], 4, 3) := by decide +kernel
  have z2 : lexRes [97, 32, 58] = ([], 2, 10) := by decide +kernel
  have z3 : lexRes [97, 59, 98, 32, 59] = ([⟨0, [97], 0, 0⟩, ⟨2, [59], 0, 1⟩, ⟨0, [98], 0, 2⟩, ⟨2, [59], 0, 4⟩, ⟨3, [], 0, 5⟩], 0, 0) := by decide +kernel
  have z4 : numRes [49, 50] = (12, true) := by decide +kernel
  have z5 : numRes [48, 49, 50] = (0, false) := by decide +kernel
  have z6 : textOf [⟨0, [97], 0, 0⟩, ⟨2, [59], 0, 1⟩, ⟨0, [98], 0, 2⟩, ⟨2, [59], 0, 4⟩, ⟨3, [], 0, 5⟩] = [97, 32, 59, 32, 98, 32, 59] := by decide +kernel
  have z7 : wordOk [97, 49] = true := by decide +kernel
  have z8 : wordOk [49, 97] = false := by decide +kernel
  have Z1 := Lib.hid z1
  have Z2 := Lib.hid z2
  have Z3 := Lib.hid z3
  have Z4 := Lib.hid z4
  have Z5 := Lib.hid z5
  have Z6 := Lib.hid z6
  have Z7 := Lib.hid z7
  have Z8 := Lib.hid z8
  have H := Lib.hid (A.lex_ok z0 hE (by simp))
  clear hE z0 z1 z2 z3 z4 z5 z6 z7 z8
  go_enter Tryd.func9, Tryd.ntmps9
  go_wp2_with (go_at_call 11; refine (H.out).mono ?_; rintro e w1 ⟨a1, c1, rfl, h1, b1⟩; refine Hid.out ?_)
  refine Lib.hid ?_
  have HE := Lib.hid (A.keep HE.out b1)
  have B := Lib.hid (B.out.trans (b1.mono B.out.size))
  have H := Lib.hid (A.lex_err Z1.out HE.out (by simp))
  have H1 := Lib.hid h1
  clear h1 b1
  go_wp2_with (go_at_call 11; refine (H.out).mono ?_; rintro e w2 ⟨a2, c2, rfl, b1⟩; refine Hid.out ?_)
  refine Lib.hid ?_
  have HE := Lib.hid (A.keep HE.out b1)
  have B := Lib.hid (B.out.trans (b1.mono B.out.size))
  have H1 := Lib.hid (H1.out.keep b1)
  have H := Lib.hid (A.lex_err Z2.out HE.out (by simp))
  clear b1
  go_wp2_with (go_at_call 11; refine (H.out).mono ?_; rintro e w3 ⟨a3, c3, rfl, b1⟩; refine Hid.out ?_)
  refine Lib.hid ?_
  have HE := Lib.hid (A.keep HE.out b1)
  have B := Lib.hid (B.out.trans (b1.mono B.out.size))
  have H1 := Lib.hid (H1.out.keep b1)
  have H := Lib.hid (A.lex_ok Z3.out HE.out (by simp))
  clear b1
  go_wp2_with (go_at_call 11; refine (H.out).mono ?_; rintro e w4 ⟨a4, c4, rfl, h4, b1⟩; refine Hid.out ?_)
  refine Lib.hid ?_
  have HE := Lib.hid (A.keep HE.out b1)
  have B := Lib.hid (B.out.trans (b1.mono B.out.size))
  have H1 := Lib.hid (H1.out.keep b1)
  have b2 : Below w4.heap.size w4 (w4.alloc (.cells #[.int .i64 0, .string ⟨#[120]⟩, .int .i64 0, .int .i64 0, .int .i64 2, .string ⟨#[59]⟩, .int .i64 0, .int .i64 2, .int .i64 1, .string ⟨#[49, 50]⟩, .int .i64 12, .int .i64 3, .int .i64 0, .string ⟨#[97]⟩, .int .i64 0, .int .i64 5, .int .i64 3, .string ⟨#[]⟩, .int .i64 0, .int .i64 6] 25)) := (Below.refl _ _).alloc (Nat.le_refl _) _
  have H5 := Lib.hid (tks_lit w4 [⟨0, [120], 0, 0⟩, ⟨2, [59], 0, 2⟩, ⟨1, [49, 50], 12, 3⟩, ⟨0, [97], 0, 5⟩, ⟨3, [], 0, 6⟩] (by simp))
  have H1 := Lib.hid (H1.out.keep b2)
  have H4 := Lib.hid (h4.keep b2)
  have HE := Lib.hid (A.keep HE.out b2)
  have B := Lib.hid (B.out.trans (b2.mono B.out.size))
  have H := Lib.hid (A.number_eq Z4.out HE.out (by simp))
  clear b1 b2 h4
  go_wp2_with (go_at_call 13; refine (H.out).mono ?_; rintro e w5 ⟨rfl, b1⟩; refine Hid.out ?_)
  refine Lib.hid ?_
  have HE := Lib.hid (A.keep HE.out b1)
  have B := Lib.hid (B.out.trans (b1.mono B.out.size))
  have H1 := Lib.hid (H1.out.keep b1)
  have H4 := Lib.hid (H4.out.keep b1)
  have H5 := Lib.hid (H5.out.keep b1)
  have H := Lib.hid (A.number_eq Z5.out HE.out (by simp))
  clear b1
  go_wp2_with (go_at_call 13; refine (H.out).mono ?_; rintro e w6 ⟨rfl, b1⟩; refine Hid.out ?_)
  refine Lib.hid ?_
  have HE := Lib.hid (A.keep HE.out b1)
  have B := Lib.hid (B.out.trans (b1.mono B.out.size))
  have H4 := Lib.hid (H4.out.keep b1)
  have H := Lib.hid (same_yes (H1.out.keep b1) (H5.out.keep b1) (by simp))
  clear b1 H1 H5
  go_wp2_with (go_at_call 15; refine (H.out).mono ?_; rintro e w7 ⟨rfl, b1⟩; refine Hid.out ?_)
  refine Lib.hid ?_
  have HE := Lib.hid (A.keep HE.out b1)
  have B := Lib.hid (B.out.trans (b1.mono B.out.size))
  have H := Lib.hid (show Calls Tryd.prog 18 #[.slice a4 5 c4] w7 (fun e w' => e = .returned (.string ⟨#[97, 32, 59, 32, 98, 32, 59]⟩) ∧ Below w7.heap.size w7 w') from A.text_eq Z6.out HE.out (H4.out.keep b1) (by simp) (by simp) (by simp))
  clear b1 H4
  go_wp2_with (go_at_call 18; refine (H.out).mono ?_; rintro e w8 ⟨rfl, b1⟩; refine Hid.out ?_)
  refine Lib.hid ?_
  have HE := Lib.hid (A.keep HE.out b1)
  have B := Lib.hid (B.out.trans (b1.mono B.out.size))
  have H := Lib.hid (A.word_eq Z7.out HE.out (by simp))
  clear b1
  go_wp2_with (go_at_call 16; refine (H.out).mono ?_; rintro e w9 ⟨rfl, b1⟩; refine Hid.out ?_)
  refine Lib.hid ?_
  have HE := Lib.hid (A.keep HE.out b1)
  have B := Lib.hid (B.out.trans (b1.mono B.out.size))
  have H := Lib.hid (A.word_eq Z8.out HE.out (by simp))
  clear b1
  go_wp2_with (go_at_call 16; refine (H.out).mono ?_; rintro e w10 ⟨rfl, b1⟩; refine Hid.out ?_)
  refine Lib.hid ?_
  have HE := Lib.hid (A.keep HE.out b1)
  have B := Lib.hid (B.out.trans (b1.mono B.out.size))
  go_wp2
  go_ret
  exact ⟨rfl, B.out⟩
end Go.Proofs.YtenbdnkipkfpkaaDoor
