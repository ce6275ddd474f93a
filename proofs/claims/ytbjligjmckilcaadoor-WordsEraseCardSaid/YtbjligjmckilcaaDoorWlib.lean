/- What package words calls of Go's library. -/
import Derived.Test.YtbjligjmckilcaaDoorWfs
import Derived.Test.YtbjligjmckilcaaDoorBld
import Derived.Test.YtbjligjmckilcaaDoorWdoor
import Derived.Test.YtbjligjmckilcaaDoorShelf
import Derived.WalkMore
namespace Go.Proofs.YtbjligjmckilcaaDoor
open Go.RowKit Go.Maps Go.ChangeMaps Go.MapKept
open Wd
attribute [local go_sem ↓] Go.wp_at_zero Go.wp_at_succ
section
variable {w : World}
theorem clone_any (s : S) (hs : s.length ≤ 281474976710656) : Calls Tryd.prog 25 #[.string (bs s)] w fun e w' => e = .returned (.string (bs s)) ∧ Below w.heap.size w w' := by
  go_enter Tryd.func25, Tryd.ntmps25
  go_wp2_with (go_at_call 35; refine (Any.stringslite_Clone Tryd.lclone (bs s) _ (by rw [bs_size]; exact hs)).mono ?_; rintro e w' ⟨rfl, hb⟩)
  go_ret
  exact ⟨rfl, hb⟩
theorem itoa_any (n : Int) (hn : I64 n) (he : Env w) : Calls Tryd.prog 32 #[.int .i64 n] w fun e w' => e = .returned (.string (bs (Lib.itoa n))) ∧ Below w.heap.size w w' :=
  (Any.strconv_Itoa Tryd.litoa n hn.1 hn.2 w he.tab).mono fun _ _ ⟨h1, k, os, h2⟩ => ⟨h1, by rw [h2]; exact Lib.below_grow _ w (Nat.le_refl _) k os⟩
theorem ret_b {a b : Bool} (h : a = b) : Ending.returned (.bool a) = .returned (.bool b) := by rw [h]
theorem sep_yes {x : Nat} (h : ¬ (97 ≤ x ∧ x ≤ 122) ∧ ¬ (65 ≤ x ∧ x ≤ 90) ∧ ¬ (48 ≤ x ∧ x ≤ 57)) : sepR x = true := by
  unfold sepR; rw [decide_eq_false h.1, decide_eq_false h.2.1, decide_eq_false h.2.2]; rfl
theorem sep_no {x : Nat} (h : (97 ≤ x ∧ x ≤ 122) ∨ (65 ≤ x ∧ x ≤ 90) ∨ (48 ≤ x ∧ x ≤ 57)) : sepR x = false := by
  unfold sepR
  rcases h with h | h | h
  · rw [decide_eq_true h]; rfl
  · rw [decide_eq_true h, Bool.or_true]; rfl
  · rw [decide_eq_true h, Bool.or_true]; rfl
/-- The predicate of package words. -/
theorem sep_ok (x : Nat) (hx : x ≤ 1114111) : Calls Tryd.prog 24 #[.int .i32 (x : Int)] w fun e w' => e = .returned (.bool (sepR x)) ∧ w = w' := by
  rcases (by omega : x < 48 ∨ (48 ≤ x ∧ x ≤ 57) ∨ (57 < x ∧ x < 65) ∨ (65 ≤ x ∧ x ≤ 90) ∨ (90 < x ∧ x < 97) ∨ (97 ≤ x ∧ x ≤ 122) ∨ 122 < x) with h | h | h | h | h | h | h
  · rw [sep_yes (by omega)]; skip
    go_enter Tryd.func24, Tryd.ntmps24
    go_wp2
    go_ret
    first | exact ⟨rfl, rfl⟩ | exact ⟨ret_b (by simp; omega), rfl⟩
  · rw [sep_no (by omega)]; skip
    go_enter Tryd.func24, Tryd.ntmps24
    go_wp2
    go_ret
    first | exact ⟨rfl, rfl⟩ | exact ⟨ret_b (by simp; omega), rfl⟩
  · rw [sep_yes (by omega)]; skip
    go_enter Tryd.func24, Tryd.ntmps24
    go_wp2
    go_ret
    first | exact ⟨rfl, rfl⟩ | exact ⟨ret_b (by simp; omega), rfl⟩
  · rw [sep_no (by omega)]; skip
    go_enter Tryd.func24, Tryd.ntmps24
    go_wp2
    go_ret
    first | exact ⟨rfl, rfl⟩ | exact ⟨ret_b (by simp; omega), rfl⟩
  · rw [sep_yes (by omega)]; skip
    go_enter Tryd.func24, Tryd.ntmps24
    go_wp2
    go_ret
    first | exact ⟨rfl, rfl⟩ | exact ⟨ret_b (by simp; omega), rfl⟩
  · rw [sep_no (by omega)]; skip
    go_enter Tryd.func24, Tryd.ntmps24
    go_wp2
    go_ret
    first | exact ⟨rfl, rfl⟩ | exact ⟨ret_b (by simp; omega), rfl⟩
  · rw [sep_yes (by omega)]; skip
    go_enter Tryd.func24, Tryd.ntmps24
    go_wp2
    go_ret
    first | exact ⟨rfl, rfl⟩ | exact ⟨ret_b (by simp; omega), rfl⟩
theorem sep_pays : PredGrows Tryd.prog 24 #[] sepR w := fun W x hx _ => (sep_ok (w := W) x hx).mono fun _ _ ⟨he, hw⟩ => ⟨he, hw ▸ Below.refl _ _⟩
theorem fields_any (s : S) (hs : s.length ≤ 4294967296) : Calls Tryd.prog 23 #[.string (bs s), .func (.func 24) #[] #[]] w fun e w' => ∃ A, e = .returned (.slice (some ⟨A, 0, none⟩) (raws s).length (raws s).length) ∧ w.heap.size ≤ A ∧
    w'.ownsRow w.heap.size 9 1 (.slice (some ⟨A, 0, none⟩) (raws s).length (raws s).length) (raws s).length (txVs (raws s)) ∧ Below w.heap.size w w' := by
  have h := Any.strings_FieldsFunc_grows Tryd.lfields 24 #[] (enters_of Tryd.func24 (by kernel_rfl) rfl) sepR (bs s) w (by rw [bs_size]; exact hs) sep_pays (by kernel_rfl) (by kernel_rfl)
  rw [fields_vals, show (Lib.goFieldsP sepR (bs s)).length = (raws s).length by rw [fields_raws, List.length_map]] at h
  exact h
theorem lowerExtra : Builder.Extra Tryd.prog Tryd.llower_ren where
  sizeBuilder := by kernel_rfl
  liesBuilder := by kernel_rfl
  t5 := Tryd.underlying5
  a5 := Tryd.isAgg5
  z5 := Tryd.sizeOf5
  v5 := Tryd.zeroValue5
  infoByte := by kernel_rfl
  cellsByte := by kernel_rfl
  sizeByte := by kernel_rfl
  neB5 := by decide
theorem stringExtra : Builder.Extra Tryd.prog Tryd.lstring_ren where
  sizeBuilder := by kernel_rfl
  liesBuilder := by kernel_rfl
  t5 := Tryd.underlying5
  a5 := Tryd.isAgg5
  z5 := Tryd.sizeOf5
  v5 := Tryd.zeroValue5
  infoByte := by kernel_rfl
  cellsByte := by kernel_rfl
  sizeByte := by kernel_rfl
  neB5 := by decide
theorem lower_any {x : S} (h : ∀ c ∈ x, low c ≠ 0) (hs : x.length ≤ 100000) : Calls Tryd.prog 26 #[.string (bs x)] w fun e w' => e = .returned (.string (bs (lows x))) ∧ Below w.heap.size w w' := by
  have hl := toLowerA_lows h
  have := Any.strings_ToLower_ascii Tryd.llower lowerExtra (bs x) w (by rw [bs_size]; omega) (fun j b hb => hl.2 b (List.mem_of_getElem? hb))
  rw [bs_list, hl.1] at this
  exact this
end
end Go.Proofs.YtbjligjmckilcaaDoor
