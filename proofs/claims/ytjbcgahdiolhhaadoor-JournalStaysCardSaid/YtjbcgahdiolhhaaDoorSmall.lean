/- The small examples that every statement of layer 1 begins with, and the statements' own helpers. -/
import Derived.Test.YtjbcgahdiolhhaaDoorRead2
namespace Go.Proofs.YtjbcgahdiolhhaaDoor
open Go.RowKit Go.Shelf

theorem open_any (s : List UInt8) (w : World) :
    Calls Tryd.prog 23 #[.string (bs s)] w fun e w' => e = .returned (.pointer (some ⟨w.heap.size, 0, none⟩)) ∧ RdAt 80 w.heap.size (some s) w' ∧ Below w.heap.size w w' := by
  go_enter Tryd.func23, Tryd.ntmps23
  go_wp2
  go_ret
  exact ⟨rfl, heap_alloc_new w _, (Below.refl _ _).alloc (Nat.le_refl _) _⟩

theorem it0 : Lib.itoa 0 = [48] := by unfold Lib.itoa; rw [if_neg (by decide)]; show Lib.decDigits 0 = _; rw [Sp.decDigits_small (by decide)]; rfl
theorem it1 : Lib.itoa 1 = [49] := by unfold Lib.itoa; rw [if_neg (by decide)]; show Lib.decDigits 1 = _; rw [Sp.decDigits_small (by decide)]; rfl
theorem it2 : Lib.itoa 2 = [50] := by unfold Lib.itoa; rw [if_neg (by decide)]; show Lib.decDigits 2 = _; rw [Sp.decDigits_small (by decide)]; rfl
theorem it3 : Lib.itoa 3 = [51] := by unfold Lib.itoa; rw [if_neg (by decide)]; show Lib.decDigits 3 = _; rw [Sp.decDigits_small (by decide)]; rfl
theorem it7 : Lib.itoa 7 = [55] := by unfold Lib.itoa; rw [if_neg (by decide)]; show Lib.decDigits 7 = _; rw [Sp.decDigits_small (by decide)]; rfl
theorem itm1 : Lib.itoa (-1) = [45, 49] := by unfold Lib.itoa; rw [if_pos (by decide)]; show 45 :: Lib.decDigits 1 = _; rw [Sp.decDigits_small (by decide)]; rfl
theorem itm7 : Lib.itoa (-7) = [45, 55] := by unfold Lib.itoa; rw [if_pos (by decide)]; show 45 :: Lib.decDigits 7 = _; rw [Sp.decDigits_small (by decide)]; rfl
theorem it300 : Lib.itoa 300 = [51, 48, 48] := by unfold Lib.itoa; rw [if_neg (by decide)]; show Lib.decDigits 300 = _; rw [Sp.decDigits_big (by decide), Sp.decDigits_big (by decide), Sp.decDigits_small (by decide)]; rfl
theorem odd007 : rNum 59 (some [48, 48, 55, 59]) = (0, none) := by
  have h1 : Lib.indexByte [48, 48, 55, 59] 59 = 3 := by decide
  have h2 : Lib.atoiAll [48, 48, 55] = .ok 7 := by decide
  have h3 : Sp.canon [48, 48, 55] = none := by unfold Sp.canon; rw [h2]; simp only; rw [it7]; decide
  have h4 : Sp.pInt 59 [48, 48, 55, 59] = none := by
    unfold Sp.pInt
    rw [h1, if_neg (by decide)]
    show Option.map _ (Sp.canon [48, 48, 55]) = none
    rw [h3]; rfl
  simp [rNum, Sp.pNum, h4]

theorem ints_two (w : World) : IntsAt (w.alloc (.cells #[.int .i64 1, .int .i64 (-1)] 3)) (.slice (some ⟨w.heap.size, 0, none⟩) 2 2) [1, -1] := by
  refine ⟨_, 2, rfl, .inr ⟨w.heap.size, 0, rfl, by simp, fun k hk => ?_⟩⟩
  have h := Lib.cell_of_heap (heap_alloc_new w (.cells #[.int .i64 1, .int .i64 (-1)] 3)) (0 + k)
  rw [h]
  match k, hk with
  | 0, _ => rfl
  | 1, _ => rfl

end Go.Proofs.YtjbcgahdiolhhaaDoor
