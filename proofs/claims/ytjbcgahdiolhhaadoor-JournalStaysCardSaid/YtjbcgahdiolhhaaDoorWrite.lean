/- What wire's writers return. -/
import Derived.Test.YtjbcgahdiolhhaaDoorBase
namespace Go.Proofs.YtjbcgahdiolhhaaDoor
open Go.RowKit Go.Shelf

theorem bs_append (a b : List UInt8) : bs a ++ bs b = bs (a ++ b) := ByteArray.mk_append_mk a b
theorem bs_snoc (a : List UInt8) (c : UInt8) : bs a ++ (⟨#[c]⟩ : ByteArray) = bs (a ++ [c]) := ByteArray.mk_append_mk a [c]
theorem ret_string {a b : ByteArray} (h : a = b) : Ending.returned (.string a) = .returned (.string b) := by rw [h]

/-- A builder stays one while what was there stands. -/
theorem builder_old {T e : TypeId} {B b : Nat} {xs : List Value} {w w' : World} (h : Lib.IsBuilder T e B b xs w) (hb : Below w.heap.size w w') : Lib.IsBuilder T e B b xs w' := by
  have one : ∀ p, Lib.BuilderAt T e B b p xs w → Lib.BuilderAt T e B b p xs w' := by
    rintro p ⟨h1, v, h2, h3, h4⟩
    have hlt : b < w.heap.size := (Array.getElem?_eq_some_iff.1 h2).1
    exact ⟨h1, v, (hb.block b hlt).trans h2, h3.kept (gb_of_below hb none) (by
      cases hv : v.ownBlock with
      | none => exact .inl rfl
      | some g => exact .inr (by simp)), h4⟩
  rcases h with h | h
  · exact .inl (one _ h)
  · exact .inr (one _ h)

theorem strCells_eq (s : ByteArray) : Lib.strCells s = Lib.byteCells s.data.toList := rfl

set_option maxHeartbeats 400000 in
theorem wInt_any (n : Int) (hn : Sp.I64 n) (w : World) (he : Env w) :
    Calls Tryd.prog 49 #[.int .i64 n] w fun e w' => e = .returned (.string (bs (Sp.eInt n))) ∧ Below w.heap.size w w' := by
  have hl : (bs (Lib.itoa n)).size ≤ 21 := by rw [bs_size]; exact Lib.itoa_length_le n hn.1 hn.2
  go_enter Tryd.func49, Tryd.ntmps49
  go_wp2_with (go_at_call 48; refine (itoa_any n hn _ he).mono ?_; rintro e w' ⟨rfl, hb⟩)
  go_ret
  exact ⟨ret_string (bs_snoc _ _), hb⟩

theorem wNum_neg (n : Int) (h : n < 0) (w : World) : Calls Tryd.prog 28 #[.int .i64 n] w fun e w' => e = .returned (.string (bs (Sp.eNum n))) ∧ Below w.heap.size w w' := by
  go_enter Tryd.func28, Tryd.ntmps28
  go_wp2
  go_ret
  exact ⟨ret_string (by unfold Sp.eNum; rw [if_pos h]; rfl), Below.refl _ _⟩
theorem wNum_pos (n : Int) (h : 0 ≤ n) (hn : Sp.I64 n) (w : World) (he : Env w) : Calls Tryd.prog 28 #[.int .i64 n] w fun e w' => e = .returned (.string (bs (Sp.eNum n))) ∧ Below w.heap.size w w' := by
  go_enter Tryd.func28, Tryd.ntmps28
  go_wp2_with (go_at_call 49; refine (wInt_any n hn _ he).mono ?_; rintro e w' ⟨rfl, hb⟩)
  go_ret
  exact ⟨ret_string (by unfold Sp.eNum; rw [if_neg (by omega)]), hb⟩
theorem wNum_any (n : Int) (hn : Sp.I64 n) (w : World) (he : Env w) : Calls Tryd.prog 28 #[.int .i64 n] w fun e w' => e = .returned (.string (bs (Sp.eNum n))) ∧ Below w.heap.size w w' := by
  by_cases h : n < 0
  · exact wNum_neg n h w
  · exact wNum_pos n (by omega) hn w he

set_option maxHeartbeats 400000 in
theorem wText_any (l : List UInt8) (hl : l.length ≤ 281474976710656) (w : World) (he : Env w) :
    Calls Tryd.prog 27 #[.string (bs l)] w fun e w' => e = .returned (.string (bs (Sp.eText l))) ∧ Below w.heap.size w w' := by
  have hi : (bs (Lib.itoa (l.length : Int))).size ≤ 21 := by rw [bs_size]; exact Lib.itoa_length_le _ (by omega) (by omega)
  have hs : (bs l).size ≤ 281474976710656 := by rw [bs_size]; exact hl
  have HS := Lib.hid (bs_size l)
  go_enter Tryd.func27, Tryd.ntmps27
  go_wp2_with (go_at_call 48; rw [HS.out]; refine (itoa_any _ ⟨by omega, by omega⟩ _ he).mono ?_; rintro e w' ⟨rfl, hb⟩)
  go_ret
  exact ⟨ret_string (by rw [bs_snoc, bs_append, bs_snoc]; unfold Sp.eText; simp), hb⟩

/-! ### Lists -/
/-- A slice that reads as a list of ints. -/
def IntsAt (w : World) (v : Value) (zs : List Int) : Prop :=
  ∃ a cap, v = .slice a zs.length cap ∧ (zs = [] ∨ ∃ b off, a = some ⟨b, off, none⟩ ∧ b < w.heap.size ∧ ∀ k, k < zs.length → w.cell? ⟨b, off + k, none⟩ = some (.int .i64 (zs.getD k 0)))

theorem eMany_take {α : Type} (f : α → List UInt8) (zs : List α) (k : Nat) (h : k < zs.length) : Sp.eMany f (zs.take (k + 1)) = Sp.eMany f (zs.take k) ++ f zs[k] := by
  rw [List.take_succ_eq_append_getElem h, Sp.eMany_append]
  simp [Sp.eMany]
theorem eMany_le {α : Type} (f : α → List UInt8) (zs : List α) (k : Nat) : (Sp.eMany f (zs.take k)).length ≤ (Sp.eMany f zs).length := by
  conv => rhs; rw [← List.take_append_drop k zs, Sp.eMany_append]
  simp
theorem eList_length {α : Type} (f : α → List UInt8) (zs : List α) : (Sp.eList f zs).length = (Lib.itoa zs.length).length + 1 + (Sp.eMany f zs).length + 1 := by
  simp [Sp.eList]; omega
theorem cells_snoc (l : List UInt8) (c : UInt8) (z : Int) (hz : z = c.toNat) : Lib.byteCells l ++ [Value.int .u8 z] = Lib.byteCells (l ++ [c]) := by subst hz; simp [Lib.byteCells]
theorem cells_app (a b : List UInt8) : Lib.byteCells a ++ Lib.strCells (bs b) = Lib.byteCells (a ++ b) := by rw [strCells_eq, bs_list, ← Lib.byteCells_append]

/-- A slice that reads as a list of strings. -/
def TextsAt (w : World) (v : Value) (ts : List (List UInt8)) : Prop :=
  ∃ a cap, v = .slice a ts.length cap ∧ (ts = [] ∨ ∃ b off, a = some ⟨b, off, none⟩ ∧ b < w.heap.size ∧ ∀ k, k < ts.length → w.cell? ⟨b, off + k, none⟩ = some (.string (bs (ts.getD k []))))

end Go.Proofs.YtjbcgahdiolhhaaDoor
