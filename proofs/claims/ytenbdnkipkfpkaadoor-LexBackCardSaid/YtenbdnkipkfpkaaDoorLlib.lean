/- What package lex calls of Go's library. -/
import Derived.Test.YtenbdnkipkfpkaaDoorBld
import Derived.Test.YtenbdnkipkfpkaaDoorLdoor
import Derived.Test.YtenbdnkipkfpkaaDoorShelf
import Derived.Shelf.Strings.Builder1
import Derived.WalkMore
namespace Go.Proofs.YtenbdnkipkfpkaaDoor
open Go.RowKit Go.Maps Go.ChangeMaps Go.MapKept
attribute [local go_sem ↓] Go.wp_at_zero Go.wp_at_succ
section
variable {w : World}
theorem clone_any (s : List UInt8) (hs : s.length ≤ 281474976710656) : Calls Tryd.prog 34 #[.string (bs s)] w fun e w' => e = .returned (.string (bs s)) ∧ Below w.heap.size w w' := by
  go_enter Tryd.func34, Tryd.ntmps34
  go_wp2_with (go_at_call 40; refine (Any.stringslite_Clone Tryd.lclone (bs s) _ (by rw [bs_size]; exact hs)).mono ?_; rintro e w' ⟨rfl, hb⟩)
  go_ret
  exact ⟨rfl, hb⟩
theorem itoa_any (n : Int) (hn : I64 n) (he : Env w) : Calls Tryd.prog 26 #[.int .i64 n] w fun e w' => e = .returned (.string (bs (Lib.itoa n))) ∧ Below w.heap.size w w' :=
  (Any.strconv_Itoa Tryd.litoa n hn.1 hn.2 w he.tab).mono fun _ _ ⟨h1, k, os, h2⟩ => ⟨h1, by rw [h2]; exact Lib.below_grow _ w (Nat.le_refl _) k os⟩
theorem atoi_ok (t : List UInt8) (ht : t.length ≤ 281474976710656) (n : Int) (h : Lib.atoiAll t = .ok n) (w : World) :
    Calls Tryd.prog 25 #[.string (bs t)] w fun x w' => x = .returned (.tuple #[.int .i64 n, .nilIface]) ∧ Below w.heap.size w w' :=
  (Any.strconv_Atoi_ok Tryd.latoi (bs t) (by rw [bs_size]; omega) n h w).mono fun x w' ⟨h1, h2⟩ => ⟨h1, by
    rcases h2 with rfl | ⟨u, rfl⟩
    · exact Below.refl _ _
    · exact Lib.bytesWorld_below _ _ _⟩
theorem atoi_no (t : List UInt8) (ht : t.length ≤ 281474976710656) (h : ∀ n, Lib.atoiAll t ≠ .ok n) (w : World) (he : Env w) :
    Calls Tryd.prog 25 #[.string (bs t)] w fun x w' => ∃ n N, x = .returned (.tuple #[.int .i64 n, .iface 57 (.pointer (some ⟨N, 0, none⟩))]) ∧ Below w.heap.size w w' := by
  obtain ⟨tp, p, h1⟩ := he.syn
  obtain ⟨tq, q, h2⟩ := he.rng
  have hl : (bs t).size ≤ 281474976710656 := by rw [bs_size]; exact ht
  rcases hh : Lib.atoiAll t with n | _ | _
  · exact absurd hh (h n)
  · exact (Any.strconv_Atoi_syntax_var Tryd.latoi (bs t) hl hh tp p w h1).mono fun x w' ⟨N, a, _, _, d⟩ => ⟨_, N, a, d⟩
  · exact (Any.strconv_Atoi_range_var Tryd.latoi (bs t) hl hh tq q w h2).mono fun x w' ⟨N, a, _, _, d⟩ => ⟨_, N, a, d⟩
theorem stringExtra : Builder.Extra Tryd.prog Tryd.lstring_ren where
  sizeBuilder := by kernel_rfl
  liesBuilder := by kernel_rfl
  t5 := Tryd.underlying5
  a5 := Tryd.isAgg5
  z5 := Tryd.sizeOf5
  v5 := Tryd.zeroValue5
  infoByte := by kernel_rfl
  cellsByte := by kernel_rfl
  sizeByte := by kernel_rfl
  neB5 := by decide
theorem string_any (B b : Nat) (l : List UInt8) (w : World) (h : Lib.IsBuilder 50 5 B b (Lib.byteCells l) w) (hBw : B ≤ w.heap.size) :
    Calls Tryd.prog 33 #[.pointer (some ⟨b, 0, none⟩)] w fun e w' => e = .returned (.string (bs l)) ∧ Below B w w' :=
  Any.Builder_String_any Tryd.lstring stringExtra B b l w h hBw
theorem builder_old {T e : TypeId} {B b : Nat} {xs : List Value} {w w' : World} (h : Lib.IsBuilder T e B b xs w) (hb : Below w.heap.size w w') : Lib.IsBuilder T e B b xs w' := by
  have one : ∀ p, Lib.BuilderAt T e B b p xs w → Lib.BuilderAt T e B b p xs w' := by
    rintro p ⟨h1, v, h2, h3, h4⟩
    have hlt : b < w.heap.size := (Array.getElem?_eq_some_iff.1 h2).1
    exact ⟨h1, v, (hb.block b hlt).trans h2, h3.kept (gb_of_below hb none) (by
      cases hv : v.ownBlock with
      | none => exact .inl rfl
      | some g => exact .inr (by simp)), h4⟩
  rcases h with h | h
  · exact .inl (one _ h)
  · exact .inr (one _ h)
theorem strCells_eq (s : ByteArray) : Lib.strCells s = Lib.byteCells s.data.toList := rfl
theorem cells_app (a b : List UInt8) : Lib.byteCells a ++ Lib.strCells (bs b) = Lib.byteCells (a ++ b) := by rw [strCells_eq, bs_list, ← Lib.byteCells_append]
end
end Go.Proofs.YtenbdnkipkfpkaaDoor
