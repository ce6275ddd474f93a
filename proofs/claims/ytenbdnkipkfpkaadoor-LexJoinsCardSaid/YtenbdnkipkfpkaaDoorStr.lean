/- Texts as lists of bytes. No layer's own. -/
import Derived.Test.YtenbdnkipkfpkaaDoorGen7
import Derived.Test.YtenbdnkipkfpkaaDoorObj7
import Derived.Laws.OwnMore
import Derived.Lib.AppendZeros
namespace Go.Proofs.YtenbdnkipkfpkaaDoor
open Go.RowKit Go.Maps Go.ChangeMaps Go.MapKept
def bs (l : List UInt8) : ByteArray := ⟨l.toArray⟩
theorem bs_size (l : List UInt8) : (bs l).size = l.length := by rw [Lib.size_eq]; rfl
theorem bs_list (l : List UInt8) : (bs l).data.toList = l := rfl
theorem bs_toList (l : List UInt8) : (bs l).toList = l := Lib.toList_data _
theorem bs_of (s : ByteArray) : bs s.data.toList = s := Lib.mk_data s
theorem bs_extract (l : List UInt8) (a b : Nat) : (bs l).extract a b = bs ((l.drop a).take (b - a)) := Lib.extract_eq _ a b
theorem bs_append (a b : List UInt8) : bs a ++ bs b = bs (a ++ b) := ByteArray.mk_append_mk a b
theorem bs_inj {a b : List UInt8} (h : bs a = bs b) : a = b := by have := congrArg ByteArray.toList h; rwa [bs_toList, bs_toList] at this
theorem bs_get {l : List UInt8} {k : Nat} {c : UInt8} (h : l[k]? = some c) : ∃ h : k < (bs l).size, (bs l)[k]'h = c := by
  obtain ⟨h1, h2⟩ := List.getElem?_eq_some_iff.1 h
  exact ⟨by rw [bs_size]; exact h1, by rw [← h2]; rfl⟩
theorem ret_string {a b : ByteArray} (h : a = b) : Ending.returned (.string a) = .returned (.string b) := by rw [h]
theorem empty_yes : (bs ([] : List UInt8)).toList.isEmpty = true := by rw [bs_toList]; rfl
theorem empty_no {t : List UInt8} (h : t ≠ []) : (bs t).toList.isEmpty = false := by
  rw [bs_toList]; cases t with
  | nil => exact (h rfl).elim
  | cons x y => rfl
theorem str_ne {a b : List UInt8} (h : a ≠ b) : ((bs a).toList == (bs b).toList) = false := by
  rw [bs_toList, bs_toList]; exact beq_eq_false_iff_ne.2 h
theorem byte_eq {a b : UInt8} (h : a.toNat = b.toNat) : a = b := UInt8.toNat_inj.1 h
theorem drewN_below (w : World) (n : Nat) : Below w.heap.size w (w.drewN n) := ⟨rfl, rfl, rfl, Nat.le_refl _, fun _ _ => rfl⟩
theorem below_grown {w w1 w' : World} {row : Option Nat} (hb : Below w.heap.size w w1) (hg : w1.grownBy w' row) (hr : ∀ x, row = some x → w.heap.size ≤ x) : Below w.heap.size w w' :=
  ⟨hg.os.trans hb.os, hg.tape.trans hb.tape, hg.output.trans hb.output, Nat.le_trans hb.size hg.size, fun x hx => by
    have hs := hb.size
    rw [hg.block x (by omega) (fun e => by have := hr x e.symm; omega), hb.block x hx]⟩
end Go.Proofs.YtenbdnkipkfpkaaDoor
