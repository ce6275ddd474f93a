/- What the listed package-level variables give the walks of layer 10 (strconv's table alone), and one start that meets them. -/
import Derived.Test.YtbjligjmckilcaaDoorWrow
import Derived.Test.YtbjligjmckilcaaDoorCards
import Derived.Test.YtbjligjmckilcaaDoorTie
import Derived.SevenTiedAt
import Derived.SliceStrings
import Derived.LaidMore
import Derived.Stop.Joined
import Derived.Stop.LaidErr
import Derived.Lib.LaidTab
import Derived.MakeChecks
import Derived.Lay
namespace Go.Proofs.YtbjligjmckilcaaDoor
open Go.ChangeShapes Go.WideShapes Go.ChangeAt Go.RowKit

def G0 : Nat := 4 + 1
structure Env (w : World) : Prop where
  tab : Lib.TabIs Tryd.prog w "internal/strconv.uint64pow10" .u64 Lib.pow10Tab
  size : G0 ≤ w.heap.size
theorem gTab : Tryd.prog.globalNamed "internal/strconv.uint64pow10" = some 4 := by kernel_rfl
theorem Env.keep {w w' : World} (h : Env w) (hb : Below w.heap.size w w') : Env w' :=
  ⟨var?_below hb gTab (by have := h.size; unfold G0 at this; omega) h.tab, Nat.le_trans h.size hb.size⟩
/-- The variables as every row of this seat lists them. -/
def laidList : List (String × DataW Unit) := Rows.wordsTellsRow.laid
theorem door_met (os : Os) (args : Array Value) : laidMetH Tryd.prog laidList ((World.laidAll Tryd.prog os laidList).forCall (fun _ _ => 0) ⟨#[], args, []⟩).memory := by
  rw [MakeChecks.laidMetH_plain _ _ _ (by kernel_rfl)]
  exact laidMet_laidAll _ (by kernel_rfl) (by kernel_rfl)
theorem gTabType : (Tryd.prog.globals[4]?).map (·.type) = some 99 := by kernel_rfl
theorem cellsU : Tryd.prog.cellsOf 83 = 1 := by kernel_rfl
theorem cellsTab : Tryd.prog.cellsOf 99 = 20 := by kernel_rfl
theorem tabEq : (Rows.laid_internal_strconv_uint64pow10 : DataW Unit) = Lib.tabData .u64 Lib.pow10Tab := by
  have h : Lib.pow10Tab = [1, 10, 100, 1000, 10000, 100000, 1000000, 10000000, 100000000, 1000000000, 10000000000, 100000000000, 1000000000000, 10000000000000, 100000000000000, 1000000000000000, 10000000000000000, 100000000000000000, 1000000000000000000, 10000000000000000000] := by decide +kernel
  unfold Rows.laid_internal_strconv_uint64pow10 Lib.tabData
  rw [h]
  rfl

theorem lt_of_var {w : World} {n : String} {g : Nat} {cs : Array Value} (hg : Tryd.prog.globalNamed n = some g) (h : w.var? Tryd.prog n = some cs) : g < w.heap.size := by
  unfold World.var? at h
  simp only [hg, Option.bind_some] at h
  rcases Nat.lt_or_ge g w.heap.size with h' | h'
  · exact h'
  · simp [Array.getElem?_eq_none h'] at h

theorem env_of_laid {W : World} (h : laidMetH Tryd.prog laidList W) : Env W := by
  rw [MakeChecks.laidMetH_plain _ _ _ (by kernel_rfl)] at h
  have h : laidMet Tryd.prog [("math/bits.deBruijn32tab", Rows.laid_math_bits_deBruijn32tab), ("math/bits.deBruijn64tab", Rows.laid_math_bits_deBruijn64tab), ("internal/strconv.uint64pow10", Rows.laid_internal_strconv_uint64pow10), ("unicode/utf8.acceptRanges", Rows.laid_unicode_utf8_acceptRanges), ("unicode.CaseRanges", Rows.laid_unicode_CaseRanges), ("unicode/utf8.first", Rows.laid_unicode_utf8_first)] W := h
  have ht := h.tail.tail
  obtain ⟨_, ⟨g5, _, cs5, _, _, _, hg5, _, hv5, _⟩, _⟩ := ht
  have h5 : g5 = 4 := Option.some.inj (hg5.symm.trans (by kernel_rfl))
  have ht := h.tail.tail
  rw [tabEq] at ht
  have htab := Lib.tabIs_of_head gTab gTabType Tryd.underlying99 Tryd.underlying83 cellsU cellsTab ht
  refine ⟨htab, ?_⟩
  have := lt_of_var hg5 hv5
  subst h5
  unfold G0
  omega
end Go.Proofs.YtbjligjmckilcaaDoor
