/- What the listed package-level variables give the walks, and one start that meets them. -/
import Derived.Test.YtjbcgahdiolhhaaDoorRows
import Derived.Test.YtjbcgahdiolhhaaDoorBase
import Derived.ProofKit
import Derived.LaidMore
import Derived.OpenShut
import Derived.ShutString
import Derived.Stop.Joined
import Derived.Stop.LaidErr
import Derived.Lib.LaidTab
import Derived.MakeChecks
namespace Go.Proofs.YtjbcgahdiolhhaaDoor
open Go.ChangeShapes Go.WideShapes Go.ChangeAt Go.RowKit

theorem own : ownKnob Tryd.prog.godebug = none := by kernel_rfl
/-- The variables as every row of this seat lists them. -/
def laidList : List (String × DataW Unit) := Rows.journalReadsRow.laid

theorem door_met (os : Os) (args : Array Value) : laidMetH Tryd.prog laidList ((World.doorLaid Tryd.prog 4000 os).forCall (fun _ _ => 0) ⟨#[], args, []⟩).memory := by
  rw [MakeChecks.laidMetH_plain _ _ _ (by kernel_rfl)]
  exact laidMet_of_run' 8 (by kernel_rfl) (by kernel_rfl)

theorem gTabType : (Tryd.prog.globals[0]?).map (·.type) = some 105 := by kernel_rfl
theorem gSynType : (Tryd.prog.globals[2]?).map (·.type) = some 86 := by kernel_rfl
theorem gRngType : (Tryd.prog.globals[3]?).map (·.type) = some 86 := by kernel_rfl
theorem cellsU : Tryd.prog.cellsOf 93 = 1 := by kernel_rfl
theorem cellsTab : Tryd.prog.cellsOf 105 = 20 := by kernel_rfl
theorem cellsErr : Tryd.prog.cellsOf 120 = 1 := by kernel_rfl
theorem cellsStr : Tryd.prog.cellsOf 9 = 1 := by kernel_rfl
theorem star : "*" ++ "errors.errorString" = "*errors.errorString" := by decide
theorem rowErr (u : TypeId) (h : Tryd.prog.typeName? 3 u = some "*errors.errorString") : u = 118 :=
  typeName_ptr_named (nm := "errors.errorString") (by rw [star]; kernel_rfl) (by kernel_rfl) (by decide) u (by rw [star]; exact h)

theorem tabEq : (Rows.laid_internal_strconv_uint64pow10 : DataW Unit) = Lib.tabData .u64 Lib.pow10Tab := by
  have h : Lib.pow10Tab = [1, 10, 100, 1000, 10000, 100000, 1000000, 10000000, 100000000, 1000000000, 10000000000, 100000000000, 1000000000000, 10000000000000, 100000000000000, 1000000000000000, 10000000000000000, 100000000000000000, 1000000000000000000, 10000000000000000000] := by decide +kernel
  unfold Rows.laid_internal_strconv_uint64pow10 Lib.tabData
  rw [h]
  rfl

theorem lt_of_var {w : World} {n : String} {g : Nat} {cs : Array Value} (hg : Tryd.prog.globalNamed n = some g) (h : w.var? Tryd.prog n = some cs) : g < w.heap.size := by
  unfold World.var? at h
  simp only [hg, Option.bind_some] at h
  rcases Nat.lt_or_ge g w.heap.size with h' | h'
  · exact h'
  · simp [Array.getElem?_eq_none h'] at h

theorem env_of_laid {W : World} (h : laidMetH Tryd.prog laidList W) : Env W := by
  rw [MakeChecks.laidMetH_plain _ _ _ (by kernel_rfl)] at h
  have h : laidMet Tryd.prog [("math/bits.deBruijn32tab", Rows.laid_math_bits_deBruijn32tab), ("math/bits.deBruijn64tab", Rows.laid_math_bits_deBruijn64tab), ("internal/strconv.uint64pow10", Rows.laid_internal_strconv_uint64pow10), ("strconv.ErrRange", Rows.laid_strconv_ErrRange), ("strconv.ErrSyntax", Rows.laid_strconv_ErrSyntax)] W := h
  have h64 := h.tail
  obtain ⟨_, ⟨g5, _, cs5, _, _, _, hg5, _, hv5, _⟩, _⟩ := h64
  have h5 : g5 = 5 := Option.some.inj (hg5.symm.trans (by kernel_rfl))
  have ht := h.tail.tail
  rw [tabEq] at ht
  have htab := Lib.tabIs_of_head gTab gTabType Tryd.underlying105 Tryd.underlying93 cellsU cellsTab ht
  obtain ⟨a1, _, hv1, _⟩ := laid_sentinel ht.tail gRng gRngType Tryd.underlying86 rowErr Tryd.underlying118 Tryd.underlying120 rfl rfl Tryd.underlying9 cellsErr cellsStr
  obtain ⟨a2, _, hv2, _⟩ := laid_sentinel ht.tail.tail gSyn gSynType Tryd.underlying86 rowErr Tryd.underlying118 Tryd.underlying120 rfl rfl Tryd.underlying9 cellsErr cellsStr
  refine ⟨htab, ⟨_, _, hv2⟩, ⟨_, _, hv1⟩, ?_⟩
  have := lt_of_var hg5 hv5
  subst h5
  unfold G0
  omega
end Go.Proofs.YtjbcgahdiolhhaaDoor
