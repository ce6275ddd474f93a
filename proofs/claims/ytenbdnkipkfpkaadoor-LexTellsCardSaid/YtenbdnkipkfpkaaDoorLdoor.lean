/- What the listed package-level variables give the walks of layer 11 (strconv's table and its two errors), and one start that meets them. -/
import Derived.Test.YtenbdnkipkfpkaaDoorLrow
import Derived.Test.YtenbdnkipkfpkaaDoorCards
import Derived.Test.YtenbdnkipkfpkaaDoorTie
import Derived.SevenTiedAt
import Derived.SliceStrings
import Derived.LaidMore
import Derived.Stop.Joined
import Derived.Stop.LaidErr
import Derived.Lib.LaidTab
import Derived.MakeChecks
namespace Go.Proofs.YtenbdnkipkfpkaaDoor
open Go.ChangeShapes Go.WideShapes Go.ChangeAt Go.RowKit

/-- Their blocks lie below this one. -/
def G0 : Nat := 2 + 0 + 1 + 1
structure Env (w : World) : Prop where
  tab : Lib.TabIs Tryd.prog w "internal/strconv.uint64pow10" .u64 Lib.pow10Tab
  syn : ∃ tp p, w.var? Tryd.prog "strconv.ErrSyntax" = some #[.iface tp p]
  rng : ∃ tp p, w.var? Tryd.prog "strconv.ErrRange" = some #[.iface tp p]
  size : G0 ≤ w.heap.size
theorem gTab : Tryd.prog.globalNamed "internal/strconv.uint64pow10" = some 2 := by kernel_rfl
theorem gSyn : Tryd.prog.globalNamed "strconv.ErrSyntax" = some 0 := by kernel_rfl
theorem gRng : Tryd.prog.globalNamed "strconv.ErrRange" = some 1 := by kernel_rfl
theorem Env.keep {w w' : World} (h : Env w) (hb : Below w.heap.size w w') : Env w' := by
  obtain ⟨tp, p, h1⟩ := h.syn
  obtain ⟨tq, q, h2⟩ := h.rng
  have hs := h.size
  exact ⟨var?_below hb gTab (by unfold G0 at hs; omega) h.tab, ⟨tp, p, var?_below hb gSyn (by unfold G0 at hs; omega) h1⟩, ⟨tq, q, var?_below hb gRng (by unfold G0 at hs; omega) h2⟩, Nat.le_trans h.size hb.size⟩
/-- The variables as every row of this seat lists them. -/
def laidList : List (String × DataW Unit) := Rows.lexTellsRow.laid

theorem door_met (os : Os) (args : Array Value) : laidMetH Tryd.prog laidList ((World.doorLaid Tryd.prog 4000 os).forCall (fun _ _ => 0) ⟨#[], args, []⟩).memory := by
  rw [MakeChecks.laidMetH_plain _ _ _ (by kernel_rfl)]
  exact laidMet_of_run' 8 (by kernel_rfl) (by kernel_rfl)

theorem gTabType : (Tryd.prog.globals[2]?).map (·.type) = some 81 := by kernel_rfl
theorem gSynType : (Tryd.prog.globals[0]?).map (·.type) = some 42 := by kernel_rfl
theorem gRngType : (Tryd.prog.globals[1]?).map (·.type) = some 42 := by kernel_rfl
theorem cellsU : Tryd.prog.cellsOf 63 = 1 := by kernel_rfl
theorem cellsTab : Tryd.prog.cellsOf 81 = 20 := by kernel_rfl
theorem cellsErr : Tryd.prog.cellsOf 78 = 1 := by kernel_rfl
theorem star : "*" ++ "errors.errorString" = "*errors.errorString" := by decide
theorem rowErr (u : TypeId) (h : Tryd.prog.typeName? 3 u = some "*errors.errorString") : u = 76 :=
  typeName_ptr_named (nm := "errors.errorString") (by rw [star]; kernel_rfl) (by kernel_rfl) (by decide) u (by rw [star]; exact h)

theorem tabEq : (Rows.laid_internal_strconv_uint64pow10 : DataW Unit) = Lib.tabData .u64 Lib.pow10Tab := by
  have h : Lib.pow10Tab = [1, 10, 100, 1000, 10000, 100000, 1000000, 10000000, 100000000, 1000000000, 10000000000, 100000000000, 1000000000000, 10000000000000, 100000000000000, 1000000000000000, 10000000000000000, 100000000000000000, 1000000000000000000, 10000000000000000000] := by decide +kernel
  unfold Rows.laid_internal_strconv_uint64pow10 Lib.tabData
  rw [h]
  rfl

theorem lt_of_var {w : World} {n : String} {g : Nat} {cs : Array Value} (hg : Tryd.prog.globalNamed n = some g) (h : w.var? Tryd.prog n = some cs) : g < w.heap.size := by
  unfold World.var? at h
  simp only [hg, Option.bind_some] at h
  rcases Nat.lt_or_ge g w.heap.size with h' | h'
  · exact h'
  · simp [Array.getElem?_eq_none h'] at h

theorem env_of_laid {W : World} (h : laidMetH Tryd.prog laidList W) : Env W := by
  rw [MakeChecks.laidMetH_plain _ _ _ (by kernel_rfl)] at h
  have h : laidMet Tryd.prog [("math/bits.deBruijn32tab", Rows.laid_math_bits_deBruijn32tab), ("math/bits.deBruijn64tab", Rows.laid_math_bits_deBruijn64tab), ("internal/strconv.uint64pow10", Rows.laid_internal_strconv_uint64pow10), ("strconv.ErrRange", Rows.laid_strconv_ErrRange), ("strconv.ErrSyntax", Rows.laid_strconv_ErrSyntax)] W := h
  have h64 := h.tail
  obtain ⟨_, ⟨g5, _, cs5, _, _, _, hg5, _, hv5, _⟩, _⟩ := h64
  have h5 : g5 = 4 := Option.some.inj (hg5.symm.trans (by kernel_rfl))
  have ht := h.tail.tail
  rw [tabEq] at ht
  have htab := Lib.tabIs_of_head gTab gTabType Tryd.underlying81 Tryd.underlying63 cellsU cellsTab ht
  obtain ⟨a1, _, hv1, _⟩ := laid_sentinel ht.tail gRng gRngType Tryd.underlying42 rowErr Tryd.underlying76 Tryd.underlying78 rfl rfl Tryd.underlying9 cellsErr cellsStr
  obtain ⟨a2, _, hv2, _⟩ := laid_sentinel ht.tail.tail gSyn gSynType Tryd.underlying42 rowErr Tryd.underlying76 Tryd.underlying78 rfl rfl Tryd.underlying9 cellsErr cellsStr
  refine ⟨htab, ⟨_, _, hv2⟩, ⟨_, _, hv1⟩, ?_⟩
  have := lt_of_var hg5 hv5
  subst h5
  unfold G0
  omega
end Go.Proofs.YtenbdnkipkfpkaaDoor
