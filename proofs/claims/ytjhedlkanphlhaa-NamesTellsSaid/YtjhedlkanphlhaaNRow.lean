/-
  What an argument that is a list of strings gives a walk: the list that it stands for, and where it lies.
  Conditions: the argument was read through by the statement's own reading.
-/
import Derived.Test.YtjhedlkanphlhaaGen
import Derived.Test.YtjhedlkanphlhaaRows
import Derived.ProofKit
import Derived.OpenShut
import Derived.ShutString
import Derived.Deep.Slices
import Derived.ChangeSlices
import Derived.SliceStrings
import Derived.Carry
namespace Go.Proofs.Ytjhedlkanphlhaa
open Go.ChangeShapes Go.WideShapes Go.ChangeAt Go.RowKit

theorem own : ownKnob Try.prog.godebug = none := by kernel_rfl
theorem laidOut : laidOutB Try.prog = true := by kernel_rfl
theorem cellsStr : Try.prog.cellsOf 9 = 1 := by kernel_rfl
theorem i64_of_wf {x : Int} (h : (Lit.int .i64 x).wf = true) : I64 x := by
  simp [Lit.wf, IntKind.min, IntKind.max, IntKind.signed, IntKind.bits] at h
  exact ⟨by omega, by omega⟩

section
variable {H : Type} {enc : TypeId × Value → H} {W : World} {fuel : Nat}
theorem texts_of {c : Value} {x : DataW H × List MemPlace} (h : DataW.trod enc Try.prog W 0 (fun _ => true) true fuel 22 [c] = some x) : ∃ ts, TextsAt W c ts := by
  rcases open_strings Try.underlying22 Try.underlying9 cellsStr h with ⟨hc, _⟩ | ⟨a, len, cap, zs, hc, _, hl, _, hz, _, hcell, _⟩
  · simp only [List.cons.injEq, and_true] at hc
    subst hc
    exact ⟨[], none, 0, rfl, fun k u hk => by simp [strVs] at hk⟩
  · simp only [List.cons.injEq, and_true] at hc
    subst hc
    simp only [if_true] at hz
    have hlen : (strVs (zs.take len)).length = len := by rw [strVs_length, List.length_take]; omega
    refine ⟨zs.take len, some a, cap, by rw [hlen], fun k u hk => ?_⟩
    have hkl : k < len := by have := (List.getElem?_eq_some_iff.1 hk).1; omega
    have h0 := hcell 0 (by omega)
    obtain ⟨b, off, spot⟩ := a
    have hs : spot = none := by simpa [Addr.add] using World.cell?_spot h0
    subst hs
    refine ⟨b, off, rfl, ?_⟩
    have hk2 := hcell k (by omega)
    rw [Lib.add_plain] at hk2
    rw [hk2]
    unfold strVs at hk
    rw [List.getElem?_map, List.getElem?_take_of_lt hkl, List.getElem?_eq_getElem (by omega)] at hk
    rw [List.getD_eq_getElem?_getD, List.getElem?_eq_getElem (by omega)]
    exact hk
set_option maxRecDepth 100000 in
theorem texts_open {base : Nat} {v : Value} {d : DataW H} {p : List MemPlace} (hv : Value.okWide Try.prog W .any base 22 v) (h : DataW.Trod enc Try.prog W 0 (fun _ => true) true 22 v d p) :
    ∃ ts, TextsAt W v ts := by
  obtain ⟨a, len, cap, rfl⟩ := okWide_slice Try.underlying22 hv
  obtain ⟨fuel, hf⟩ := h
  exact texts_of hf
end
theorem rdT : Try.prog.readableRec 22 = true := by kernel_rfl
theorem rowT : 22 < Try.prog.types.size := by decide +kernel
end Go.Proofs.Ytjhedlkanphlhaa
