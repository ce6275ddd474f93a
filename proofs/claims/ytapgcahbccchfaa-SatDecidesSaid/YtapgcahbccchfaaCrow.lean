/-
  What an argument gives a walk: the clauses, the numbers, the truth values that it stands for, and where they lie.
  Conditions: the argument was read through by the statement's own reading.
-/
import Derived.Test.YtapgcahbccchfaaSTells
import Derived.Test.YtapgcahbccchfaaRows
import Derived.ProofKit
import Derived.OpenShut
import Derived.Deep.Slices
import Derived.Deep.Grids
import Derived.ChangeSlices
import Derived.SizedLaws
import Derived.Carry
namespace Go.Proofs.Ytapgcahbccchfaa
open Go.ChangeShapes Go.WideShapes Go.ChangeAt Go.RowKit
open St

theorem own : ownKnob Try.prog.godebug = none := by kernel_rfl
theorem laidOut : laidOutB Try.prog = true := by kernel_rfl
theorem cellsI : Try.prog.cellsOf 3 = 1 := by kernel_rfl
theorem cellsB : Try.prog.cellsOf 4 = 1 := by kernel_rfl
theorem cellsC : Try.prog.cellsOf 40 = 2 := by kernel_rfl

theorem i64_of {x : Int} (h : (Lit.int .i64 x).wf = true) : I64 x := by
  simp [Lit.wf, IntKind.min, IntKind.max, IntKind.signed, IntKind.bits] at h
  unfold I64
  omega
section
variable {H : Type} {enc : TypeId × Value → H} {W : World} {fuel : Nat}
set_option maxRecDepth 100000 in
theorem nums_of {c : Value} {y : DataW H × List MemPlace} (h : DataW.trod enc Try.prog W 0 (fun _ => true) true fuel 24 [c] = some y) : ∃ xs, NumsAt W c xs := by
  rcases open_ints Try.underlying24 Try.underlying3 cellsI h with ⟨hc, _⟩ | ⟨a, len, cap, zs, hc, _, hl, _, hzl, _, hcell, hwf⟩
  · simp only [List.cons.injEq, and_true] at hc
    subst hc
    exact ⟨[], NumsAt.nil W⟩
  · simp only [List.cons.injEq, and_true] at hc
    subst hc
    simp only [if_true] at hzl
    have hlen : (zs.take len).length = len := by rw [List.length_take]; omega
    refine ⟨zs.take len, some a, cap, by rw [hlen], ⟨by omega, fun e => by cases e⟩, fun k u hk => ?_⟩
    have hkl : k < len := by have := (List.getElem?_eq_some_iff.1 hk).1; omega
    have h0 := hcell 0 (by omega)
    obtain ⟨b, off, spot⟩ := a
    have hs : spot = none := by simpa [Addr.add] using World.cell?_spot h0
    subst hs
    refine ⟨b, off, rfl, ?_⟩
    have hk2 := hcell k (by omega)
    rw [Lib.add_plain] at hk2
    rw [hk2]
    rw [List.getElem?_take_of_lt hkl, List.getElem?_eq_getElem (by omega)] at hk
    rw [List.getD_eq_getElem?_getD, List.getElem?_eq_getElem (by omega)]
    cases hk
    rfl
set_option maxRecDepth 100000 in
theorem clause_cells {cs : List Value} {y : DataW H × List MemPlace} (h : DataW.trod enc Try.prog W 0 (fun _ => true) true fuel 40 cs = some y) :
    ∃ q : Cl, cs = [.int .i64 q.1, .int .i64 q.2] := by
  obtain ⟨xs, n, _, _, hl, hlen, hf⟩ := DataW.trod_struct Try.underlying40 h
  rw [cellsC] at hl
  match cs, hl, xs, hlen with
  | [c0, c1], _, [y0, y1], _ =>
    have t0 : DataW.trod enc Try.prog W 0 (fun _ => true) true n 3 [c0] = some y0 := by simpa [cellsI] using hf 0 _ rfl
    have t1 : DataW.trod enc Try.prog W 0 (fun _ => true) true n 3 [c1] = some y1 := by simpa [cellsI] using hf 1 _ rfl
    obtain ⟨K, hK, _, _⟩ := DataW.trod_int Try.underlying3 t0
    obtain ⟨F, hF, _, _⟩ := DataW.trod_int Try.underlying3 t1
    simp only [List.cons.injEq, and_true] at hK hF
    subst hK; subst hF
    exact ⟨(K, F), rfl⟩
set_option maxRecDepth 100000 in
theorem clauses_of {c : Value} {y : DataW H × List MemPlace} (h : DataW.trod enc Try.prog W 0 (fun _ => true) true fuel 22 [c] = some y) : ∃ xs, ClAt W c xs := by
  rcases Go.Deep.open_slice Try.underlying22 h with ⟨hc, _⟩ | ⟨a, len, cap, m, n, D, Pl, hc, _, hl, hmx, hm, _, hx⟩
  · simp only [List.cons.injEq, and_true] at hc
    subst hc
    exact ⟨[], ClAt.nil W⟩
  · simp only [List.cons.injEq, and_true] at hc
    subst hc
    simp only [if_true] at hm
    subst hm
    have each : ∀ i : Nat, ∃ q : Cl, i < len → ∀ j, j < 2 → W.cell? (a.add (i * 2 + j)) = #[Value.int .i64 q.1, .int .i64 q.2][j]? := by
      intro i
      by_cases hi : i < len
      · obtain ⟨cs', h1, h2⟩ := hx i (by omega)
        rw [cellsC] at h1
        obtain ⟨_, _, hcell⟩ := World.cells?_some h1
        obtain ⟨q, hc⟩ := clause_cells h2
        refine ⟨q, fun _ j hj => ?_⟩
        have := hcell j hj
        rw [Go.Deep.add_add] at this
        rw [this, hc]
        simp
      · exact ⟨(0, 0), fun h => absurd h hi⟩
    obtain ⟨f, hf⟩ := Classical.axiomOfChoice each
    have hlen : ((List.range len).map f).length = len := by simp
    refine ⟨(List.range len).map f, ⟨some a, m, by rw [hlen], ⟨by rw [hlen]; exact hl, fun e => by cases e⟩, fun k o hk => ?_⟩⟩
    obtain ⟨hk', rfl⟩ := List.getElem?_eq_some_iff.1 hk
    rw [hlen] at hk'
    obtain ⟨b, off, spot⟩ := a
    have c0 := (hf 0 (by omega) 0 (by omega)).trans (show _ = some _ from rfl)
    have hs : spot = none := by simpa [Addr.add] using World.cell?_spot c0
    subst hs
    have hc0 := hf k hk'
    simp only [Lib.add_plain] at hc0
    simp only [List.getElem_map, List.getElem_range]
    exact ⟨b, off, rfl, hc0 0 (by omega), hc0 1 (by omega)⟩
set_option maxRecDepth 100000 in
theorem clauses_open {base : Nat} {v : Value} {d : DataW H} {p : List MemPlace} (hv : Value.okWide Try.prog W .any base 22 v) (h : DataW.Trod enc Try.prog W 0 (fun _ => true) true 22 v d p) : ∃ xs, ClAt W v xs := by
  obtain ⟨a, len, cap, rfl⟩ := okWide_slice Try.underlying22 hv
  obtain ⟨fuel, hf⟩ := h
  exact clauses_of hf
set_option maxRecDepth 100000 in
theorem bools_of {c : Value} {y : DataW H × List MemPlace} (h : DataW.trod enc Try.prog W 0 (fun _ => true) true fuel 23 [c] = some y) : ∃ xs, BoolsAt W c xs := by
  rcases Go.Deep.open_bools Try.underlying23 Try.underlying4 cellsB h with ⟨hc, _⟩ | ⟨a, len, cap, B, hc, _, hl, _, _, hcell⟩
  · simp only [List.cons.injEq, and_true] at hc
    subst hc
    exact ⟨[], BoolsAt.nil W⟩
  · simp only [List.cons.injEq, and_true] at hc
    subst hc
    have hlen : ((List.range len).map B).length = len := by simp
    refine ⟨(List.range len).map B, some a, cap, by rw [hlen], ⟨by rw [hlen]; exact hl, fun e => by cases e⟩, fun k u hk => ?_⟩
    obtain ⟨hk', rfl⟩ := List.getElem?_eq_some_iff.1 hk
    rw [hlen] at hk'
    have h0 := hcell 0 (by omega)
    obtain ⟨b, off, spot⟩ := a
    have hs : spot = none := by simpa [Addr.add] using World.cell?_spot h0
    subst hs
    refine ⟨b, off, rfl, ?_⟩
    have hk2 := hcell k (by omega)
    rw [Lib.add_plain] at hk2
    rw [hk2]
    simp
set_option maxRecDepth 100000 in
theorem bools_open {base : Nat} {v : Value} {d : DataW H} {p : List MemPlace} (hv : Value.okWide Try.prog W .any base 23 v) (h : DataW.Trod enc Try.prog W 0 (fun _ => true) true 23 v d p) : ∃ xs, BoolsAt W v xs := by
  obtain ⟨a, len, cap, rfl⟩ := okWide_slice Try.underlying23 hv
  obtain ⟨fuel, hf⟩ := h
  exact bools_of hf
set_option maxRecDepth 100000 in
theorem nums_open {base : Nat} {v : Value} {d : DataW H} {p : List MemPlace} (hv : Value.okWide Try.prog W .any base 24 v) (h : DataW.Trod enc Try.prog W 0 (fun _ => true) true 24 v d p) : ∃ xs, NumsAt W v xs := by
  obtain ⟨a, len, cap, rfl⟩ := okWide_slice Try.underlying24 hv
  obtain ⟨fuel, hf⟩ := h
  exact nums_of hf
set_option maxRecDepth 100000 in
theorem clause_open {base : Nat} {v : Value} {d : DataW H} {p : List MemPlace} (hv : Value.okWide Try.prog W .any base 40 v) (h : DataW.Trod enc Try.prog W 0 (fun _ => true) true 40 v d p) :
    ∃ q : Cl, v = .agg #[.int .i64 q.1, .int .i64 q.2] := by
  obtain ⟨⟨cs⟩, rfl, _⟩ := okWide_struct Try.underlying40 hv
  obtain ⟨fuel, hf⟩ := h
  obtain ⟨q, hc⟩ := clause_cells hf
  have hc : cs = _ := hc
  subst hc
  exact ⟨q, rfl⟩
end
theorem rdC : Try.prog.readableRec 22 = true := by kernel_rfl
theorem rowC : 22 < Try.prog.types.size := by decide +kernel
theorem rdI : Try.prog.readableRec 24 = true := by kernel_rfl
theorem rowI : 24 < Try.prog.types.size := by decide +kernel
theorem rdB : Try.prog.readableRec 23 = true := by kernel_rfl
theorem rowB : 23 < Try.prog.types.size := by decide +kernel
theorem rdM : Try.prog.readableRec 40 = true := by kernel_rfl
theorem rowM : 40 < Try.prog.types.size := by decide +kernel
end Go.Proofs.Ytapgcahbccchfaa
