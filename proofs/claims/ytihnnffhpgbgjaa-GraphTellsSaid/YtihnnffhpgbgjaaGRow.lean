/-
  What an argument gives a walk: the nodes, the numbers that it stands for, and where they lie.
  Conditions: the argument was read through by the statement's own reading.
-/
import Derived.Test.YtihnnffhpgbgjaaPapi
import Derived.Test.YtihnnffhpgbgjaaRows
import Derived.ProofKit
import Derived.OpenShut
import Derived.Deep.Slices
import Derived.ChangeSlices
import Derived.SizedLaws
import Derived.Carry
namespace Go.Proofs.Ytihnnffhpgbgjaa
open Go.ChangeShapes Go.WideShapes Go.ChangeAt Go.RowKit
open Gp

theorem own : ownKnob Try.prog.godebug = none := by kernel_rfl
theorem laidOut : laidOutB Try.prog = true := by kernel_rfl
theorem cellsI : Try.prog.cellsOf 3 = 1 := by kernel_rfl
theorem cellsIs : Try.prog.cellsOf 23 = 1 := by kernel_rfl
theorem cellsN : Try.prog.cellsOf 32 = 2 := by kernel_rfl

section
variable {H : Type} {enc : TypeId × Value → H} {W : World} {fuel : Nat}
set_option maxRecDepth 100000 in
theorem nums_of {c : Value} {y : DataW H × List MemPlace} (h : DataW.trod enc Try.prog W 0 (fun _ => true) true fuel 23 [c] = some y) : ∃ xs, NumsAt W c xs := by
  rcases open_ints Try.underlying23 Try.underlying3 cellsI h with ⟨hc, _⟩ | ⟨a, len, cap, zs, hc, _, hl, _, hzl, _, hcell, hwf⟩
  · simp only [List.cons.injEq, and_true] at hc
    subst hc
    exact ⟨[], NumsAt.nil W⟩
  · simp only [List.cons.injEq, and_true] at hc
    subst hc
    simp only [if_true] at hzl
    have hlen : (zs.take len).length = len := by rw [List.length_take]; omega
    refine ⟨zs.take len, some a, cap, by rw [hlen], ⟨by omega, fun e => by cases e⟩, fun k u hk => ?_⟩
    have hkl : k < len := by have := (List.getElem?_eq_some_iff.1 hk).1; omega
    have h0 := hcell 0 (by omega)
    obtain ⟨b, off, spot⟩ := a
    have hs : spot = none := by simpa [Addr.add] using World.cell?_spot h0
    subst hs
    refine ⟨b, off, rfl, ?_⟩
    have hk2 := hcell k (by omega)
    rw [Lib.add_plain] at hk2
    rw [hk2]
    rw [List.getElem?_take_of_lt hkl, List.getElem?_eq_getElem (by omega)] at hk
    rw [List.getD_eq_getElem?_getD, List.getElem?_eq_getElem (by omega)]
    cases hk
    rfl
set_option maxRecDepth 100000 in
theorem node_cells {cs : List Value} {y : DataW H × List MemPlace} (h : DataW.trod enc Try.prog W 0 (fun _ => true) true fuel 32 cs = some y) :
    ∃ (q : Nd) (pv : Value), cs = [.int .i64 q.1, pv] ∧ NumsAt W pv q.2 := by
  obtain ⟨xs, n, _, _, hl, hlen, hf⟩ := DataW.trod_struct Try.underlying32 h
  rw [cellsN] at hl
  match cs, hl, xs, hlen with
  | [c0, c1], _, [y0, y1], _ =>
    have t0 : DataW.trod enc Try.prog W 0 (fun _ => true) true n 3 [c0] = some y0 := by simpa [cellsI] using hf 0 _ rfl
    have t1 : DataW.trod enc Try.prog W 0 (fun _ => true) true n 23 [c1] = some y1 := by simpa [cellsI, cellsIs] using hf 1 _ rfl
    obtain ⟨K, hK, _, _⟩ := DataW.trod_int Try.underlying3 t0
    obtain ⟨l, hl⟩ := nums_of t1
    simp only [List.cons.injEq, and_true] at hK
    subst hK
    exact ⟨(K, l), c1, rfl, hl⟩
set_option maxRecDepth 100000 in
theorem nodes_of {c : Value} {y : DataW H × List MemPlace} (h : DataW.trod enc Try.prog W 0 (fun _ => true) true fuel 22 [c] = some y) : ∃ xs, NodesAt W c xs := by
  rcases Go.Deep.open_slice Try.underlying22 h with ⟨hc, _⟩ | ⟨a, len, cap, m, n, D, Pl, hc, _, hl, hmx, hm, _, hx⟩
  · simp only [List.cons.injEq, and_true] at hc
    subst hc
    exact ⟨[], none, 0, rfl, ⟨Nat.le_refl _, fun _ => rfl⟩, fun k n hk => by simp at hk⟩
  · simp only [List.cons.injEq, and_true] at hc
    subst hc
    simp only [if_true] at hm
    subst hm
    have each : ∀ i : Nat, ∃ q : Nd × Value, i < len → (∀ j, j < 2 → W.cell? (a.add (i * 2 + j)) = #[Value.int .i64 q.1.1, q.2][j]?) ∧ NumsAt W q.2 q.1.2 := by
      intro i
      by_cases hi : i < len
      · obtain ⟨cs', h1, h2⟩ := hx i (by omega)
        rw [cellsN] at h1
        obtain ⟨_, _, hcell⟩ := World.cells?_some h1
        obtain ⟨q, pv, hc, hn⟩ := node_cells h2
        refine ⟨(q, pv), fun _ => ⟨fun j hj => ?_, hn⟩⟩
        have := hcell j hj
        rw [Go.Deep.add_add] at this
        rw [this, hc]
        simp
      · exact ⟨((0, []), .slice none 0 0), fun h => absurd h hi⟩
    obtain ⟨f, hf⟩ := Classical.axiomOfChoice each
    have hlen : ((List.range len).map fun i => (f i).1).length = len := by simp
    refine ⟨(List.range len).map fun i => (f i).1, ⟨some a, m, by rw [hlen], ⟨by rw [hlen]; exact hl, fun e => by cases e⟩, fun k o hk => ?_⟩⟩
    obtain ⟨hk', rfl⟩ := List.getElem?_eq_some_iff.1 hk
    rw [hlen] at hk'
    obtain ⟨b, off, spot⟩ := a
    have c0 := ((hf 0 (by omega)).1 0 (by omega)).trans (show _ = some _ from rfl)
    have hs : spot = none := by simpa [Addr.add] using World.cell?_spot c0
    subst hs
    have hc0 := (hf k hk').1
    simp only [Lib.add_plain] at hc0
    simp only [List.getElem_map, List.getElem_range]
    exact ⟨b, off, (f k).2, rfl, hc0 0 (by omega), hc0 1 (by omega), (hf k hk').2⟩
set_option maxRecDepth 100000 in
theorem nodes_open {base : Nat} {v : Value} {d : DataW H} {p : List MemPlace} (hv : Value.okWide Try.prog W .any base 22 v) (h : DataW.Trod enc Try.prog W 0 (fun _ => true) true 22 v d p) : ∃ xs, NodesAt W v xs := by
  obtain ⟨a, len, cap, rfl⟩ := okWide_slice Try.underlying22 hv
  obtain ⟨fuel, hf⟩ := h
  exact nodes_of hf
set_option maxRecDepth 100000 in
theorem nums_open {base : Nat} {v : Value} {d : DataW H} {p : List MemPlace} (hv : Value.okWide Try.prog W .any base 23 v) (h : DataW.Trod enc Try.prog W 0 (fun _ => true) true 23 v d p) : ∃ xs, NumsAt W v xs := by
  obtain ⟨a, len, cap, rfl⟩ := okWide_slice Try.underlying23 hv
  obtain ⟨fuel, hf⟩ := h
  exact nums_of hf
set_option maxRecDepth 100000 in
theorem node_open {base : Nat} {v : Value} {d : DataW H} {p : List MemPlace} (hv : Value.okWide Try.prog W .any base 32 v) (h : DataW.Trod enc Try.prog W 0 (fun _ => true) true 32 v d p) :
    ∃ (q : Nd) (pv : Value), v = .agg #[.int .i64 q.1, pv] ∧ NumsAt W pv q.2 := by
  obtain ⟨⟨cs⟩, rfl, _⟩ := okWide_struct Try.underlying32 hv
  obtain ⟨fuel, hf⟩ := h
  obtain ⟨q, pv, hc, hn⟩ := node_cells hf
  have hc : cs = _ := hc
  subst hc
  exact ⟨q, pv, rfl, hn⟩
end
theorem rdN : Try.prog.readableRec 22 = true := by kernel_rfl
theorem rowN : 22 < Try.prog.types.size := by decide +kernel
theorem rdI : Try.prog.readableRec 23 = true := by kernel_rfl
theorem rowI : 23 < Try.prog.types.size := by decide +kernel
theorem rdM : Try.prog.readableRec 32 = true := by kernel_rfl
theorem rowM : 32 < Try.prog.types.size := by decide +kernel
end Go.Proofs.Ytihnnffhpgbgjaa
