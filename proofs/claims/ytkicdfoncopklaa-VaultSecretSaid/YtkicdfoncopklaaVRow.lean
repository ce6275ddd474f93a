/-
  What an argument that is a list of calls or of strings gives a walk: the list that it stands for, and where it lies.
  Conditions: the argument was read through by the statement's own reading.
-/
import Derived.Test.YtkicdfoncopklaaVDo
import Derived.Test.YtkicdfoncopklaaRows
import Derived.ProofKit
import Derived.OpenShut
import Derived.ShutString
import Derived.Deep.Slices
import Derived.ChangeSlices
import Derived.SliceStrings
import Derived.SizedLaws
import Derived.Carry
namespace Go.Proofs.Ytkicdfoncopklaa
open Go.ChangeShapes Go.WideShapes Go.ChangeAt Go.RowKit
open Vp

theorem own : ownKnob Try.prog.godebug = none := by kernel_rfl
theorem laidOut : laidOutB Try.prog = true := by kernel_rfl
theorem cellsStr : Try.prog.cellsOf 9 = 1 := by kernel_rfl
theorem cellsI : Try.prog.cellsOf 3 = 1 := by kernel_rfl
theorem cellsO : Try.prog.cellsOf 34 = 4 := by kernel_rfl
theorem i64_of_wf {x : Int} (h : (Lit.int .i64 x).wf = true) : I64 x := by
  simp [Lit.wf, IntKind.min, IntKind.max, IntKind.signed, IntKind.bits] at h
  exact ⟨by omega, by omega⟩

section
variable {H : Type} {enc : TypeId × Value → H} {W : World} {fuel : Nat}
set_option maxRecDepth 100000 in
theorem op_cells {cs : List Value} {y : DataW H × List MemPlace} (h : DataW.trod enc Try.prog W 0 (fun _ => true) true fuel 34 cs = some y) :
    ∃ x : VOp, cs = [.int .i64 x.do_, .int .i64 x.key, .int .i64 x.box, .string x.text] ∧ x.Ok := by
  obtain ⟨xs, n, _, _, hl, hlen, hf⟩ := DataW.trod_struct Try.underlying34 h
  rw [cellsO] at hl
  match cs, hl, xs, hlen with
  | [c0, c1, c2, c3], _, [y0, y1, y2, y3], _ =>
    have t0 : DataW.trod enc Try.prog W 0 (fun _ => true) true n 3 [c0] = some y0 := by simpa [cellsI] using hf 0 _ rfl
    have t1 : DataW.trod enc Try.prog W 0 (fun _ => true) true n 3 [c1] = some y1 := by simpa [cellsI] using hf 1 _ rfl
    have t2 : DataW.trod enc Try.prog W 0 (fun _ => true) true n 3 [c2] = some y2 := by simpa [cellsI] using hf 2 _ rfl
    have t3 : DataW.trod enc Try.prog W 0 (fun _ => true) true n 9 [c3] = some y3 := by simpa [cellsStr] using hf 3 _ rfl
    obtain ⟨K, hK, _, wK⟩ := DataW.trod_int Try.underlying3 t0
    obtain ⟨F, hF, _, wF⟩ := DataW.trod_int Try.underlying3 t1
    obtain ⟨N, hN, _, wN⟩ := DataW.trod_int Try.underlying3 t2
    obtain ⟨S, hS, _, _⟩ := DataW.trod_string Try.underlying9 t3
    simp only [List.cons.injEq, and_true] at hK hN hF hS
    subst hK; subst hN; subst hF; subst hS
    exact ⟨⟨K, F, N, S⟩, rfl, ⟨i64_of_wf wK, i64_of_wf wF, i64_of_wf wN⟩⟩
set_option maxRecDepth 100000 in
theorem ops_of {c : Value} {y : DataW H × List MemPlace} (h : DataW.trod enc Try.prog W 0 (fun _ => true) true fuel 22 [c] = some y) : ∃ xs, OpsAt W c xs ∧ ∀ o ∈ xs, o.Ok := by
  rcases Go.Deep.open_slice Try.underlying22 h with ⟨hc, _⟩ | ⟨a, len, cap, m, n, D, Pl, hc, _, hl, hmx, hm, _, hx⟩
  · simp only [List.cons.injEq, and_true] at hc
    subst hc
    exact ⟨[], ⟨none, 0, rfl, fun k o hk => by simp at hk⟩, fun o ho => by cases ho⟩
  · simp only [List.cons.injEq, and_true] at hc
    subst hc
    simp only [if_true] at hm
    subst hm
    have each : ∀ i : Nat, ∃ x : VOp, i < len → x.Ok ∧ ∀ j, j < 4 → W.cell? (a.add (i * 4 + j)) = #[Value.int .i64 x.do_, .int .i64 x.key, .int .i64 x.box, .string x.text][j]? := by
      intro i
      by_cases hi : i < len
      · obtain ⟨cs', h1, h2⟩ := hx i (by omega)
        rw [cellsO] at h1
        obtain ⟨_, _, hcell⟩ := World.cells?_some h1
        obtain ⟨x, hc, ho⟩ := op_cells h2
        refine ⟨x, fun _ => ⟨ho, fun j hj => ?_⟩⟩
        have := hcell j hj
        rw [Go.Deep.add_add] at this
        rw [this, hc]
        simp
      · exact ⟨⟨0, 0, 0, xE⟩, fun h => absurd h hi⟩
    obtain ⟨f, hf⟩ := Classical.axiomOfChoice each
    have hlen : ((List.range len).map f).length = len := by simp
    refine ⟨(List.range len).map f, ⟨some a, m, by rw [hlen], fun k o hk => ?_⟩, fun o ho => ?_⟩
    · obtain ⟨hk', rfl⟩ := List.getElem?_eq_some_iff.1 hk
      rw [hlen] at hk'
      obtain ⟨b, off, spot⟩ := a
      obtain ⟨_, hc00⟩ := hf 0 (by omega)
      have c0 := (hc00 0 (by omega)).trans (show _ = some _ from rfl)
      have hs : spot = none := by simpa [Addr.add] using World.cell?_spot c0
      subst hs
      obtain ⟨_, hc0⟩ := hf k hk'
      simp only [Lib.add_plain] at hc0
      simp only [List.getElem_map, List.getElem_range]
      exact ⟨b, off, rfl, hc0 0 (by omega), hc0 1 (by omega), hc0 2 (by omega), hc0 3 (by omega)⟩
    · obtain ⟨i, hi, rfl⟩ := List.mem_map.1 ho
      exact (hf i (List.mem_range.1 hi)).1
set_option maxRecDepth 100000 in
theorem ops_open {base : Nat} {v : Value} {d : DataW H} {p : List MemPlace} (hv : Value.okWide Try.prog W .any base 22 v) (h : DataW.Trod enc Try.prog W 0 (fun _ => true) true 22 v d p) :
    ∃ xs, OpsAt W v xs ∧ ∀ o ∈ xs, o.Ok := by
  obtain ⟨a, len, cap, rfl⟩ := okWide_slice Try.underlying22 hv
  obtain ⟨fuel, hf⟩ := h
  exact ops_of hf
theorem weights_strs {P : Program} {e : TypeId} (ss : List ByteArray) {s : ByteArray} (hs : s ∈ ss) : s.size ∈ DataW.weightsAll (H := H) P e (strs ss) := by
  induction ss with
  | nil => cases hs
  | cons a l ih =>
    rw [show (strs (a :: l) : List (DataW H)) = .lit (.string a.data.toList) :: strs l from rfl]
    simp only [DataW.weightsAll, DataW.weights, List.mem_append, List.mem_singleton]
    rcases List.mem_cons.1 hs with rfl | hs
    · left; simp
    · exact .inr (ih hs)
/-- A list of strings, none of which passes the reach. -/
theorem texts_of {c : Value} {x : DataW H × List MemPlace} (h : DataW.trod enc Try.prog W 0 (fun _ => true) true fuel 39 [c] = some x) {ts : List TypeId} {ds : List (DataW H)} {j : Nat} (ht : ts[j]? = some 39) (hd : ds[j]? = some x.1)
    (hz : (DataW.weightsEach Try.prog ts ds).all (· ≤ reachBytes) = true) : ∃ ts, TextsAt W c ts ∧ ∀ s ∈ ts, s.size ≤ 281474976710656 := by
  rcases open_strings Try.underlying39 Try.underlying9 cellsStr h with ⟨hc, _⟩ | ⟨a, len, cap, zs, hc, _, hl, _, hzl, hx, hcell, _⟩
  · simp only [List.cons.injEq, and_true] at hc
    subst hc
    exact ⟨[], ⟨none, 0, rfl, fun k u hk => by simp [strVs] at hk⟩, fun s hs => by cases hs⟩
  · simp only [List.cons.injEq, and_true] at hc
    subst hc
    simp only [if_true] at hzl
    have hlen : (strVs (zs.take len)).length = len := by rw [strVs_length, List.length_take]; omega
    refine ⟨zs.take len, ⟨some a, cap, by rw [hlen], fun k u hk => ?_⟩, fun s hs => ?_⟩
    · have hkl : k < len := by have := (List.getElem?_eq_some_iff.1 hk).1; omega
      have h0 := hcell 0 (by omega)
      obtain ⟨b, off, spot⟩ := a
      have hs : spot = none := by simpa [Addr.add] using World.cell?_spot h0
      subst hs
      refine ⟨b, off, rfl, ?_⟩
      have hk2 := hcell k (by omega)
      rw [Lib.add_plain] at hk2
      rw [hk2]
      unfold strVs at hk
      rw [List.getElem?_map, List.getElem?_take_of_lt hkl, List.getElem?_eq_getElem (by omega)] at hk
      rw [List.getD_eq_getElem?_getD, List.getElem?_eq_getElem (by omega)]
      exact hk
    · rw [hx] at hd
      have hw : decide (s.size ≤ reachBytes) = true := List.all_eq_true.1 hz s.size (DataW.weights_mem_each ht hd _ (by
        simp only [DataW.weights, Try.underlying39, List.mem_cons, List.mem_append]
        exact .inr (.inl (weights_strs _ hs))))
      have hw := of_decide_eq_true hw
      unfold reachBytes at hw
      omega
set_option maxRecDepth 100000 in
theorem texts_open {base : Nat} {v : Value} {d : DataW H} {p : List MemPlace} (hv : Value.okWide Try.prog W .any base 39 v) (h : DataW.Trod enc Try.prog W 0 (fun _ => true) true 39 v d p) {ts : List TypeId} {ds : List (DataW H)} {j : Nat} (ht : ts[j]? = some 39) (hd : ds[j]? = some d)
    (hz : (DataW.weightsEach Try.prog ts ds).all (· ≤ reachBytes) = true) : ∃ ts, TextsAt W v ts ∧ ∀ s ∈ ts, s.size ≤ 281474976710656 := by
  obtain ⟨a, len, cap, rfl⟩ := okWide_slice Try.underlying39 hv
  obtain ⟨fuel, hf⟩ := h
  exact texts_of hf ht hd hz
end
theorem rdA : Try.prog.readableRec 22 = true := by kernel_rfl
theorem rowA : 22 < Try.prog.types.size := by decide +kernel
theorem rdT : Try.prog.readableRec 39 = true := by kernel_rfl
theorem rowT : 39 < Try.prog.types.size := by decide +kernel
end Go.Proofs.Ytkicdfoncopklaa
