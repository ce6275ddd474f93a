/-
  What an argument that is a list of numbers, a list of strings, a value or a list of values gives a walk: the list that it stands for, and where it lies.
  Conditions: the argument was read through by the statement's own reading.
-/
import Derived.Test.YtplejiaddemjhaaDoorVal3
import Derived.Test.YtplejiaddemjhaaDoorRow
import Derived.Test.YtplejiaddemjhaaDoorCards
import Derived.Test.YtplejiaddemjhaaDoorTie
import Derived.SevenTiedAt
import Derived.Deep.Slices
import Derived.ChangeSlices
import Derived.SliceStrings
import Derived.Carry
namespace Go.Proofs.YtplejiaddemjhaaDoor
open Go.ChangeShapes Go.WideShapes Go.ChangeAt Go.RowKit

theorem cellsI : Tryd.prog.cellsOf 3 = 1 := by kernel_rfl
theorem cellsLI : Tryd.prog.cellsOf 22 = 1 := by kernel_rfl
theorem cellsLS : Tryd.prog.cellsOf 23 = 1 := by kernel_rfl
theorem cellsV : Tryd.prog.cellsOf 25 = 5 := by kernel_rfl
theorem i64_wf {x : Int} (h : (Lit.int .i64 x).wf = true) : Sp.I64 x := by
  simp [Lit.wf, IntKind.min, IntKind.max, IntKind.signed, IntKind.bits] at h
  exact ⟨by omega, by omega⟩

section
variable {H : Type} {enc : TypeId × Value → H} {W : World} {fuel : Nat}

theorem ints_of {c : Value} {x : DataW H × List MemPlace} (h : DataW.trod enc Tryd.prog W 0 (fun _ => true) true fuel 22 [c] = some x) : ∃ zs, IntsAt W c zs ∧ (∀ z ∈ zs, Sp.I64 z) := by
  rcases open_ints Tryd.underlying22 Tryd.underlying3 cellsI h with ⟨hc, _⟩ | ⟨a, len, cap, zs, hc, _, hl, _, hz, _, hcell, hwf⟩
  · simp only [List.cons.injEq, and_true] at hc
    subst hc
    exact ⟨[], ⟨none, 0, rfl, .inl rfl⟩, by simp⟩
  · simp only [List.cons.injEq, and_true] at hc
    subst hc
    simp only [if_true] at hz
    have hlen : (zs.take len).length = len := by rw [List.length_take]; omega
    refine ⟨zs.take len, ⟨some a, cap, by rw [hlen], ?_⟩, fun z hz' => i64_wf (hwf z (List.mem_of_mem_take hz'))⟩
    rcases Nat.eq_zero_or_pos len with h0 | h0
    · left; rw [h0]; rfl
    · right
      obtain ⟨b, off, spot⟩ := a
      have c0 := hcell 0 (by omega)
      have hs : spot = none := by simpa [Addr.add] using World.cell?_spot c0
      subst hs
      refine ⟨b, off, rfl, Lib.lt_of_cell c0, fun k hk => ?_⟩
      rw [hlen] at hk
      have := hcell k (by omega)
      rw [Lib.add_plain] at this
      rw [this, List.getD_eq_getElem?_getD, List.getD_eq_getElem?_getD, List.getElem?_take_of_lt hk]

theorem texts_of {c : Value} {x : DataW H × List MemPlace} (h : DataW.trod enc Tryd.prog W 0 (fun _ => true) true fuel 23 [c] = some x) : ∃ ts, TextsAt W c ts := by
  rcases open_strings Tryd.underlying23 Tryd.underlying9 cellsStr h with ⟨hc, _⟩ | ⟨a, len, cap, zs, hc, _, hl, _, hz, _, hcell, hwf⟩
  · simp only [List.cons.injEq, and_true] at hc
    subst hc
    exact ⟨[], none, 0, rfl, .inl rfl⟩
  · simp only [List.cons.injEq, and_true] at hc
    subst hc
    simp only [if_true] at hz
    have hlen : ((zs.take len).map (fun s => s.data.toList)).length = len := by rw [List.length_map, List.length_take]; omega
    refine ⟨(zs.take len).map (fun s => s.data.toList), some a, cap, by rw [hlen], ?_⟩
    rcases Nat.eq_zero_or_pos len with h0 | h0
    · left; rw [h0]; rfl
    · right
      obtain ⟨b, off, spot⟩ := a
      have c0 := hcell 0 (by omega)
      have hs : spot = none := by simpa [Addr.add] using World.cell?_spot c0
      subst hs
      refine ⟨b, off, rfl, Lib.lt_of_cell c0, fun k hk => ?_⟩
      rw [hlen] at hk
      have := hcell k (by omega)
      rw [Lib.add_plain] at this
      have hk' : k < zs.length := by omega
      rw [this, List.getD_eq_getElem?_getD, List.getD_eq_getElem?_getD, List.getElem?_map, List.getElem?_take_of_lt hk, List.getElem?_eq_getElem hk']
      exact congrArg (fun s => some (Value.string s)) (bs_of zs[k]).symm

set_option maxRecDepth 100000 in
theorem val_cells {cs : List Value} {y : DataW H × List MemPlace} (h : DataW.trod enc Tryd.prog W 0 (fun _ => true) true fuel 25 cs = some y) :
    ∃ x vL vT, cs = [.int .i64 x.K, .int .i64 x.N, .string (bs x.S), vL, vT] ∧ Aggs W x vL vT := by
  obtain ⟨xs, n, _, _, hl, hlen, hf⟩ := DataW.trod_struct Tryd.underlying25 h
  rw [cellsV] at hl
  match cs, hl, xs, hlen with
  | [c0, c1, c2, c3, c4], _, [y0, y1, y2, y3, y4], _ =>
    have t0 : DataW.trod enc Tryd.prog W 0 (fun _ => true) true n 3 [c0] = some y0 := by simpa [cellsI] using hf 0 _ rfl
    have t1 : DataW.trod enc Tryd.prog W 0 (fun _ => true) true n 3 [c1] = some y1 := by simpa [cellsI] using hf 1 _ rfl
    have t2 : DataW.trod enc Tryd.prog W 0 (fun _ => true) true n 9 [c2] = some y2 := by simpa [cellsStr] using hf 2 _ rfl
    have t3 : DataW.trod enc Tryd.prog W 0 (fun _ => true) true n 22 [c3] = some y3 := by simpa [cellsLI] using hf 3 _ rfl
    have t4 : DataW.trod enc Tryd.prog W 0 (fun _ => true) true n 23 [c4] = some y4 := by simpa [cellsLS] using hf 4 _ rfl
    obtain ⟨K, hK, _, wK⟩ := DataW.trod_int Tryd.underlying3 t0
    obtain ⟨N, hN, _, wN⟩ := DataW.trod_int Tryd.underlying3 t1
    obtain ⟨S, hS, _, _⟩ := DataW.trod_string Tryd.underlying9 t2
    obtain ⟨zs, hz, wz⟩ := ints_of t3
    obtain ⟨ts, ht⟩ := texts_of t4
    simp only [List.cons.injEq, and_true] at hK hN hS
    subst hK; subst hN; subst hS
    exact ⟨⟨K, N, S.data.toList, zs, ts⟩, c3, c4, by rw [bs_of], hz, ht, i64_wf wK, i64_wf wN, wz⟩

set_option maxRecDepth 100000 in
theorem val_open {base : Nat} {v : Value} {d : DataW H} {p : List MemPlace} (hv : Value.okWide Tryd.prog W .any base 25 v) (h : DataW.Trod enc Tryd.prog W 0 (fun _ => true) true 25 v d p) :
    ∃ x vL vT, v = .agg #[.int .i64 x.K, .int .i64 x.N, .string (bs x.S), vL, vT] ∧ Aggs W x vL vT := by
  obtain ⟨⟨cs⟩, rfl, _⟩ := okWide_struct Tryd.underlying25 hv
  obtain ⟨fuel, hf⟩ := h
  obtain ⟨x, vL, vT, hc, ha⟩ := val_cells hf
  have hc : cs = _ := hc
  subst hc
  exact ⟨x, vL, vT, rfl, ha⟩

set_option maxRecDepth 100000 in
theorem vals_of {c : Value} {y : DataW H × List MemPlace} (h : DataW.trod enc Tryd.prog W 0 (fun _ => true) true fuel 28 [c] = some y) : ∃ xs, ValsAt W c xs ∧ ∀ x ∈ xs, x.Ok := by
  rcases Go.Deep.open_slice Tryd.underlying28 h with ⟨hc, _⟩ | ⟨a, len, cap, m, n, D, Pl, hc, _, hl, _, hm, _, hx⟩
  · simp only [List.cons.injEq, and_true] at hc
    subst hc
    exact ⟨[], ⟨none, 0, rfl, .inl rfl⟩, by simp⟩
  · simp only [List.cons.injEq, and_true] at hc
    subst hc
    simp only [if_true] at hm
    subst hm
    have each : ∀ i : Nat, ∃ x : Val, i < len → ∃ vL vT, Aggs W x vL vT ∧ ∀ j, j < 5 → W.cell? (a.add (i * 5 + j)) = #[Value.int .i64 x.K, .int .i64 x.N, .string (bs x.S), vL, vT][j]? := by
      intro i
      by_cases hi : i < len
      · obtain ⟨cs', h1, h2⟩ := hx i (by omega)
        rw [cellsV] at h1
        obtain ⟨_, _, hcell⟩ := World.cells?_some h1
        obtain ⟨x, vL, vT, hc, ha⟩ := val_cells h2
        refine ⟨x, fun _ => ⟨vL, vT, ha, fun j hj => ?_⟩⟩
        have := hcell j hj
        rw [Go.Deep.add_add] at this
        rw [this, hc]
        simp
      · exact ⟨⟨0, 0, [], [], []⟩, fun h => absurd h hi⟩
    obtain ⟨f, hf⟩ := Classical.axiomOfChoice each
    have hlen : ((List.range len).map f).length = len := by simp
    refine ⟨(List.range len).map f, ⟨some a, m, by rw [hlen], ?_⟩, fun x hx' => ?_⟩
    · rcases Nat.eq_zero_or_pos len with h0 | h0
      · left; rw [h0]; rfl
      · right
        obtain ⟨b, off, spot⟩ := a
        obtain ⟨_, _, _, hc0⟩ := hf 0 h0
        have c0 := (hc0 0 (by omega)).trans (show _ = some _ from rfl)
        have hs : spot = none := by simpa [Addr.add] using World.cell?_spot c0
        subst hs
        refine ⟨b, off, rfl, by simpa [Addr.add] using Lib.lt_of_cell c0, fun i x hi => ?_⟩
        obtain ⟨hi', rfl⟩ := List.getElem?_eq_some_iff.1 hi
        rw [hlen] at hi'
        simp only [List.getElem_map, List.getElem_range]
        obtain ⟨vL, vT, ha, hc⟩ := hf i hi'
        simp only [Lib.add_plain] at hc
        exact ⟨vL, vT, ⟨hc 0 (by omega), hc 1 (by omega), hc 2 (by omega), hc 3 (by omega), hc 4 (by omega)⟩, ha.L, ha.T⟩
    · obtain ⟨i, hi, rfl⟩ := List.mem_map.1 hx'
      obtain ⟨_, _, ha, _⟩ := hf i (List.mem_range.1 hi)
      exact ha.ok

set_option maxRecDepth 100000 in
theorem vals_open {base : Nat} {v : Value} {d : DataW H} {p : List MemPlace} (hv : Value.okWide Tryd.prog W .any base 28 v) (h : DataW.Trod enc Tryd.prog W 0 (fun _ => true) true 28 v d p) :
    ∃ xs, ValsAt W v xs ∧ ∀ x ∈ xs, x.Ok := by
  obtain ⟨a, len, cap, rfl⟩ := okWide_slice Tryd.underlying28 hv
  obtain ⟨fuel, hf⟩ := h
  exact vals_of hf
set_option maxRecDepth 100000 in
theorem ints_open {base : Nat} {v : Value} {d : DataW H} {p : List MemPlace} (hv : Value.okWide Tryd.prog W .any base 22 v) (h : DataW.Trod enc Tryd.prog W 0 (fun _ => true) true 22 v d p) :
    ∃ zs, IntsAt W v zs ∧ ∀ z ∈ zs, Sp.I64 z := by
  obtain ⟨a, len, cap, rfl⟩ := okWide_slice Tryd.underlying22 hv
  obtain ⟨fuel, hf⟩ := h
  exact ints_of hf
set_option maxRecDepth 100000 in
theorem texts_open {base : Nat} {v : Value} {d : DataW H} {p : List MemPlace} (hv : Value.okWide Tryd.prog W .any base 23 v) (h : DataW.Trod enc Tryd.prog W 0 (fun _ => true) true 23 v d p) :
    ∃ ts, TextsAt W v ts := by
  obtain ⟨a, len, cap, rfl⟩ := okWide_slice Tryd.underlying23 hv
  obtain ⟨fuel, hf⟩ := h
  exact texts_of hf
end
theorem laidOut : laidOutB Tryd.prog = true := by kernel_rfl
theorem rdV : Tryd.prog.readableRec 25 = true := by kernel_rfl
theorem rdVs : Tryd.prog.readableRec 28 = true := by kernel_rfl
theorem rdIs : Tryd.prog.readableRec 22 = true := by kernel_rfl
theorem rowV : 25 < Tryd.prog.types.size := by decide +kernel
theorem rowVs : 28 < Tryd.prog.types.size := by decide +kernel
theorem rowIs : 22 < Tryd.prog.types.size := by decide +kernel
end Go.Proofs.YtplejiaddemjhaaDoor
