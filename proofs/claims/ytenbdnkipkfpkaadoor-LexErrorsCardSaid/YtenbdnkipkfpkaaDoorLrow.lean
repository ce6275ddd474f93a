/-
  What an argument gives a walk: the tokens that it stands for, and where they lie.
  Conditions: the argument was read through by the statement's own reading.
-/
import Derived.Test.YtenbdnkipkfpkaaDoorLPlaces
import Derived.Test.YtenbdnkipkfpkaaDoorRows
import Derived.ProofKit
import Derived.OpenShut
import Derived.ShutString
import Derived.Deep.Slices
import Derived.ChangeSlices
import Derived.SizedLaws
import Derived.Carry
namespace Go.Proofs.YtenbdnkipkfpkaaDoor
open Go.ChangeShapes Go.WideShapes Go.ChangeAt Go.RowKit
open Lx

theorem own : ownKnob Tryd.prog.godebug = none := by kernel_rfl
theorem laidOut : laidOutB Tryd.prog = true := by kernel_rfl
theorem cellsI : Tryd.prog.cellsOf 3 = 1 := by kernel_rfl
theorem cellsStr : Tryd.prog.cellsOf 9 = 1 := by kernel_rfl
theorem cellsK : Tryd.prog.cellsOf 25 = 4 := by kernel_rfl
theorem u8_of {x : Int} (h : (Lit.int .u8 x).wf = true) : 0 ≤ x ∧ x ≤ 255 := by
  simp [Lit.wf, IntKind.min, IntKind.max, IntKind.signed, IntKind.bits] at h
  omega

section
variable {H : Type} {enc : TypeId × Value → H} {W : World} {fuel : Nat}
set_option maxRecDepth 100000 in
theorem tk_cells {cs : List Value} {y : DataW H × List MemPlace} (h : DataW.trod enc Tryd.prog W 0 (fun _ => true) true fuel 25 cs = some y) :
    ∃ q : Tk, cs = [.int .i64 q.kind, .string (bs q.text), .int .i64 q.n, .int .i64 q.pos] := by
  obtain ⟨xs, n, _, _, hl, hlen, hf⟩ := DataW.trod_struct Tryd.underlying25 h
  rw [cellsK] at hl
  match cs, hl, xs, hlen with
  | [c0, c1, c2, c3], _, [y0, y1, y2, y3], _ =>
    have t0 : DataW.trod enc Tryd.prog W 0 (fun _ => true) true n 3 [c0] = some y0 := by simpa [cellsI] using hf 0 _ rfl
    have t1 : DataW.trod enc Tryd.prog W 0 (fun _ => true) true n 9 [c1] = some y1 := by simpa [cellsI, cellsStr] using hf 1 _ rfl
    have t2 : DataW.trod enc Tryd.prog W 0 (fun _ => true) true n 3 [c2] = some y2 := by simpa [cellsI, cellsStr] using hf 2 _ rfl
    have t3 : DataW.trod enc Tryd.prog W 0 (fun _ => true) true n 3 [c3] = some y3 := by simpa [cellsI, cellsStr] using hf 3 _ rfl
    obtain ⟨K, hK, _, _⟩ := DataW.trod_int Tryd.underlying3 t0
    obtain ⟨T, hT, _, _⟩ := DataW.trod_string Tryd.underlying9 t1
    obtain ⟨M, hM, _, _⟩ := DataW.trod_int Tryd.underlying3 t2
    obtain ⟨F, hF, _, _⟩ := DataW.trod_int Tryd.underlying3 t3
    simp only [List.cons.injEq, and_true] at hK hT hM hF
    subst hK; subst hT; subst hM; subst hF
    exact ⟨⟨K, T.data.toList, M, F⟩, by rw [bs_of]⟩
set_option maxRecDepth 100000 in
theorem toks_of {c : Value} {y : DataW H × List MemPlace} (h : DataW.trod enc Tryd.prog W 0 (fun _ => true) true fuel 22 [c] = some y) : ∃ xs, TkAt W c xs := by
  rcases Go.Deep.open_slice Tryd.underlying22 h with ⟨hc, _⟩ | ⟨a, len, cap, m, n, D, Pl, hc, _, hl, hmx, hm, _, hx⟩
  · simp only [List.cons.injEq, and_true] at hc
    subst hc
    exact ⟨[], TkAt.nil W⟩
  · simp only [List.cons.injEq, and_true] at hc
    subst hc
    simp only [if_true] at hm
    subst hm
    have each : ∀ i : Nat, ∃ q : Tk, i < len → ∀ j, j < 4 → W.cell? (a.add (i * 4 + j)) = #[Value.int .i64 q.kind, .string (bs q.text), .int .i64 q.n, .int .i64 q.pos][j]? := by
      intro i
      by_cases hi : i < len
      · obtain ⟨cs', h1, h2⟩ := hx i (by omega)
        rw [cellsK] at h1
        obtain ⟨_, _, hcell⟩ := World.cells?_some h1
        obtain ⟨q, hc⟩ := tk_cells h2
        refine ⟨q, fun _ j hj => ?_⟩
        have := hcell j hj
        rw [Go.Deep.add_add] at this
        rw [this, hc]
        simp
      · exact ⟨⟨0, [], 0, 0⟩, fun h => absurd h hi⟩
    obtain ⟨f, hf⟩ := Classical.axiomOfChoice each
    have hlen : ((List.range len).map f).length = len := by simp
    refine ⟨(List.range len).map f, some a, m, by rw [hlen], ⟨by rw [hlen]; exact hl, fun e => by cases e⟩, fun k o hk => ?_⟩
    obtain ⟨hk', rfl⟩ := List.getElem?_eq_some_iff.1 hk
    rw [hlen] at hk'
    obtain ⟨b, off, spot⟩ := a
    have c0 := ((hf 0 (by omega)) 0 (by omega)).trans (show _ = some _ from rfl)
    have hs : spot = none := by simpa [Addr.add] using World.cell?_spot c0
    subst hs
    have hc0 := hf k hk'
    simp only [Lib.add_plain] at hc0
    simp only [List.getElem_map, List.getElem_range]
    exact ⟨b, off, rfl, hc0 0 (by omega), hc0 1 (by omega), hc0 2 (by omega), hc0 3 (by omega)⟩
set_option maxRecDepth 100000 in
theorem toks_open {base : Nat} {v : Value} {d : DataW H} {p : List MemPlace} (hv : Value.okWide Tryd.prog W .any base 22 v) (h : DataW.Trod enc Tryd.prog W 0 (fun _ => true) true 22 v d p) : ∃ xs, TkAt W v xs := by
  obtain ⟨a, len, cap, rfl⟩ := okWide_slice Tryd.underlying22 hv
  obtain ⟨fuel, hf⟩ := h
  exact toks_of hf
end
theorem rdK : Tryd.prog.readableRec 22 = true := by kernel_rfl
theorem rowK2 : 22 < Tryd.prog.types.size := by decide +kernel
end Go.Proofs.YtenbdnkipkfpkaaDoor
