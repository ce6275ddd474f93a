/- Several texts in one: KRow, KCard, KArgs. -/
import Derived.Test.YtjbcgahdiolhhaaGreatDoorRows
import Derived.Test.YtjbcgahdiolhhaaGreatDoorMA
import Derived.ProofKit
import Derived.LaidMore
import Derived.OpenShut
import Derived.ShutString
import Derived.Stop.Joined
import Derived.Stop.LaidErr
import Derived.Lib.LaidTab
import Derived.MakeChecks
import Derived.Test.YtjbcgahdiolhhaaGreatDoorCards
import Derived.Test.YtjbcgahdiolhhaaGreatDoorTie
import Derived.SevenTiedAt
import Derived.Test.YtjbcgahdiolhhaaGreatDoorMD
import Derived.Deep.Slices
import Derived.ChangeSlices
import Derived.SliceStrings
import Derived.Carry
namespace Go.Proofs.YtjbcgahdiolhhaaGreatDoor
open Go.ChangeShapes Go.WideShapes Go.ChangeAt Go.RowKit

theorem own : ownKnob Tryz.prog.godebug = none := by kernel_rfl
/-- The variables as every row of this seat lists them. -/
def laidList : List (String × DataW Unit) := Rows.journalTellsRow.laid

theorem door_met (os : Os) (args : Array Value) : laidMetH Tryz.prog laidList ((World.doorLaid Tryz.prog 4000 os).forCall (fun _ _ => 0) ⟨#[], args, []⟩).memory := by
  rw [MakeChecks.laidMetH_plain _ _ _ (by kernel_rfl)]
  exact laidMet_of_run' 8 (by kernel_rfl) (by kernel_rfl)

theorem gTabType : (Tryz.prog.globals[0]?).map (·.type) = some 130 := by kernel_rfl
theorem gSynType : (Tryz.prog.globals[2]?).map (·.type) = some 109 := by kernel_rfl
theorem gRngType : (Tryz.prog.globals[3]?).map (·.type) = some 109 := by kernel_rfl
theorem cellsU : Tryz.prog.cellsOf 118 = 1 := by kernel_rfl
theorem cellsTab : Tryz.prog.cellsOf 130 = 20 := by kernel_rfl
theorem cellsErr : Tryz.prog.cellsOf 146 = 1 := by kernel_rfl
theorem cellsStr : Tryz.prog.cellsOf 9 = 1 := by kernel_rfl
theorem star : "*" ++ "errors.errorString" = "*errors.errorString" := by decide
theorem rowErr (u : TypeId) (h : Tryz.prog.typeName? 3 u = some "*errors.errorString") : u = 144 :=
  typeName_ptr_named (nm := "errors.errorString") (by rw [star]; kernel_rfl) (by kernel_rfl) (by decide) u (by rw [star]; exact h)

theorem tabEq : (Rows.laid_internal_strconv_uint64pow10 : DataW Unit) = Lib.tabData .u64 Lib.pow10Tab := by
  have h : Lib.pow10Tab = [1, 10, 100, 1000, 10000, 100000, 1000000, 10000000, 100000000, 1000000000, 10000000000, 100000000000, 1000000000000, 10000000000000, 100000000000000, 1000000000000000, 10000000000000000, 100000000000000000, 1000000000000000000, 10000000000000000000] := by decide +kernel
  unfold Rows.laid_internal_strconv_uint64pow10 Lib.tabData
  rw [h]
  rfl

theorem lt_of_var {w : World} {n : String} {g : Nat} {cs : Array Value} (hg : Tryz.prog.globalNamed n = some g) (h : w.var? Tryz.prog n = some cs) : g < w.heap.size := by
  unfold World.var? at h
  simp only [hg, Option.bind_some] at h
  rcases Nat.lt_or_ge g w.heap.size with h' | h'
  · exact h'
  · simp [Array.getElem?_eq_none h'] at h

theorem env_of_laid {W : World} (h : laidMetH Tryz.prog laidList W) : Env W := by
  rw [MakeChecks.laidMetH_plain _ _ _ (by kernel_rfl)] at h
  have h : laidMet Tryz.prog [("math/bits.deBruijn32tab", Rows.laid_math_bits_deBruijn32tab), ("math/bits.deBruijn64tab", Rows.laid_math_bits_deBruijn64tab), ("internal/strconv.uint64pow10", Rows.laid_internal_strconv_uint64pow10), ("strconv.ErrRange", Rows.laid_strconv_ErrRange), ("strconv.ErrSyntax", Rows.laid_strconv_ErrSyntax)] W := h
  have h64 := h.tail
  obtain ⟨_, ⟨g5, _, cs5, _, _, _, hg5, _, hv5, _⟩, _⟩ := h64
  have h5 : g5 = 5 := Option.some.inj (hg5.symm.trans (by kernel_rfl))
  have ht := h.tail.tail
  rw [tabEq] at ht
  have htab := Lib.tabIs_of_head gTab gTabType Tryz.underlying130 Tryz.underlying118 cellsU cellsTab ht
  obtain ⟨a1, _, hv1, _⟩ := laid_sentinel ht.tail gRng gRngType Tryz.underlying109 rowErr Tryz.underlying144 Tryz.underlying146 rfl rfl Tryz.underlying9 cellsErr cellsStr
  obtain ⟨a2, _, hv2, _⟩ := laid_sentinel ht.tail.tail gSyn gSynType Tryz.underlying109 rowErr Tryz.underlying144 Tryz.underlying146 rfl rfl Tryz.underlying9 cellsErr cellsStr
  refine ⟨htab, ⟨_, _, hv2⟩, ⟨_, _, hv1⟩, ?_⟩
  have := lt_of_var hg5 hv5
  subst h5
  unfold G0
  omega
end Go.Proofs.YtjbcgahdiolhhaaGreatDoor

namespace Go.Proofs.YtjbcgahdiolhhaaGreatDoor.D2
open Go.ChangeShapes Go.WideShapes Go.ChangeAt Go.RowKit
open Dp

theorem cellsLI : Tryz.prog.cellsOf 36 = 1 := by kernel_rfl
theorem cellsStr : Tryz.prog.cellsOf 9 = 1 := by kernel_rfl
theorem cellsO : Tryz.prog.cellsOf 38 = 4 := by kernel_rfl
theorem i64_of_wf {x : Int} (h : (Lit.int .i64 x).wf = true) : I64 x := by
  simp [Lit.wf, IntKind.min, IntKind.max, IntKind.signed, IntKind.bits] at h
  exact ⟨by omega, by omega⟩

section
variable {H : Type} {enc : TypeId × Value → H} {W : World} {fuel : Nat}
theorem ints_of {c : Value} {x : DataW H × List MemPlace} (h : DataW.trod enc Tryz.prog W 0 (fun _ => true) true fuel 36 [c] = some x) : ∃ a n cap ks, c = .slice a n cap ∧ ks.length = n ∧ n ≤ maxLen ∧ SrcIs W 1 c ks.length (intVs ks) ∧ ∀ z ∈ ks, I64 z := by
  rcases open_ints Tryz.underlying36 Tryz.underlying3 cellsI h with ⟨hc, _⟩ | ⟨a, len, cap, zs, hc, _, hl, hm, hz, _, hcell, hwf⟩
  · simp only [List.cons.injEq, and_true] at hc
    subst hc
    exact ⟨none, 0, 0, [], rfl, rfl, Nat.zero_le _, ⟨rfl, .inl ⟨rfl, rfl⟩⟩, by simp⟩
  · simp only [List.cons.injEq, and_true] at hc
    subst hc
    simp only [if_true] at hz
    have hlen : (zs.take len).length = len := by rw [List.length_take]; omega
    refine ⟨some a, len, cap, zs.take len, rfl, hlen, by omega, ⟨by rw [intVs_length, Nat.mul_one], .inr ⟨a, cap, by rw [hlen], fun j u hj => ?_, oneCell_ints _⟩⟩, fun z hz' => i64_of_wf (hwf z (List.mem_of_mem_take hz'))⟩
    have hjl : j < len := by have := (List.getElem?_eq_some_iff.1 hj).1; rw [intVs_length, hlen] at this; exact this
    have := hcell j (by omega)
    rw [this]
    unfold intVs at hj
    rw [List.getElem?_map, List.getElem?_take_of_lt hjl, List.getElem?_eq_getElem (by omega)] at hj
    rw [List.getD_eq_getElem?_getD, List.getElem?_eq_getElem (by omega)]
    exact hj

set_option maxRecDepth 100000 in
theorem op_cells {cs : List Value} {y : DataW H × List MemPlace} (h : DataW.trod enc Tryz.prog W 0 (fun _ => true) true fuel 38 cs = some y) :
    ∃ (x : Op1) (vk : Value), cs = [.int .i64 x.K, .string (bs x.S), .int .i64 x.N, vk] ∧ SrcIs W 1 vk x.Keep.length (intVs x.Keep) ∧ x.Ok := by
  obtain ⟨xs, n, _, _, hl, hlen, hf⟩ := DataW.trod_struct Tryz.underlying38 h
  rw [cellsO] at hl
  match cs, hl, xs, hlen with
  | [c0, c1, c2, c3], _, [y0, y1, y2, y3], _ =>
    have t0 : DataW.trod enc Tryz.prog W 0 (fun _ => true) true n 3 [c0] = some y0 := by simpa [cellsI] using hf 0 _ rfl
    have t1 : DataW.trod enc Tryz.prog W 0 (fun _ => true) true n 9 [c1] = some y1 := by simpa [cellsStr] using hf 1 _ rfl
    have t2 : DataW.trod enc Tryz.prog W 0 (fun _ => true) true n 3 [c2] = some y2 := by simpa [cellsI] using hf 2 _ rfl
    have t3 : DataW.trod enc Tryz.prog W 0 (fun _ => true) true n 36 [c3] = some y3 := by simpa [cellsLI] using hf 3 _ rfl
    obtain ⟨K, hK, _, wK⟩ := DataW.trod_int Tryz.underlying3 t0
    obtain ⟨S, hS, _, _⟩ := DataW.trod_string Tryz.underlying9 t1
    obtain ⟨N, hN, _, wN⟩ := DataW.trod_int Tryz.underlying3 t2
    obtain ⟨_, _, _, ks, _, _, _, hs, hk⟩ := ints_of t3
    simp only [List.cons.injEq, and_true] at hK hN hS
    subst hK; subst hN; subst hS
    exact ⟨⟨K, S.data.toList, N, ks⟩, c3, by rw [bs_of], hs, ⟨i64_of_wf wK, i64_of_wf wN, hk⟩⟩

set_option maxRecDepth 100000 in
theorem ops_of {c : Value} {y : DataW H × List MemPlace} (h : DataW.trod enc Tryz.prog W 0 (fun _ => true) true fuel 22 [c] = some y) :
    ∃ a n cap xs, c = .slice a n cap ∧ xs.length = n ∧ n ≤ maxLen ∧ OArgs W a xs := by
  rcases Go.Deep.open_slice Tryz.underlying22 h with ⟨hc, _⟩ | ⟨a, len, cap, m, n, D, Pl, hc, _, hl, hmx, hm, _, hx⟩
  · simp only [List.cons.injEq, and_true] at hc
    subst hc
    exact ⟨none, 0, 0, [], rfl, rfl, Nat.zero_le _, .inl rfl, by simp⟩
  · simp only [List.cons.injEq, and_true] at hc
    subst hc
    simp only [if_true] at hm
    subst hm
    have each : ∀ i : Nat, ∃ x : Op1, i < len → ∃ vk, SrcIs W 1 vk x.Keep.length (intVs x.Keep) ∧ x.Ok ∧ ∀ j, j < 4 → W.cell? (a.add (i * 4 + j)) = #[Value.int .i64 x.K, .string (bs x.S), .int .i64 x.N, vk][j]? := by
      intro i
      by_cases hi : i < len
      · obtain ⟨cs', h1, h2⟩ := hx i (by omega)
        rw [cellsO] at h1
        obtain ⟨_, _, hcell⟩ := World.cells?_some h1
        obtain ⟨x, vk, hc, hs, ho⟩ := op_cells h2
        refine ⟨x, fun _ => ⟨vk, hs, ho, fun j hj => ?_⟩⟩
        have := hcell j hj
        rw [Go.Deep.add_add] at this
        rw [this, hc]
        simp
      · exact ⟨⟨0, [], 0, []⟩, fun h => absurd h hi⟩
    obtain ⟨f, hf⟩ := Classical.axiomOfChoice each
    have hlen : ((List.range len).map f).length = len := by simp
    refine ⟨some a, len, m, (List.range len).map f, rfl, hlen, by omega, ?_, fun x hx' => ?_⟩
    · rcases Nat.eq_zero_or_pos len with h0 | h0
      · left; rw [h0]; rfl
      · right
        obtain ⟨b, off, spot⟩ := a
        obtain ⟨_, _, _, hc0⟩ := hf 0 h0
        have c0 := (hc0 0 (by omega)).trans (show _ = some _ from rfl)
        have hs : spot = none := by simpa [Addr.add] using World.cell?_spot c0
        subst hs
        refine ⟨b, off, rfl, fun i x hi => ?_⟩
        obtain ⟨hi', rfl⟩ := List.getElem?_eq_some_iff.1 hi
        rw [hlen] at hi'
        simp only [List.getElem_map, List.getElem_range]
        obtain ⟨vk, hs, ho, hc⟩ := hf i hi'
        simp only [Lib.add_plain] at hc
        exact ⟨vk, ⟨hc 0 (by omega), hc 1 (by omega), hc 2 (by omega), hc 3 (by omega)⟩, hs⟩
    · obtain ⟨i, hi, rfl⟩ := List.mem_map.1 hx'
      obtain ⟨_, _, ho, _⟩ := hf i (List.mem_range.1 hi)
      exact ho

set_option maxRecDepth 100000 in
theorem ops_open {base : Nat} {v : Value} {d : DataW H} {p : List MemPlace} (hv : Value.okWide Tryz.prog W .any base 22 v) (h : DataW.Trod enc Tryz.prog W 0 (fun _ => true) true 22 v d p) :
    ∃ a n cap xs, v = .slice a n cap ∧ xs.length = n ∧ n ≤ maxLen ∧ OArgs W a xs := by
  obtain ⟨a, len, cap, rfl⟩ := okWide_slice Tryz.underlying22 hv
  obtain ⟨fuel, hf⟩ := h
  exact ops_of hf
set_option maxRecDepth 100000 in
theorem nums_open {base : Nat} {v : Value} {d : DataW H} {p : List MemPlace} (hv : Value.okWide Tryz.prog W .any base 36 v) (h : DataW.Trod enc Tryz.prog W 0 (fun _ => true) true 36 v d p) :
    ∃ a n cap ks, v = .slice a n cap ∧ ks.length = n ∧ n ≤ maxLen ∧ Nums W W v ks := by
  obtain ⟨a, len, cap, rfl⟩ := okWide_slice Tryz.underlying36 hv
  obtain ⟨fuel, hf⟩ := h
  obtain ⟨a', n, cap', ks, hc, h1, h2, h3, h4⟩ := ints_of hf
  exact ⟨a', n, cap', ks, hc, h1, h2, nums_src h3 h4⟩
theorem texts_of {c : Value} {x : DataW H × List MemPlace} (h : DataW.trod enc Tryz.prog W 0 (fun _ => true) true fuel 46 [c] = some x) : ∃ ts, TextsAt W c ts ∧ ts.length ≤ maxLen := by
  rcases open_strings Tryz.underlying46 Tryz.underlying9 cellsStr h with ⟨hc, _⟩ | ⟨a, len, cap, zs, hc, _, hl, hm, hz, _, hcell, hwf⟩
  · simp only [List.cons.injEq, and_true] at hc
    subst hc
    exact ⟨[], ⟨none, 0, rfl, .inl rfl⟩, Nat.zero_le _⟩
  · simp only [List.cons.injEq, and_true] at hc
    subst hc
    simp only [if_true] at hz
    have hlen : ((zs.take len).map (fun s => s.data.toList)).length = len := by rw [List.length_map, List.length_take]; omega
    refine ⟨(zs.take len).map (fun s => s.data.toList), ⟨some a, cap, by rw [hlen], ?_⟩, by rw [hlen]; omega⟩
    rcases Nat.eq_zero_or_pos len with h0 | h0
    · left; rw [h0]; rfl
    · right
      obtain ⟨b, off, spot⟩ := a
      have c0 := hcell 0 (by omega)
      have hs : spot = none := by simpa [Addr.add] using World.cell?_spot c0
      subst hs
      refine ⟨b, off, rfl, Lib.lt_of_cell c0, fun k hk => ?_⟩
      rw [hlen] at hk
      have := hcell k (by omega)
      rw [Lib.add_plain] at this
      have hk' : k < zs.length := by omega
      rw [this, List.getD_eq_getElem?_getD, List.getD_eq_getElem?_getD, List.getElem?_map, List.getElem?_take_of_lt hk, List.getElem?_eq_getElem hk']
      exact congrArg (fun s => some (Value.string s)) (bs_of zs[k]).symm

set_option maxRecDepth 100000 in
theorem texts_open {base : Nat} {v : Value} {d : DataW H} {p : List MemPlace} (hv : Value.okWide Tryz.prog W .any base 46 v) (h : DataW.Trod enc Tryz.prog W 0 (fun _ => true) true 46 v d p) :
    ∃ ts, TextsAt W v ts ∧ ts.length ≤ maxLen := by
  obtain ⟨a, len, cap, rfl⟩ := okWide_slice Tryz.underlying46 hv
  obtain ⟨fuel, hf⟩ := h
  exact texts_of hf
end
theorem rdOs : Tryz.prog.readableRec 22 = true := by kernel_rfl
theorem rdIs : Tryz.prog.readableRec 36 = true := by kernel_rfl
theorem rdTs : Tryz.prog.readableRec 46 = true := by kernel_rfl
theorem rowOs : 22 < Tryz.prog.types.size := by decide +kernel
theorem rowIs : 36 < Tryz.prog.types.size := by decide +kernel
theorem rowTs : 46 < Tryz.prog.types.size := by decide +kernel
end Go.Proofs.YtjbcgahdiolhhaaGreatDoor.D2
