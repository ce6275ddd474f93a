/-
  What an argument that is a list of acts or of numbers gives a walk: the list that it stands for, and where it lies.
  Conditions: the argument was read through by the statement's own reading.
-/
import Derived.Test.YtadnmoaemnajgaaPlayed
import Derived.Test.YtadnmoaemnajgaaRows
import Derived.ProofKit
import Derived.OpenShut
import Derived.ShutString
import Derived.Deep.Slices
import Derived.ChangeSlices
import Derived.SliceStrings
import Derived.Carry
namespace Go.Proofs.Ytadnmoaemnajgaa
open Go.ChangeShapes Go.WideShapes Go.ChangeAt Go.RowKit
open Dp

theorem own : ownKnob Try.prog.godebug = none := by kernel_rfl
theorem cellsLI : Try.prog.cellsOf 31 = 1 := by kernel_rfl
theorem cellsStr : Try.prog.cellsOf 9 = 1 := by kernel_rfl
theorem cellsA : Try.prog.cellsOf 33 = 5 := by kernel_rfl
theorem i64_of_wf {x : Int} (h : (Lit.int .i64 x).wf = true) : I64 x := by
  simp [Lit.wf, IntKind.min, IntKind.max, IntKind.signed, IntKind.bits] at h
  exact ⟨by omega, by omega⟩
theorem bs_of (s : ByteArray) : bs s.data.toList = s := Lib.mk_data s

section
variable {H : Type} {enc : TypeId × Value → H} {W : World} {fuel : Nat}
theorem ints_of {c : Value} {x : DataW H × List MemPlace} (h : DataW.trod enc Try.prog W 0 (fun _ => true) true fuel 31 [c] = some x) : ∃ a n cap ks, c = .slice a n cap ∧ ks.length = n ∧ n ≤ maxLen ∧ SrcIs W 1 c ks.length (intVs ks) ∧ ∀ z ∈ ks, I64 z := by
  rcases open_ints Try.underlying31 Try.underlying3 cellsI h with ⟨hc, _⟩ | ⟨a, len, cap, zs, hc, _, hl, hm, hz, _, hcell, hwf⟩
  · simp only [List.cons.injEq, and_true] at hc
    subst hc
    exact ⟨none, 0, 0, [], rfl, rfl, Nat.zero_le _, ⟨rfl, .inl ⟨rfl, rfl⟩⟩, by simp⟩
  · simp only [List.cons.injEq, and_true] at hc
    subst hc
    simp only [if_true] at hz
    have hlen : (zs.take len).length = len := by rw [List.length_take]; omega
    refine ⟨some a, len, cap, zs.take len, rfl, hlen, by omega, ⟨by rw [intVs_length, Nat.mul_one], .inr ⟨a, cap, by rw [hlen], fun j u hj => ?_, oneCell_ints _⟩⟩, fun z hz' => i64_of_wf (hwf z (List.mem_of_mem_take hz'))⟩
    have hjl : j < len := by have := (List.getElem?_eq_some_iff.1 hj).1; rw [intVs_length, hlen] at this; exact this
    have := hcell j (by omega)
    rw [this]
    unfold intVs at hj
    rw [List.getElem?_map, List.getElem?_take_of_lt hjl, List.getElem?_eq_getElem (by omega)] at hj
    rw [List.getD_eq_getElem?_getD, List.getElem?_eq_getElem (by omega)]
    exact hj

set_option maxRecDepth 100000 in
theorem act_cells {cs : List Value} {y : DataW H × List MemPlace} (h : DataW.trod enc Try.prog W 0 (fun _ => true) true fuel 33 cs = some y) :
    ∃ (x : Act1) (vk : Value), cs = [.int .i64 x.K, .int .i64 x.F, .int .i64 x.N, .string (bs x.S), vk] ∧ SrcIs W 1 vk x.Keep.length (intVs x.Keep) ∧ x.Ok := by
  obtain ⟨xs, n, _, _, hl, hlen, hf⟩ := DataW.trod_struct Try.underlying33 h
  rw [cellsA] at hl
  match cs, hl, xs, hlen with
  | [c0, c1, c2, c3, c4], _, [y0, y1, y2, y3, y4], _ =>
    have t0 : DataW.trod enc Try.prog W 0 (fun _ => true) true n 3 [c0] = some y0 := by simpa [cellsI] using hf 0 _ rfl
    have t1 : DataW.trod enc Try.prog W 0 (fun _ => true) true n 3 [c1] = some y1 := by simpa [cellsI] using hf 1 _ rfl
    have t2 : DataW.trod enc Try.prog W 0 (fun _ => true) true n 3 [c2] = some y2 := by simpa [cellsI] using hf 2 _ rfl
    have t3 : DataW.trod enc Try.prog W 0 (fun _ => true) true n 9 [c3] = some y3 := by simpa [cellsStr] using hf 3 _ rfl
    have t4 : DataW.trod enc Try.prog W 0 (fun _ => true) true n 31 [c4] = some y4 := by simpa [cellsLI] using hf 4 _ rfl
    obtain ⟨K, hK, _, wK⟩ := DataW.trod_int Try.underlying3 t0
    obtain ⟨F, hF, _, wF⟩ := DataW.trod_int Try.underlying3 t1
    obtain ⟨N, hN, _, wN⟩ := DataW.trod_int Try.underlying3 t2
    obtain ⟨S, hS, _, _⟩ := DataW.trod_string Try.underlying9 t3
    obtain ⟨_, _, _, ks, _, _, _, hs, hk⟩ := ints_of t4
    simp only [List.cons.injEq, and_true] at hK hN hF hS
    subst hK; subst hN; subst hF; subst hS
    exact ⟨⟨K, F, N, S.data.toList, ks⟩, c4, by rw [bs_of], hs, ⟨i64_of_wf wK, i64_of_wf wF, i64_of_wf wN, hk⟩⟩

set_option maxRecDepth 100000 in
theorem acts_of {c : Value} {y : DataW H × List MemPlace} (h : DataW.trod enc Try.prog W 0 (fun _ => true) true fuel 22 [c] = some y) :
    ∃ a n cap xs, c = .slice a n cap ∧ xs.length = n ∧ n ≤ maxLen ∧ Args W a xs := by
  rcases Go.Deep.open_slice Try.underlying22 h with ⟨hc, _⟩ | ⟨a, len, cap, m, n, D, Pl, hc, _, hl, hmx, hm, _, hx⟩
  · simp only [List.cons.injEq, and_true] at hc
    subst hc
    exact ⟨none, 0, 0, [], rfl, rfl, Nat.zero_le _, .inl rfl, by simp⟩
  · simp only [List.cons.injEq, and_true] at hc
    subst hc
    simp only [if_true] at hm
    subst hm
    have each : ∀ i : Nat, ∃ x : Act1, i < len → ∃ vk, SrcIs W 1 vk x.Keep.length (intVs x.Keep) ∧ x.Ok ∧ ∀ j, j < 5 → W.cell? (a.add (i * 5 + j)) = #[Value.int .i64 x.K, .int .i64 x.F, .int .i64 x.N, .string (bs x.S), vk][j]? := by
      intro i
      by_cases hi : i < len
      · obtain ⟨cs', h1, h2⟩ := hx i (by omega)
        rw [cellsA] at h1
        obtain ⟨_, _, hcell⟩ := World.cells?_some h1
        obtain ⟨x, vk, hc, hs, ho⟩ := act_cells h2
        refine ⟨x, fun _ => ⟨vk, hs, ho, fun j hj => ?_⟩⟩
        have := hcell j hj
        rw [Go.Deep.add_add] at this
        rw [this, hc]
        simp
      · exact ⟨⟨0, 0, 0, [], []⟩, fun h => absurd h hi⟩
    obtain ⟨f, hf⟩ := Classical.axiomOfChoice each
    have hlen : ((List.range len).map f).length = len := by simp
    refine ⟨some a, len, m, (List.range len).map f, rfl, hlen, by omega, ?_, fun x hx' => ?_⟩
    · rcases Nat.eq_zero_or_pos len with h0 | h0
      · left; rw [h0]; rfl
      · right
        obtain ⟨b, off, spot⟩ := a
        obtain ⟨_, _, _, hc0⟩ := hf 0 h0
        have c0 := (hc0 0 (by omega)).trans (show _ = some _ from rfl)
        have hs : spot = none := by simpa [Addr.add] using World.cell?_spot c0
        subst hs
        refine ⟨b, off, rfl, fun i x hi => ?_⟩
        obtain ⟨hi', rfl⟩ := List.getElem?_eq_some_iff.1 hi
        rw [hlen] at hi'
        simp only [List.getElem_map, List.getElem_range]
        obtain ⟨vk, hs, ho, hc⟩ := hf i hi'
        simp only [Lib.add_plain] at hc
        exact ⟨vk, ⟨hc 0 (by omega), hc 1 (by omega), hc 2 (by omega), hc 3 (by omega), hc 4 (by omega)⟩, hs⟩
    · obtain ⟨i, hi, rfl⟩ := List.mem_map.1 hx'
      obtain ⟨_, _, ho, _⟩ := hf i (List.mem_range.1 hi)
      exact ho

set_option maxRecDepth 100000 in
theorem acts_open {base : Nat} {v : Value} {d : DataW H} {p : List MemPlace} (hv : Value.okWide Try.prog W .any base 22 v) (h : DataW.Trod enc Try.prog W 0 (fun _ => true) true 22 v d p) :
    ∃ a n cap xs, v = .slice a n cap ∧ xs.length = n ∧ n ≤ maxLen ∧ Args W a xs := by
  obtain ⟨a, len, cap, rfl⟩ := okWide_slice Try.underlying22 hv
  obtain ⟨fuel, hf⟩ := h
  exact acts_of hf
set_option maxRecDepth 100000 in
theorem nums_open {base : Nat} {v : Value} {d : DataW H} {p : List MemPlace} (hv : Value.okWide Try.prog W .any base 31 v) (h : DataW.Trod enc Try.prog W 0 (fun _ => true) true 31 v d p) :
    ∃ a n cap ks, v = .slice a n cap ∧ ks.length = n ∧ n ≤ maxLen ∧ Nums W W v ks := by
  obtain ⟨a, len, cap, rfl⟩ := okWide_slice Try.underlying31 hv
  obtain ⟨fuel, hf⟩ := h
  obtain ⟨a', n, cap', ks, hc, h1, h2, h3, h4⟩ := ints_of hf
  exact ⟨a', n, cap', ks, hc, h1, h2, nums_of_src h3 h4⟩
end
section
variable {H : Type} {P : Program} {enc : TypeId × Value → H} {w : World} {base : Nat} {spare : Nat → Bool} {held : Bool}
theorem trodAll_five {t t' t'' t3 t4 : TypeId} {args : Array Value} {ds : List (DataW H)} {ps : List MemPlace} (h : DataW.TrodAll enc P w base spare held [t, t', t'', t3, t4] args.toList ds ps) :
    ∃ v v' v'' v3 v4 d d' d'' d3 d4 p p' p'' p3 p4, args = #[v, v', v'', v3, v4] ∧ ds = [d, d', d'', d3, d4] ∧ ps = p ++ (p' ++ (p'' ++ (p3 ++ p4))) ∧ DataW.Trod enc P w base spare held t v d p ∧ DataW.Trod enc P w base spare held t' v' d' p' ∧ DataW.Trod enc P w base spare held t'' v'' d'' p'' ∧ DataW.Trod enc P w base spare held t3 v3 d3 p3 ∧ DataW.Trod enc P w base spare held t4 v4 d4 p4 := by
  obtain ⟨v, vs, d, ds', p, q, hargs, rfl, rfl, hd, hrest⟩ := trodAll_cons h
  obtain ⟨v', vs', d', ds'', p', q', rfl, rfl, rfl, hd', hrest'⟩ := trodAll_cons hrest
  obtain ⟨v'', vs'', d'', ds''', p'', q'', rfl, rfl, rfl, hd'', hrest''⟩ := trodAll_cons hrest'
  obtain ⟨v3, vs3, d3, ds3, p3, q3, rfl, rfl, rfl, hd3, hrest3⟩ := trodAll_cons hrest''
  obtain ⟨v4, vs4, d4, ds4, p4, q4, rfl, rfl, rfl, hd4, hrest4⟩ := trodAll_cons hrest3
  obtain ⟨rfl, rfl, rfl⟩ := trodAll_nil hrest4
  exact ⟨v, v', v'', v3, v4, d, d', d'', d3, d4, p, p', p'', p3, p4, Array.toList_inj.1 hargs, rfl, by simp, hd, hd', hd'', hd3, hd4⟩
theorem trodAll_mk5 {t t' t'' t3 t4 : TypeId} {v v' v'' v3 v4 : Value} {d d' d'' d3 d4 : DataW H} {p p' p'' p3 p4 : List MemPlace} (h : DataW.Trod enc P w base spare held t v d p) (h' : DataW.Trod enc P w base spare held t' v' d' p')
    (h'' : DataW.Trod enc P w base spare held t'' v'' d'' p'') (h3 : DataW.Trod enc P w base spare held t3 v3 d3 p3) (h4 : DataW.Trod enc P w base spare held t4 v4 d4 p4) : DataW.TrodAll enc P w base spare held [t, t', t'', t3, t4] [v, v', v'', v3, v4] [d, d', d'', d3, d4] (p ++ (p' ++ (p'' ++ (p3 ++ p4)))) := ⟨p, _, h, trodAll_mk4 h' h'' h3 h4, rfl⟩
end
theorem rdAs : Try.prog.readableRec 22 = true := by kernel_rfl
theorem rdIs : Try.prog.readableRec 31 = true := by kernel_rfl
theorem rowAs : 22 < Try.prog.types.size := by decide +kernel
theorem rowIs : 31 < Try.prog.types.size := by decide +kernel
end Go.Proofs.Ytadnmoaemnajgaa
