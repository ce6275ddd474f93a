/-
  What an argument gives a walk of layer 12: the profile that it stands for, the bytes, and where they lie.
  Conditions: the argument was read through by the statement's own reading.
-/
import Derived.Test.YtlefgffnjcmfoaaGreatDoorMF
import Derived.Test.YtlefgffnjcmfoaaGreatDoorMC
import Derived.Test.YtlefgffnjcmfoaaGreatDoorRows
import Derived.ProofKit
import Derived.OpenShut
import Derived.ShutString
import Derived.Deep.Slices
import Derived.ChangeSlices
import Derived.SizedLaws
import Derived.Carry
namespace Go.Proofs.YtlefgffnjcmfoaaGreatDoor
open Go.ChangeShapes Go.WideShapes Go.ChangeAt Go.RowKit
open Lx Sy

theorem own : ownKnob Tryz.prog.godebug = none := by kernel_rfl
theorem laidOut : laidOutB Tryz.prog = true := by kernel_rfl
theorem cellsI : Tryz.prog.cellsOf 3 = 1 := by kernel_rfl
theorem cellsB : Tryz.prog.cellsOf 4 = 1 := by kernel_rfl
theorem cellsStr : Tryz.prog.cellsOf 9 = 1 := by kernel_rfl
theorem cellsU8 : Tryz.prog.cellsOf 5 = 1 := by kernel_rfl
theorem cellsTs : Tryz.prog.cellsOf 22 = 1 := by kernel_rfl
theorem cellsP : Tryz.prog.cellsOf 24 = 22 := by kernel_rfl

section
variable {H : Type} {enc : TypeId × Value → H} {W : World} {fuel : Nat}
set_option maxRecDepth 100000 in
theorem txts_of {c : Value} {y : DataW H × List MemPlace} (h : DataW.trod enc Tryz.prog W 0 (fun _ => true) true fuel 22 [c] = some y) : ∃ xs, TxAt W c xs := by
  rcases Go.Deep.open_slice Tryz.underlying22 h with ⟨hc, _⟩ | ⟨a, len, cap, m, n, D, Pl, hc, _, hl, hmx, hm, _, hx⟩
  · simp only [List.cons.injEq, and_true] at hc
    subst hc
    exact ⟨[], TxAt.nil W⟩
  · simp only [List.cons.injEq, and_true] at hc
    subst hc
    simp only [if_true] at hm
    subst hm
    have each : ∀ i : Nat, ∃ q : List UInt8, i < len → W.cell? (a.add i) = some (.string (bs q)) := by
      intro i
      by_cases hi : i < len
      · obtain ⟨cs', h1, h2⟩ := hx i (by omega)
        rw [cellsStr] at h1
        obtain ⟨hlen, _, hcell⟩ := World.cells?_some h1
        obtain ⟨T, hT, _, _⟩ := DataW.trod_string Tryz.underlying9 h2
        refine ⟨T.data.toList, fun _ => ?_⟩
        have := hcell 0 (by decide)
        rw [Go.Deep.add_add, Nat.mul_one, Nat.add_zero] at this
        rw [this, hT, bs_of]; rfl
      · exact ⟨[], fun h => absurd h hi⟩
    obtain ⟨f, hf⟩ := Classical.axiomOfChoice each
    have hlen : ((List.range len).map f).length = len := by simp
    refine ⟨(List.range len).map f, some a, m, by rw [hlen], ⟨by rw [hlen]; exact hl, fun e => by cases e⟩, fun k o hk => ?_⟩
    obtain ⟨hk', rfl⟩ := List.getElem?_eq_some_iff.1 hk
    rw [hlen] at hk'
    obtain ⟨b, off, spot⟩ := a
    have c0 := hf 0 (by omega)
    have hs : spot = none := by simpa [Addr.add] using World.cell?_spot c0
    subst hs
    have hc0 := hf k hk'
    simp only [Lib.add_plain] at hc0
    simp only [List.getElem_map, List.getElem_range]
    exact ⟨b, off, rfl, hc0⟩
set_option maxRecDepth 100000 in
theorem u8s_of {c : Value} {y : DataW H × List MemPlace} (h : DataW.trod enc Tryz.prog W 0 (fun _ => true) true fuel 70 [c] = some y) : ∃ xs, ByAt W c xs := by
  rcases Go.Deep.open_slice Tryz.underlying70 h with ⟨hc, _⟩ | ⟨a, len, cap, m, n, D, Pl, hc, _, hl, hmx, hm, _, hx⟩
  · simp only [List.cons.injEq, and_true] at hc
    subst hc
    exact ⟨[], ByAt.nil W⟩
  · simp only [List.cons.injEq, and_true] at hc
    subst hc
    simp only [if_true] at hm
    subst hm
    have each : ∀ i : Nat, ∃ q : UInt8, i < len → W.cell? (a.add i) = some (.int .u8 (q.toNat : Int)) := by
      intro i
      by_cases hi : i < len
      · obtain ⟨cs', h1, h2⟩ := hx i (by omega)
        rw [cellsU8] at h1
        obtain ⟨hlen, _, hcell⟩ := World.cells?_some h1
        obtain ⟨T, hT, _, hwf⟩ := DataW.trod_int Tryz.underlying5 h2
        have hr : 0 ≤ T ∧ T ≤ 255 := by
          simp [Lit.wf, IntKind.min, IntKind.max, IntKind.signed, IntKind.bits] at hwf
          omega
        refine ⟨UInt8.ofNat T.toNat, fun _ => ?_⟩
        have := hcell 0 (by decide)
        rw [Go.Deep.add_add, Nat.mul_one, Nat.add_zero] at this
        rw [this, hT, UInt8.toNat_ofNat', show ((T.toNat % 2 ^ 8 : Nat) : Int) = T by omega]; rfl
      · exact ⟨0, fun h => absurd h hi⟩
    obtain ⟨f, hf⟩ := Classical.axiomOfChoice each
    have hlen : ((List.range len).map f).length = len := by simp
    refine ⟨(List.range len).map f, some a, m, by rw [hlen], ⟨by rw [hlen]; exact hl, fun e => by cases e⟩, fun k o hk => ?_⟩
    obtain ⟨hk', rfl⟩ := List.getElem?_eq_some_iff.1 hk
    rw [hlen] at hk'
    obtain ⟨b, off, spot⟩ := a
    have c0 := hf 0 (by omega)
    have hs : spot = none := by simpa [Addr.add] using World.cell?_spot c0
    subst hs
    have hc0 := hf k hk'
    simp only [Lib.add_plain] at hc0
    simp only [List.getElem_map, List.getElem_range]
    exact ⟨b, off, rfl, hc0⟩
set_option maxRecDepth 100000 in
theorem u8s_open {base : Nat} {v : Value} {d : DataW H} {p : List MemPlace} (hv : Value.okWide Tryz.prog W .any base 70 v) (h : DataW.Trod enc Tryz.prog W 0 (fun _ => true) true 70 v d p) : ∃ l, ByAt W v l := by
  obtain ⟨a, len, cap, rfl⟩ := okWide_slice Tryz.underlying70 hv
  obtain ⟨fuel, hf⟩ := h
  exact u8s_of hf
set_option maxHeartbeats 4000000 in
set_option maxRecDepth 100000 in
theorem pf_cells {cs : List Value} {y : DataW H × List MemPlace} (h : DataW.trod enc Tryz.prog W 0 (fun _ => true) true fuel 24 cs = some y) :
    ∃ (q : Pf) (tv : Value), cs = [.string (bs q.name), .int .i64 q.edit, .int .i64 q.within, .int .i64 q.delete, .bool q.react, .int .i64 q.thread, .bool q.quote, .bool q.mention, .int .i64 q.size, .int .i64 q.parts, .int .i64 q.files, .int .i64 q.bytes, tv, .int .i64 q.join, .int .i64 q.history, .int .i64 q.remove, .int .i64 q.level, .bool q.batch, .int .i64 q.rate, .int .i64 q.down, .int .i64 q.window, .int .i64 q.keep] ∧ TxAt W tv q.types := by
  obtain ⟨xs, n, _, _, hl, hlen, hf⟩ := DataW.trod_struct Tryz.underlying24 h
  rw [cellsP] at hl
  match cs, hl, xs, hlen with
  | [c0, c1, c2, c3, c4, c5, c6, c7, c8, c9, c10, c11, c12, c13, c14, c15, c16, c17, c18, c19, c20, c21], _, [y0, y1, y2, y3, y4, y5, y6, y7, y8, y9, y10, y11, y12, y13, y14, y15, y16, y17, y18, y19, y20, y21], _ =>
    have t0 : DataW.trod enc Tryz.prog W 0 (fun _ => true) true n 9 (([c0, c1, c2, c3, c4, c5, c6, c7, c8, c9, c10, c11, c12, c13, c14, c15, c16, c17, c18, c19, c20, c21].drop 0).take (Tryz.prog.cellsOf 9)) = some y0 := hf 0 _ rfl
    rw [cellsStr] at t0
    have t0 : DataW.trod enc Tryz.prog W 0 (fun _ => true) true n 9 [c0] = some y0 := t0
    have t1 : DataW.trod enc Tryz.prog W 0 (fun _ => true) true n 3 (([c0, c1, c2, c3, c4, c5, c6, c7, c8, c9, c10, c11, c12, c13, c14, c15, c16, c17, c18, c19, c20, c21].drop 1).take (Tryz.prog.cellsOf 3)) = some y1 := hf 1 _ rfl
    rw [cellsI] at t1
    have t1 : DataW.trod enc Tryz.prog W 0 (fun _ => true) true n 3 [c1] = some y1 := t1
    have t2 : DataW.trod enc Tryz.prog W 0 (fun _ => true) true n 3 (([c0, c1, c2, c3, c4, c5, c6, c7, c8, c9, c10, c11, c12, c13, c14, c15, c16, c17, c18, c19, c20, c21].drop 2).take (Tryz.prog.cellsOf 3)) = some y2 := hf 2 _ rfl
    rw [cellsI] at t2
    have t2 : DataW.trod enc Tryz.prog W 0 (fun _ => true) true n 3 [c2] = some y2 := t2
    have t3 : DataW.trod enc Tryz.prog W 0 (fun _ => true) true n 3 (([c0, c1, c2, c3, c4, c5, c6, c7, c8, c9, c10, c11, c12, c13, c14, c15, c16, c17, c18, c19, c20, c21].drop 3).take (Tryz.prog.cellsOf 3)) = some y3 := hf 3 _ rfl
    rw [cellsI] at t3
    have t3 : DataW.trod enc Tryz.prog W 0 (fun _ => true) true n 3 [c3] = some y3 := t3
    have t4 : DataW.trod enc Tryz.prog W 0 (fun _ => true) true n 4 (([c0, c1, c2, c3, c4, c5, c6, c7, c8, c9, c10, c11, c12, c13, c14, c15, c16, c17, c18, c19, c20, c21].drop 4).take (Tryz.prog.cellsOf 4)) = some y4 := hf 4 _ rfl
    rw [cellsB] at t4
    have t4 : DataW.trod enc Tryz.prog W 0 (fun _ => true) true n 4 [c4] = some y4 := t4
    have t5 : DataW.trod enc Tryz.prog W 0 (fun _ => true) true n 3 (([c0, c1, c2, c3, c4, c5, c6, c7, c8, c9, c10, c11, c12, c13, c14, c15, c16, c17, c18, c19, c20, c21].drop 5).take (Tryz.prog.cellsOf 3)) = some y5 := hf 5 _ rfl
    rw [cellsI] at t5
    have t5 : DataW.trod enc Tryz.prog W 0 (fun _ => true) true n 3 [c5] = some y5 := t5
    have t6 : DataW.trod enc Tryz.prog W 0 (fun _ => true) true n 4 (([c0, c1, c2, c3, c4, c5, c6, c7, c8, c9, c10, c11, c12, c13, c14, c15, c16, c17, c18, c19, c20, c21].drop 6).take (Tryz.prog.cellsOf 4)) = some y6 := hf 6 _ rfl
    rw [cellsB] at t6
    have t6 : DataW.trod enc Tryz.prog W 0 (fun _ => true) true n 4 [c6] = some y6 := t6
    have t7 : DataW.trod enc Tryz.prog W 0 (fun _ => true) true n 4 (([c0, c1, c2, c3, c4, c5, c6, c7, c8, c9, c10, c11, c12, c13, c14, c15, c16, c17, c18, c19, c20, c21].drop 7).take (Tryz.prog.cellsOf 4)) = some y7 := hf 7 _ rfl
    rw [cellsB] at t7
    have t7 : DataW.trod enc Tryz.prog W 0 (fun _ => true) true n 4 [c7] = some y7 := t7
    have t8 : DataW.trod enc Tryz.prog W 0 (fun _ => true) true n 3 (([c0, c1, c2, c3, c4, c5, c6, c7, c8, c9, c10, c11, c12, c13, c14, c15, c16, c17, c18, c19, c20, c21].drop 8).take (Tryz.prog.cellsOf 3)) = some y8 := hf 8 _ rfl
    rw [cellsI] at t8
    have t8 : DataW.trod enc Tryz.prog W 0 (fun _ => true) true n 3 [c8] = some y8 := t8
    have t9 : DataW.trod enc Tryz.prog W 0 (fun _ => true) true n 3 (([c0, c1, c2, c3, c4, c5, c6, c7, c8, c9, c10, c11, c12, c13, c14, c15, c16, c17, c18, c19, c20, c21].drop 9).take (Tryz.prog.cellsOf 3)) = some y9 := hf 9 _ rfl
    rw [cellsI] at t9
    have t9 : DataW.trod enc Tryz.prog W 0 (fun _ => true) true n 3 [c9] = some y9 := t9
    have t10 : DataW.trod enc Tryz.prog W 0 (fun _ => true) true n 3 (([c0, c1, c2, c3, c4, c5, c6, c7, c8, c9, c10, c11, c12, c13, c14, c15, c16, c17, c18, c19, c20, c21].drop 10).take (Tryz.prog.cellsOf 3)) = some y10 := hf 10 _ rfl
    rw [cellsI] at t10
    have t10 : DataW.trod enc Tryz.prog W 0 (fun _ => true) true n 3 [c10] = some y10 := t10
    have t11 : DataW.trod enc Tryz.prog W 0 (fun _ => true) true n 3 (([c0, c1, c2, c3, c4, c5, c6, c7, c8, c9, c10, c11, c12, c13, c14, c15, c16, c17, c18, c19, c20, c21].drop 11).take (Tryz.prog.cellsOf 3)) = some y11 := hf 11 _ rfl
    rw [cellsI] at t11
    have t11 : DataW.trod enc Tryz.prog W 0 (fun _ => true) true n 3 [c11] = some y11 := t11
    have t12 : DataW.trod enc Tryz.prog W 0 (fun _ => true) true n 22 (([c0, c1, c2, c3, c4, c5, c6, c7, c8, c9, c10, c11, c12, c13, c14, c15, c16, c17, c18, c19, c20, c21].drop 12).take (Tryz.prog.cellsOf 22)) = some y12 := hf 12 _ rfl
    rw [cellsTs] at t12
    have t12 : DataW.trod enc Tryz.prog W 0 (fun _ => true) true n 22 [c12] = some y12 := t12
    have t13 : DataW.trod enc Tryz.prog W 0 (fun _ => true) true n 3 (([c0, c1, c2, c3, c4, c5, c6, c7, c8, c9, c10, c11, c12, c13, c14, c15, c16, c17, c18, c19, c20, c21].drop 13).take (Tryz.prog.cellsOf 3)) = some y13 := hf 13 _ rfl
    rw [cellsI] at t13
    have t13 : DataW.trod enc Tryz.prog W 0 (fun _ => true) true n 3 [c13] = some y13 := t13
    have t14 : DataW.trod enc Tryz.prog W 0 (fun _ => true) true n 3 (([c0, c1, c2, c3, c4, c5, c6, c7, c8, c9, c10, c11, c12, c13, c14, c15, c16, c17, c18, c19, c20, c21].drop 14).take (Tryz.prog.cellsOf 3)) = some y14 := hf 14 _ rfl
    rw [cellsI] at t14
    have t14 : DataW.trod enc Tryz.prog W 0 (fun _ => true) true n 3 [c14] = some y14 := t14
    have t15 : DataW.trod enc Tryz.prog W 0 (fun _ => true) true n 3 (([c0, c1, c2, c3, c4, c5, c6, c7, c8, c9, c10, c11, c12, c13, c14, c15, c16, c17, c18, c19, c20, c21].drop 15).take (Tryz.prog.cellsOf 3)) = some y15 := hf 15 _ rfl
    rw [cellsI] at t15
    have t15 : DataW.trod enc Tryz.prog W 0 (fun _ => true) true n 3 [c15] = some y15 := t15
    have t16 : DataW.trod enc Tryz.prog W 0 (fun _ => true) true n 3 (([c0, c1, c2, c3, c4, c5, c6, c7, c8, c9, c10, c11, c12, c13, c14, c15, c16, c17, c18, c19, c20, c21].drop 16).take (Tryz.prog.cellsOf 3)) = some y16 := hf 16 _ rfl
    rw [cellsI] at t16
    have t16 : DataW.trod enc Tryz.prog W 0 (fun _ => true) true n 3 [c16] = some y16 := t16
    have t17 : DataW.trod enc Tryz.prog W 0 (fun _ => true) true n 4 (([c0, c1, c2, c3, c4, c5, c6, c7, c8, c9, c10, c11, c12, c13, c14, c15, c16, c17, c18, c19, c20, c21].drop 17).take (Tryz.prog.cellsOf 4)) = some y17 := hf 17 _ rfl
    rw [cellsB] at t17
    have t17 : DataW.trod enc Tryz.prog W 0 (fun _ => true) true n 4 [c17] = some y17 := t17
    have t18 : DataW.trod enc Tryz.prog W 0 (fun _ => true) true n 3 (([c0, c1, c2, c3, c4, c5, c6, c7, c8, c9, c10, c11, c12, c13, c14, c15, c16, c17, c18, c19, c20, c21].drop 18).take (Tryz.prog.cellsOf 3)) = some y18 := hf 18 _ rfl
    rw [cellsI] at t18
    have t18 : DataW.trod enc Tryz.prog W 0 (fun _ => true) true n 3 [c18] = some y18 := t18
    have t19 : DataW.trod enc Tryz.prog W 0 (fun _ => true) true n 3 (([c0, c1, c2, c3, c4, c5, c6, c7, c8, c9, c10, c11, c12, c13, c14, c15, c16, c17, c18, c19, c20, c21].drop 19).take (Tryz.prog.cellsOf 3)) = some y19 := hf 19 _ rfl
    rw [cellsI] at t19
    have t19 : DataW.trod enc Tryz.prog W 0 (fun _ => true) true n 3 [c19] = some y19 := t19
    have t20 : DataW.trod enc Tryz.prog W 0 (fun _ => true) true n 3 (([c0, c1, c2, c3, c4, c5, c6, c7, c8, c9, c10, c11, c12, c13, c14, c15, c16, c17, c18, c19, c20, c21].drop 20).take (Tryz.prog.cellsOf 3)) = some y20 := hf 20 _ rfl
    rw [cellsI] at t20
    have t20 : DataW.trod enc Tryz.prog W 0 (fun _ => true) true n 3 [c20] = some y20 := t20
    have t21 : DataW.trod enc Tryz.prog W 0 (fun _ => true) true n 3 (([c0, c1, c2, c3, c4, c5, c6, c7, c8, c9, c10, c11, c12, c13, c14, c15, c16, c17, c18, c19, c20, c21].drop 21).take (Tryz.prog.cellsOf 3)) = some y21 := hf 21 _ rfl
    rw [cellsI] at t21
    have t21 : DataW.trod enc Tryz.prog W 0 (fun _ => true) true n 3 [c21] = some y21 := t21
    obtain ⟨v0, e0, _, _⟩ := DataW.trod_string Tryz.underlying9 t0
    obtain ⟨v1, e1, _, _⟩ := DataW.trod_int Tryz.underlying3 t1
    obtain ⟨v2, e2, _, _⟩ := DataW.trod_int Tryz.underlying3 t2
    obtain ⟨v3, e3, _, _⟩ := DataW.trod_int Tryz.underlying3 t3
    obtain ⟨v4, e4, _⟩ := DataW.trod_bool Tryz.underlying4 t4
    obtain ⟨v5, e5, _, _⟩ := DataW.trod_int Tryz.underlying3 t5
    obtain ⟨v6, e6, _⟩ := DataW.trod_bool Tryz.underlying4 t6
    obtain ⟨v7, e7, _⟩ := DataW.trod_bool Tryz.underlying4 t7
    obtain ⟨v8, e8, _, _⟩ := DataW.trod_int Tryz.underlying3 t8
    obtain ⟨v9, e9, _, _⟩ := DataW.trod_int Tryz.underlying3 t9
    obtain ⟨v10, e10, _, _⟩ := DataW.trod_int Tryz.underlying3 t10
    obtain ⟨v11, e11, _, _⟩ := DataW.trod_int Tryz.underlying3 t11
    obtain ⟨v12, e12⟩ := txts_of t12
    obtain ⟨v13, e13, _, _⟩ := DataW.trod_int Tryz.underlying3 t13
    obtain ⟨v14, e14, _, _⟩ := DataW.trod_int Tryz.underlying3 t14
    obtain ⟨v15, e15, _, _⟩ := DataW.trod_int Tryz.underlying3 t15
    obtain ⟨v16, e16, _, _⟩ := DataW.trod_int Tryz.underlying3 t16
    obtain ⟨v17, e17, _⟩ := DataW.trod_bool Tryz.underlying4 t17
    obtain ⟨v18, e18, _, _⟩ := DataW.trod_int Tryz.underlying3 t18
    obtain ⟨v19, e19, _, _⟩ := DataW.trod_int Tryz.underlying3 t19
    obtain ⟨v20, e20, _, _⟩ := DataW.trod_int Tryz.underlying3 t20
    obtain ⟨v21, e21, _, _⟩ := DataW.trod_int Tryz.underlying3 t21
    simp only [List.cons.injEq, and_true] at e0 e1 e2 e3 e4 e5 e6 e7 e8 e9 e10 e11 e13 e14 e15 e16 e17 e18 e19 e20 e21
    subst e0 e1 e2 e3 e4 e5 e6 e7 e8 e9 e10 e11 e13 e14 e15 e16 e17 e18 e19 e20 e21
    exact ⟨⟨v0.data.toList, v1, v2, v3, v4, v5, v6, v7, v8, v9, v10, v11, v12, v13, v14, v15, v16, v17, v18, v19, v20, v21⟩, c12, by rw [bs_of], e12⟩
set_option maxRecDepth 100000 in
theorem pf_open {base : Nat} {v : Value} {d : DataW H} {p : List MemPlace} (hv : Value.okWide Tryz.prog W .any base 24 v) (h : DataW.Trod enc Tryz.prog W 0 (fun _ => true) true 24 v d p) : ∃ q, PfAt W v q := by
  obtain ⟨⟨cs⟩, rfl, _⟩ := okWide_struct Tryz.underlying24 hv
  obtain ⟨fuel, hf⟩ := h
  obtain ⟨q, tv, hc, ha⟩ := pf_cells hf
  have hc : cs = _ := hc
  subst hc
  exact ⟨q, tv, rfl, ha⟩
end
theorem rdU : Tryz.prog.readableRec 70 = true := by kernel_rfl
theorem rowU : 70 < Tryz.prog.types.size := by decide +kernel
theorem rdP : Tryz.prog.readableRec 24 = true := by kernel_rfl
theorem rowP : 24 < Tryz.prog.types.size := by decide +kernel
end Go.Proofs.YtlefgffnjcmfoaaGreatDoor
