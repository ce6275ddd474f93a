/- The values of the statements of layer 1: how they lie in memory, and the statements' helpers on them. -/
import Derived.Test.YtplejiaddemjhaaDoorAgain
namespace Go.Proofs.YtplejiaddemjhaaDoor
open Go.RowKit Go.Shelf

/-- A value to write. -/
structure Val where
  K : Int
  N : Int
  S : List UInt8
  L : List Int
  T : List (List UInt8)

structure Val.Ok (x : Val) : Prop where
  K : Sp.I64 x.K
  N : Sp.I64 x.N
  L : ∀ z ∈ x.L, Sp.I64 z

/-- Five cells that hold a value, from an address on. -/
structure Cells5 (w : World) (b o : Nat) (x : Val) (vL vT : Value) : Prop where
  c0 : w.cell? ⟨b, o, none⟩ = some (.int .i64 x.K)
  c1 : w.cell? ⟨b, o + 1, none⟩ = some (.int .i64 x.N)
  c2 : w.cell? ⟨b, o + 2, none⟩ = some (.string (bs x.S))
  c3 : w.cell? ⟨b, o + 3, none⟩ = some vL
  c4 : w.cell? ⟨b, o + 4, none⟩ = some vT

/-- A slice of values. -/
def ValsAt (w : World) (v : Value) (xs : List Val) : Prop :=
  ∃ a cap, v = .slice a xs.length cap ∧ (xs = [] ∨ ∃ b off, a = some ⟨b, off, none⟩ ∧ b < w.heap.size ∧ ∀ i x, xs[i]? = some x → ∃ vL vT, Cells5 w b (off + i * 5) x vL vT ∧ IntsAt w vL x.L ∧ TextsAt w vT x.T)

/-- What 'few' says of a value. -/
def Small (x : Val) : Prop := x.S.length ≤ 400 ∧ x.L.length ≤ 400 ∧ x.T.length ≤ 400 ∧ ∀ t ∈ x.T, t.length ≤ 400

def tsum (ts : List (List UInt8)) : Nat := (ts.map List.length).sum
def Val.size (x : Val) : Nat := x.S.length + x.L.length + x.T.length + tsum x.T
def vsum (xs : List Val) : Nat := (xs.map Val.size).sum
open Classical in
/-- What 'few' returns. -/
noncomputable def fewB (xs : List Val) : Bool := decide (xs.length ≤ 20 ∧ (∀ x ∈ xs, Small x) ∧ vsum xs ≤ 400)
theorem fewB_iff (xs : List Val) : fewB xs = true ↔ (xs.length ≤ 20 ∧ (∀ x ∈ xs, Small x) ∧ vsum xs ≤ 400) := by simp [fewB]
theorem fewB_true {xs : List Val} (h : fewB xs = true) : xs.length ≤ 20 ∧ (∀ x ∈ xs, Small x) ∧ vsum xs ≤ 400 := by simpa [fewB] using h
theorem fewB_not {xs : List Val} (h : ¬ (xs.length ≤ 20 ∧ (∀ x ∈ xs, Small x) ∧ vsum xs ≤ 400)) : fewB xs = false := by
  unfold fewB; rw [decide_eq_false_iff_not]; exact h
theorem fewB_eq {xs : List Val} (h : xs.length ≤ 20 ∧ (∀ x ∈ xs, Small x)) (m : Nat) (hm : vsum xs = m) : fewB xs = decide ((m : Int) ≤ 400) := by
  rw [Bool.eq_iff_iff, fewB_iff, decide_eq_true_iff]
  exact ⟨fun x => by have := x.2.2; omega, fun x => ⟨h.1, h.2, by omega⟩⟩
theorem tsum_take (ts : List (List UInt8)) (i : Nat) (h : i < ts.length) : tsum (ts.take (i + 1)) = tsum (ts.take i) + ts[i].length := by
  rw [List.take_succ_eq_append_getElem h]; unfold tsum; rw [List.map_append, List.sum_append]; simp only [List.map_cons, List.map_nil, List.sum_cons, List.sum_nil, Nat.add_zero]
theorem vsum_take (xs : List Val) (i : Nat) (x : Val) (h : xs[i]? = some x) : vsum (xs.take (i + 1)) = vsum (xs.take i) + x.size := by
  obtain ⟨hi, rfl⟩ := List.getElem?_eq_some_iff.1 h
  rw [List.take_succ_eq_append_getElem hi]; unfold vsum; rw [List.map_append, List.sum_append]; simp only [List.map_cons, List.map_nil, List.sum_cons, List.sum_nil, Nat.add_zero]

set_option maxHeartbeats 1000000 in
set_option maxRecDepth 100000 in
theorem few_some (xs : List Val) (hlen : xs.length ≤ 20) (b off cap : Nat) (w : World) (hb : b < w.heap.size)
    (hc : ∀ i x, xs[i]? = some x → ∃ vL vT, Cells5 w b (off + i * 5) x vL vT ∧ IntsAt w vL x.L ∧ TextsAt w vT x.T) :
    Calls Tryd.prog 10 #[.slice (some ⟨b, off, none⟩) xs.length cap] w fun e w' => e = .returned (.bool (fewB xs)) ∧ Below w.heap.size w w' := by
  have HC := Lib.hid hc
  clear hc
  go_enter Tryd.func10, Tryd.ntmps10
  go_wp2
  go_loopw [2, 3, 4, 5] (fun r n i j wr => ∃ (k m : Nat), k ≤ xs.length ∧ i = .int .i64 k ∧ n = .int .i64 m ∧ m ≤ 162000 * k ∧ Hid (vsum (xs.take k) = m ∧ ∀ i x, i < k → xs[i]? = some x → Small x) ∧ Below w.heap.size w wr) (fun _ _ i _ _ => xs.length - (intOf i).toNat)
  case atStart => exact ⟨0, 0, Nat.zero_le _, rfl, rfl, by omega, Lib.hid ⟨rfl, fun i x h => absurd h (by omega)⟩, Below.refl _ _⟩
  case round =>
    obtain ⟨k, m, hk, rfl, rfl, hm, HS, kr⟩ := hrel
    by_cases hlt : k < xs.length
    · obtain ⟨vL, vT, h5, hL, hT⟩ := HC.out k xs[k] (List.getElem?_eq_getElem hlt)
      have hgx : xs[k]? = some xs[k] := List.getElem?_eq_getElem hlt
      generalize xs[k] = x at h5 hL hT hgx
      obtain ⟨aL, capL, rfl, _⟩ := hL
      obtain ⟨aT, capT, rfl, hT⟩ := hT
      have c2 : wr.cell? ⟨b, off + k * 5 + 2, none⟩ = some (.string (bs x.S)) := by rw [kr.cell (p := ⟨b, off + k * 5 + 2, none⟩) hb]; exact h5.c2
      have c3 : wr.cell? ⟨b, off + k * 5 + 3, none⟩ = some (.slice aL x.L.length capL) := by rw [kr.cell (p := ⟨b, off + k * 5 + 3, none⟩) hb]; exact h5.c3
      have c4 : wr.cell? ⟨b, off + k * 5 + 4, none⟩ = some (.slice aT x.T.length capT) := by rw [kr.cell (p := ⟨b, off + k * 5 + 4, none⟩) hb]; exact h5.c4
      have HX := Lib.hid hgx
      have HT := Lib.hid hT
      have hmem : x ∈ xs := List.mem_of_getElem? hgx
      clear hgx hT h5
      by_cases b1 : 400 < x.L.length
      · have HF := Lib.hid (fewB_not (xs := xs) (fun h => by have := (h.2.1 x hmem).2.1; omega))
        go_wp2
        go_ret
        exact ⟨ret_bool HF.out.symm, kr⟩
      by_cases b2 : 400 < x.T.length
      · have HF := Lib.hid (fewB_not (xs := xs) (fun h => by have := (h.2.1 x hmem).2.2.1; omega))
        go_wp2
        go_ret
        exact ⟨ret_bool HF.out.symm, kr⟩
      by_cases b3 : 400 < (bs x.S).size
      · have HF := Lib.hid (fewB_not (xs := xs) (fun h => by have := (h.2.1 x hmem).1; rw [bs_size] at b3; omega))
        go_wp2
        go_ret
        exact ⟨ret_bool HF.out.symm, kr⟩
      go_wp2
      go_quiet (fail)
      go_wp2
      have kr2 := below_drewN kr nq
      have d4 : (wr.drewN nq).cell? ⟨b, off + k * 5 + 4, none⟩ = some (.slice aT x.T.length capT) := c4
      clear c2 c3 c4 kr
      generalize wr.drewN nq = wo at kr2 d4 ⊢
      go_loop [3, 5] (fun n j => ∃ (i m2 : Nat), i ≤ x.T.length ∧ j = .int .i64 i ∧ n = .int .i64 m2 ∧ m2 ≤ m + 1200 + 400 * i ∧ Hid (m2 = m + x.S.length + x.L.length + x.T.length + tsum (x.T.take i)) ∧ Hid (∀ t ∈ x.T.take i, t.length ≤ 400)) (fun _ j => x.T.length - (intOf j).toNat)
      case atStart => exact ⟨0, m + (bs x.S).size + x.L.length + x.T.length, Nat.zero_le _, rfl, by simp, by omega, Lib.hid (by rw [bs_size]; simp [tsum]), Lib.hid (by simp)⟩
      case round =>
        obtain ⟨i, m2, hi, rfl, rfl, hm2, HM, HI⟩ := hrel
        by_cases hlt2 : i < x.T.length
        · obtain ⟨bt, ot, rfl, hbt, hct⟩ : ∃ bt ot, aT = some ⟨bt, ot, none⟩ ∧ bt < w.heap.size ∧ ∀ k, k < x.T.length → w.cell? ⟨bt, ot + k, none⟩ = some (.string (bs (x.T.getD k []))) := by
            rcases HT.out with h | h
            · rw [h] at hlt2; simp at hlt2
            · exact h
          have dt : wo.cell? ⟨bt, ot + i, none⟩ = some (.string (bs x.T[i])) := by
            rw [kr2.cell (p := ⟨bt, ot + i, none⟩) hbt, hct i hlt2, List.getD_eq_getElem?_getD, List.getElem?_eq_getElem hlt2]; rfl
          clear hct
          by_cases b4 : 400 < (bs x.T[i]).size
          · have HF := Lib.hid (fewB_not (xs := xs) (fun h => by have := (h.2.1 x hmem).2.2.2 _ (List.getElem_mem hlt2); rw [bs_size] at b4; omega))
            go_wp2
            go_ret
            exact ⟨ret_bool HF.out.symm, kr2⟩
          · have HB := Lib.hid (bs_size x.T[i])
            go_wp2
            go_round
            case rel =>
              refine ⟨i + 1, m2 + (bs x.T[i]).size, by omega, by go_num, by simp, by omega, Lib.hid ?_, Lib.hid (fun t ht => ?_)⟩
              · rw [tsum_take _ i hlt2, HM.out, HB.out]; omega
              · rw [List.take_succ_eq_append_getElem hlt2] at ht
                rcases List.mem_append.1 ht with h | h
                · exact HI.out t h
                · simp only [List.mem_singleton] at h
                  subst h
                  rw [bs_size] at b4; omega
            case measure => simp [intOf]; omega
        · go_wp2
          go_roundw
          case rel =>
            have hxT : x.T.take i = x.T := List.take_of_length_le (by omega)
            have hsx : Small x := by
              refine ⟨by rw [bs_size] at b3; omega, by omega, by omega, fun t ht => HI.out t ?_⟩
              rw [hxT]; exact ht
            refine ⟨k + 1, m2, by omega, by go_num, rfl, by omega, Lib.hid ⟨?_, fun i' x' hi' hx' => ?_⟩, kr2⟩
            · rw [vsum_take xs k x HX.out, HS.out.1, HM.out, hxT]
              unfold Val.size; omega
            · by_cases he : i' = k
              · subst he
                have : x' = x := Option.some.inj (hx'.symm.trans HX.out)
                subst this
                exact hsx
              · exact HS.out.2 i' x' (by omega) hx'
          case measure => simp [intOf]; omega
    · have hkl : k = xs.length := by omega
      have HK := Lib.hid hkl
      clear hkl
      go_wp2
      go_ret
      refine ⟨ret_bool (fewB_eq ⟨hlen, fun x hx => ?_⟩ m ?_).symm, kr⟩
      · obtain ⟨i, hi⟩ := List.getElem?_of_mem hx
        have := (List.getElem?_eq_some_iff.1 hi).1
        exact HS.out.2 i x (by have := HK.out; omega) hi
      · have := HS.out.1
        rwa [HK.out, List.take_length] at this
end Go.Proofs.YtplejiaddemjhaaDoor
