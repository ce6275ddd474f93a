/- The program's check of shares. -/
import Derived.Test.YtemokedoeneibaaSThr
namespace Go.Proofs.Ytemokedoeneibaa
open Go.RowKit Go.Maps Go.ChangeMaps Go.MapKept
open Sp
attribute [local go_sem ↓] Go.wp_at_zero Go.wp_at_succ

/-- Which places are seen. -/
def seenB (xs : List Int) (i : Nat) : Bool := decide ((i : Int) ∈ xs)
def seenCs (xs : List Int) : Array Value := ((List.range 21).map fun i => Value.bool (seenB xs i)).toArray
theorem seen_nil : seenCs [] = #[.bool false, .bool false, .bool false, .bool false, .bool false, .bool false, .bool false, .bool false, .bool false, .bool false, .bool false, .bool false, .bool false, .bool false, .bool false, .bool false, .bool false, .bool false, .bool false, .bool false, .bool false] := by simp [seenCs, seenB, List.range, List.range.loop]
theorem seen_at (xs : List Int) {i : Nat} (h : i < 21) : (seenCs xs)[i]? = some (.bool (seenB xs i)) := by
  unfold seenCs
  rw [List.getElem?_toArray, List.getElem?_map, List.getElem?_range h]; rfl
theorem seen_add (xs : List Int) {i : Nat} (h : i < 21) : (seenCs xs).setIfInBounds i (.bool true) = seenCs (xs ++ [(i : Int)]) := by
  apply Array.ext_getElem?
  intro j
  rw [Array.getElem?_setIfInBounds]
  by_cases hj : j < 21
  · by_cases hij : i = j
    · subst hij
      rw [if_pos rfl, if_pos (by simp [seenCs]; omega), seen_at _ hj, show seenB (xs ++ [(i : Int)]) i = true from decide_eq_true (List.mem_append_right _ (List.mem_singleton.2 rfl))]
    · rw [if_neg hij, seen_at _ hj, seen_at _ hj]
      have : (j : Int) ≠ (i : Int) := by omega
      simp [seenB, this]
  · have h1 : ∀ ys, (seenCs ys)[j]? = none := fun ys => Array.getElem?_eq_none (by simp [seenCs]; omega)
    rw [h1, h1, if_neg (by omega)]
theorem wrong_k {l : List Pt} {k : Int} (h : isN k = false) : wrong l k = 1 := by
  unfold wrong
  rw [if_pos (by have := of_decide_eq_false h; omega)]
theorem wrong_pt {l : List Pt} {k : Int} {q : Pt} (h : isN k = true) (hq : q ∈ l) (h1 : ¬ okPt q = true) : wrong l k = 1 := by
  have := of_decide_eq_true h
  unfold wrong
  rw [if_neg (by omega), if_neg (fun h2 => h1 (List.all_eq_true.1 h2 q hq))]
theorem ok_of {q : Pt} (h1 : isN q.1 = true) (h2 : inF q.2 = true) : okPt q = true := by
  have h1 := of_decide_eq_true h1
  have h2 := of_decide_eq_true h2
  exact decide_eq_true ⟨h1.1, h1.2, h2.1, h2.2⟩
theorem ok_n {q : Pt} (h1 : isN q.1 = false) : ¬ okPt q = true := fun h => by
  have h1 := of_decide_eq_false h1
  have h := of_decide_eq_true h
  exact h1 ⟨h.1, h.2.1⟩
theorem ok_f {q : Pt} (h1 : inF q.2 = false) : ¬ okPt q = true := fun h => by
  have h1 := of_decide_eq_false h1
  have h := of_decide_eq_true h
  exact h1 ⟨h.2.2.1, h.2.2.2⟩
theorem take_all {l : List Pt} {m : Nat} {q : Pt} (h : (l.take m).all okPt = true) (hq : l[m]? = some q) (ho : okPt q = true) : (l.take (m + 1)).all okPt = true := by
  rw [List.take_add_one, hq, List.all_append, h]
  simp [ho]
theorem wrong_two {l : List Pt} {k : Int} {m : Nat} {q : Pt} (h : isN k = true) (ha : l.all okPt = true) (hq : l[m]? = some q) (hm : q.1 ∈ (l.take m).map (·.1)) : wrong l k = 5 := by
  have := of_decide_eq_true h
  unfold wrong
  rw [if_neg (by omega), if_pos ha, if_neg]
  intro hn
  obtain ⟨r, hr, he⟩ := List.mem_map.1 hm
  obtain ⟨j, hj⟩ := List.mem_iff_getElem?.1 hr
  rw [List.getElem?_take] at hj
  split at hj
  · exact place_ne hn hq hj (by omega) he
  · cases hj
theorem nodup_add {l : List Pt} {m : Nat} {q : Pt} (h : ((l.take m).map (·.1)).Nodup) (hq : l[m]? = some q) (hm : ¬ q.1 ∈ (l.take m).map (·.1)) : ((l.take (m + 1)).map (·.1)).Nodup := by
  rw [List.take_add_one, hq, List.map_append]
  simp only [Option.toList, List.map_cons, List.map_nil]
  rw [List.nodup_append]
  exact ⟨h, by simp, fun a ha b hb e => by simp at hb; subst hb; subst e; exact hm ha⟩
theorem wrong_none {l : List Pt} {k : Int} (h : isN k = true) (ha : l.all okPt = true) (hn : (l.map (·.1)).Nodup) : wrong l k = 0 := by
  have := of_decide_eq_true h
  unfold wrong
  rw [if_neg (by omega), if_pos ha, if_pos hn]
theorem places_snoc {l : List Pt} {m : Nat} {q : Pt} (hq : l[m]? = some q) : (l.take (m + 1)).map (·.1) = (l.take m).map (·.1) ++ [q.1] := by
  rw [List.take_add_one, hq, List.map_append]; rfl
section
variable {w : World}
set_option maxHeartbeats 1000000 in
set_option maxRecDepth 100000 in
theorem g_check {v : Value} {l : List Pt} {k : Int} (hv : SharesAt w v l) (hn : l.length ≤ 100000) :
    Calls Try.prog 22 #[v, .int .i64 k] w fun e w' => e = .returned (.int .i64 (wrong l k)) ∧ Below w.heap.size w w' := by
  have HV := Lib.hid hv
  obtain ⟨a, cap, rfl, _⟩ := hv
  cases hk : isN k with
  | false =>
    have HN := g_count (w := w) k
    rw [hk] at HN
    have HN := Lib.hid HN
    have HR := Lib.hid (wrong_k (l := l) hk)
    go_enter Try.func22, Try.ntmps22
    go_wp2_with (go_at_call 19; refine (HN.out).mono ?_; rintro e w1 ⟨rfl, rfl⟩; refine Hid.out ?_)
    refine Lib.hid ?_
    go_wp2
    go_ret
    exact ⟨ret_int HR.out.symm, Below.refl _ _⟩
  | true =>
    have HN := g_count (w := w) k
    rw [hk] at HN
    have HN := Lib.hid HN
    have HK := Lib.hid hk
    clear hk
    go_enter Try.func22, Try.ntmps22
    go_wp2_with (go_at_call 19; refine (HN.out).mono ?_; rintro e w1 ⟨rfl, rfl⟩; refine Hid.out ?_)
    refine Lib.hid ?_
    clear HN
    go_wp2
    go_loopw [15] (fun i wr => ∃ (m : Nat), m ≤ l.length ∧ i = .int .i64 (m : Int) ∧ Hid ((l.take m).all okPt = true) ∧ Below w.heap.size w wr) (fun i _ => l.length - (intOf i).toNat)
    case atStart => exact ⟨0, Nat.zero_le _, rfl, Lib.hid rfl, Below.refl _ _⟩
    case round =>
      obtain ⟨m, hm, rfl, HA, hb⟩ := hrel
      have HB := Lib.hid hb
      by_cases hlt : m < l.length
      · obtain ⟨q, hq⟩ : ∃ q, l[m]? = some q := ⟨_, List.getElem?_eq_getElem hlt⟩
        obtain ⟨b, off, cap', h1, _, hc⟩ := (HV.out.keep hb).form (by omega)
        cases h1
        obtain ⟨c0, c1⟩ := hc m q hq
        have HQ := Lib.hid hq
        clear hc hq hb
        have hal := Lib.hid (HB.out.alloc HB.out.size (.cells #[.int .i64 q.1, .int .i64 q.2] 39))
        have HC := fun w => g_count (w := w) q.1
        have HE := fun w => g_elem (w := w) q.2
        cases h1 : isN q.1 with
        | false =>
          have HW := Lib.hid (wrong_pt HK.out (List.mem_of_getElem? HQ.out) (ok_n h1))
          rw [h1] at HC
          have HC := Lib.hid HC
          clear h1 HE
          go_wp2_with (go_at_call 19; refine (HC.out _).mono ?_; rintro e w1 ⟨rfl, rfl⟩; refine Hid.out ?_)
          refine Lib.hid ?_
          go_wp2
          go_ret
          exact ⟨ret_int HW.out.symm, hal.out⟩
        | true =>
          rw [h1] at HC
          have HC := Lib.hid HC
          cases h2 : inF q.2 with
          | false =>
            have HW := Lib.hid (wrong_pt HK.out (List.mem_of_getElem? HQ.out) (ok_f h2))
            rw [h2] at HE
            have HE := Lib.hid HE
            clear h1 h2
            go_wp2_with (go_at_call 19; refine (HC.out _).mono ?_; rintro e w1 ⟨rfl, rfl⟩; refine Hid.out ?_)
            refine Lib.hid ?_
            go_wp2_with (go_at_call 18; refine (HE.out _).mono ?_; rintro e w1 ⟨rfl, rfl⟩; refine Hid.out ?_)
            refine Lib.hid ?_
            go_wp2
            go_ret
            exact ⟨ret_int HW.out.symm, hal.out⟩
          | true =>
            have HW := Lib.hid (take_all HA.out HQ.out (ok_of h1 h2))
            rw [h2] at HE
            have HE := Lib.hid HE
            clear h1 h2
            go_wp2_with (go_at_call 19; refine (HC.out _).mono ?_; rintro e w1 ⟨rfl, rfl⟩; refine Hid.out ?_)
            refine Lib.hid ?_
            go_wp2_with (go_at_call 18; refine (HE.out _).mono ?_; rintro e w1 ⟨rfl, rfl⟩; refine Hid.out ?_)
            refine Lib.hid ?_
            go_wp2
            go_roundw
            case rel => exact ⟨m + 1, by omega, by go_num, HW, hal.out⟩
            case measure => simp [intOf]; omega
      · obtain rfl : m = l.length := by omega
        have ha := HA.out
        rw [List.take_length] at ha
        have HA := Lib.hid ha
        clear ha hb
        go_wp2
        have M0 := ((OMem.start w).fresh HB.out).raw (.cells (seenCs []) 52 (0, 0))
        rw [List.nil_append, seen_nil] at M0
        generalize wr.heap.size = B at *
        generalize wr.alloc _ = w1 at *
        rw [← seen_nil] at M0
        have M0 := Lib.hid M0
        go_loopw [32] (fun i wr => ∃ (m : Nat), m ≤ l.length ∧ i = .int .i64 (m : Int) ∧ Hid (((l.take m).map (·.1)).Nodup) ∧ OMem w wr [.raw B (.cells (seenCs ((l.take m).map (·.1))) 52 (0, 0))]) (fun i _ => l.length - (intOf i).toNat)
        case atStart => exact ⟨0, Nat.zero_le _, rfl, Lib.hid List.nodup_nil, M0.out⟩
        case round =>
          obtain ⟨m, hm, rfl, HN, M⟩ := hrel
          by_cases hlt : m < l.length
          · obtain ⟨q, hq⟩ : ∃ q, l[m]? = some q := ⟨_, List.getElem?_eq_getElem hlt⟩
            obtain ⟨b, off, cap', h1, _, hc⟩ := (HV.out.keep M.below).form (by omega)
            cases h1
            obtain ⟨c0, c1⟩ := hc m q hq
            have hok := of_decide_eq_true (List.all_eq_true.1 HA.out q (List.mem_of_getElem? hq))
            obtain ⟨x, hx⟩ : ∃ x : Nat, q.1 = (x : Int) := ⟨q.1.toNat, by omega⟩
            have hx1 : x ≤ 20 := by omega
            have HQ := Lib.hid hq
            have M2 := M.fresh ((Below.refl wr.heap.size wr).alloc (Nat.le_refl _) (.cells #[.int .i64 q.1, .int .i64 q.2] 39))
            have hraw := M2.raw_at (i := 0) rfl
            have d0 : (wr.alloc (.cells #[.int .i64 q.1, .int .i64 q.2] 39)).cell? ⟨B, x, none⟩ = some (.bool (seenB ((l.take m).map (·.1)) x)) := by rw [Lib.cell_of_heap hraw]; exact seen_at _ (by omega)
            rw [hx] at c0 d0 hraw
            cases hs : seenB ((l.take m).map (·.1)) x with
            | true =>
              have HW := Lib.hid (wrong_two HK.out HA.out hq (by rw [hx]; exact of_decide_eq_true hs))
              have HM := Lib.hid M2.below
              rw [hs] at d0
              clear hs hq hc M M2 hraw hok
              go_wp2
              go_ret
              exact ⟨ret_int HW.out.symm, by have := HM.out; rwa [hx] at this⟩
            | false =>
              have HD := Lib.hid (nodup_add HN.out hq (by rw [hx]; exact of_decide_eq_false hs))
              have f0 := Lib.frozen_of_heap hraw x
              have hset := M2.raw_set (i := 0) rfl x (.bool true)
              rw [seen_add _ (by omega), ← hx, ← places_snoc hq, hx] at hset
              have HM := Lib.hid hset
              rw [hs] at d0
              clear hs hq hc M M2 hraw hok hset
              go_wp2
              go_roundw
              case rel => exact ⟨m + 1, by omega, by go_num, HD, HM.out⟩
              case measure => simp [intOf]; omega
          · obtain rfl : m = l.length := by omega
            have hnd := HN.out
            rw [List.take_length] at hnd
            have HW := Lib.hid (wrong_none HK.out HA.out hnd)
            have HM := Lib.hid M.below
            clear hnd M
            go_wp2
            go_ret
            exact ⟨ret_int HW.out.symm, HM.out⟩
end
end Go.Proofs.Ytemokedoeneibaa
