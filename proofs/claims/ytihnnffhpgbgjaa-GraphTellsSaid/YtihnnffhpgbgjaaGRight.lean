/- Right: a node that is valid. -/
import Derived.Test.YtihnnffhpgbgjaaGAux
namespace Go.Proofs.Ytihnnffhpgbgjaa
open Go.RowKit Go.Maps Go.ChangeMaps Go.MapKept
open Gp
attribute [local go_sem ↓] Go.wp_at_zero Go.wp_at_succ

/-- Parents that ascend, from a least number, below an id. -/
def climbs (id last : Int) : List Int → Bool
  | [] => true
  | p :: l => decide (last < p ∧ p < id) && climbs id p l
theorem climbs_iff (id : Int) : ∀ (l : List Int) (last : Int), climbs id last l = true ↔ (l.Pairwise (· < ·) ∧ ∀ p ∈ l, last < p ∧ p < id)
  | [], last => by simp [climbs]
  | p :: l, last => by
    unfold climbs
    rw [Bool.and_eq_true, climbs_iff id l p, decide_eq_true_iff, List.pairwise_cons]
    constructor
    · rintro ⟨⟨h1, h2⟩, h3, h4⟩
      refine ⟨⟨fun q hq => (h4 q hq).1, h3⟩, fun q hq => ?_⟩
      rcases List.mem_cons.1 hq with rfl | hq
      · exact ⟨h1, h2⟩
      · have := h4 q hq; exact ⟨by omega, this.2⟩
    · rintro ⟨⟨h1, h2⟩, h3⟩
      exact ⟨h3 p List.mem_cons_self, h2, fun q hq => ⟨h1 q hq, (h3 q (List.mem_cons_of_mem _ hq)).2⟩⟩
theorem right_climbs (n : Nd) : right n = (decide (0 ≤ n.1 ∧ n.1 < 100000) && climbs n.1 (-1) n.2) := by
  rw [Bool.eq_iff_iff, right_iff, Bool.and_eq_true, decide_eq_true_iff, climbs_iff]
  constructor
  · rintro ⟨h1, h2, h3⟩; exact ⟨h1, h2, fun p hp => by have := h3 p hp; omega⟩
  · rintro ⟨h1, h2, h3⟩; exact ⟨h1, h2, fun p hp => by have := h3 p hp; omega⟩
theorem drop_at {l : List Int} {k : Nat} {p : Int} (h : l[k]? = some p) : l.drop k = p :: l.drop (k + 1) := by
  obtain ⟨hk, rfl⟩ := List.getElem?_eq_some_iff.1 h
  exact List.drop_eq_getElem_cons hk
theorem climbs_stop {n : Nd} {k : Nat} {p last : Int} (hs : right n = (decide (0 ≤ n.1 ∧ n.1 < 100000) && climbs n.1 last (n.2.drop k))) (hp : n.2[k]? = some p) (h : ¬ (last < p ∧ p < n.1)) : right n = false := by
  rw [hs, drop_at hp]; unfold climbs; rw [decide_eq_false h]; simp
theorem climbs_on {n : Nd} {k : Nat} {p last : Int} (hs : right n = (decide (0 ≤ n.1 ∧ n.1 < 100000) && climbs n.1 last (n.2.drop k))) (hp : n.2[k]? = some p) (h : last < p ∧ p < n.1) :
    right n = (decide (0 ≤ n.1 ∧ n.1 < 100000) && climbs n.1 p (n.2.drop (k + 1))) := by
  rw [hs, drop_at hp]; conv => lhs; unfold climbs
  rw [decide_eq_true h, Bool.true_and]
theorem climbs_end {n : Nd} {last : Int} (hs : right n = (decide (0 ≤ n.1 ∧ n.1 < 100000) && climbs n.1 last (n.2.drop n.2.length))) : right n = decide (0 ≤ n.1 ∧ n.1 < 100000) := by
  rw [hs, List.drop_length]; simp [climbs]
set_option maxHeartbeats 1000000 in
set_option maxRecDepth 100000 in
theorem right_any {w : World} {pv : Value} {n : Nd} (hv : NumsAt w pv n.2) (hx : n.2.length ≤ 100000) :
    Calls Try.prog 40 #[.agg #[.int .i64 n.1, pv]] w fun e w' => e = .returned (.bool (right n)) ∧ Below w.heap.size w w' := by
  have HV := Lib.hid hv
  obtain ⟨a, cap, rfl, -⟩ := hv
  have HS := Lib.hid (show right n = (decide (0 ≤ n.1 ∧ n.1 < 100000) && climbs n.1 (-1) (n.2.drop 0)) by rw [List.drop_zero]; exact right_climbs n)
  go_enter Try.func40, Try.ntmps40
  go_wp2
  obtain ⟨w1, hw1⟩ : ∃ w1, w1 = w.alloc (.cells #[.int .i64 n.1, .slice a n.2.length cap] 32) := ⟨_, rfl⟩
  have B1 := Lib.hid (show Below w.heap.size w w1 by rw [hw1]; exact (Below.refl _ _).alloc (Nat.le_refl _) _)
  have C0 := Lib.hid (show w1.cell? ⟨w.heap.size, 0, none⟩ = some (.int .i64 n.1) by rw [hw1, Lib.cell_of_heap (MapKept.heap_alloc _ _).1]; rfl)
  have C1 := Lib.hid (show w1.cell? ⟨w.heap.size, 0 + 1, none⟩ = some (.slice a n.2.length cap) by rw [hw1, Lib.cell_of_heap (MapKept.heap_alloc _ _).1]; rfl)
  rw [← hw1]
  go_loopw [3, 4] (fun z i wr => ∃ (k : Nat) (last : Int), k ≤ n.2.length ∧ z = .int .i64 last ∧ i = .int .i64 k ∧ Hid (right n = (decide (0 ≤ n.1 ∧ n.1 < 100000) && climbs n.1 last (n.2.drop k))) ∧ Below w1.heap.size w1 wr) (fun _ i _ => n.2.length - (intOf i).toNat)
  case atStart => exact ⟨0, -1, Nat.zero_le _, rfl, rfl, HS, Below.refl _ _⟩
  case round =>
    obtain ⟨k, last, hk, rfl, rfl, HT, hb⟩ := hrel
    have HB := Lib.hid hb
    have d0 := below_cell C0.out hb
    have d1 := below_cell C1.out hb
    by_cases hlt : k < n.2.length
    · obtain ⟨p, hp⟩ : ∃ p, n.2[k]? = some p := ⟨_, List.getElem?_eq_getElem hlt⟩
      obtain ⟨b1, off1, cap1, h1, _, hc⟩ := ((HV.out.keep B1.out).keep hb).form (by omega)
      cases h1
      have c0 := hc k p hp
      clear hc
      by_cases hg : last < p ∧ p < n.1
      · have HN := Lib.hid (climbs_on HT.out hp hg)
        have g1 : ¬ p ≤ last := by omega
        have g2 : ¬ p ≥ n.1 := by omega
        clear hp
        go_wp2
        go_quiet (fail)
        go_wp2
        go_roundw
        case rel => exact ⟨k + 1, p, by omega, rfl, by go_num, HN, HB.out.trans ((drewN_below _ _).mono HB.out.size)⟩
        case measure => simp [intOf]; omega
      · have HR := Lib.hid (climbs_stop HT.out hp hg)
        clear hp
        by_cases g1 : p ≤ last
        · go_wp2
          go_quiet (fail)
          go_wp2
          go_ret
          exact ⟨ret_bool HR.out.symm, B1.out.trans ((HB.out.trans ((drewN_below _ _).mono HB.out.size)).mono B1.out.size)⟩
        · have g2 : p ≥ n.1 := by omega
          go_wp2
          go_quiet (fail)
          go_wp2
          go_ret
          exact ⟨ret_bool HR.out.symm, B1.out.trans ((HB.out.trans ((drewN_below _ _).mono HB.out.size)).mono B1.out.size)⟩
    · obtain rfl : k = n.2.length := by omega
      have HR := Lib.hid (climbs_end HT.out)
      by_cases g1 : 0 ≤ n.1
      · by_cases g2 : n.1 < 100000
        · have HR := Lib.hid (HR.out.trans (decide_eq_true ⟨g1, g2⟩))
          go_wp2
          go_ret
          exact ⟨ret_bool HR.out.symm, B1.out.trans (HB.out.mono B1.out.size)⟩
        · have HR := Lib.hid (HR.out.trans (decide_eq_false fun q => g2 q.2))
          go_wp2
          go_ret
          exact ⟨ret_bool HR.out.symm, B1.out.trans (HB.out.mono B1.out.size)⟩
      · have HR := Lib.hid (HR.out.trans (decide_eq_false fun q => g1 q.1))
        go_wp2
        go_ret
        exact ⟨ret_bool HR.out.symm, B1.out.trans (HB.out.mono B1.out.size)⟩
end Go.Proofs.Ytihnnffhpgbgjaa
