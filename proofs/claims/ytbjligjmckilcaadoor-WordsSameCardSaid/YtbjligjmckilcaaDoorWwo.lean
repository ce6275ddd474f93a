/- Words of package words. -/
import Derived.Test.YtbjligjmckilcaaDoorWlib
import Derived.Test.YtbjligjmckilcaaDoorWApi
import Derived.Laws.OwnMore
namespace Go.Proofs.YtbjligjmckilcaaDoor
open Go.RowKit Go.Maps Go.ChangeMaps Go.MapKept
open Wd
attribute [local go_sem ↓] Go.wp_at_zero Go.wp_at_succ
def midW (R : List S) (k : Nat) : List S := (R.take k).map lows ++ R.drop k
theorem midW_zero (R : List S) : midW R 0 = R := by simp [midW]
theorem midW_all (R : List S) : midW R R.length = R.map lows := by simp [midW]
theorem midW_at {R : List S} {k : Nat} {x : S} (h : R[k]? = some x) : (midW R k)[k]? = some x := by
  have hk := (List.getElem?_eq_some_iff.1 h).1
  unfold midW
  rw [List.getElem?_append_right (by simp; omega), List.length_map, List.length_take, Nat.min_eq_left (by omega), Nat.sub_self, List.getElem?_drop, Nat.add_zero, h]
theorem midW_set {R : List S} {k : Nat} {x : S} (h : R[k]? = some x) : (midW R k).set k (lows x) = midW R (k + 1) := by
  have hk := (List.getElem?_eq_some_iff.1 h).1
  unfold midW
  have hl : ((R.take k).map lows).length = k := by simp; omega
  have hd : R.drop k = x :: R.drop (k + 1) := by
    rw [List.drop_eq_getElem_cons hk]; congr 1
    exact (List.getElem?_eq_some_iff.1 h).2
  rw [List.set_append_right _ _ (by omega), hl, Nat.sub_self, hd, List.set_cons_zero, List.take_add_one, h]
  simp
theorem midW_length (R : List S) (k : Nat) (hk : k ≤ R.length) : (midW R k).length = R.length := by simp [midW]; omega
theorem txVs_set (l : List S) (k : Nat) (x : S) : (txVs l).set k (.string (bs x)) = txVs (l.set k x) := by simp [txVs, List.map_set]
theorem raw_len {s x : S} (h : x ∈ raws s) : x.length ≤ 2 * s.length := by
  have : lows x ∈ words s := by rw [words_raws]; exact List.mem_map_of_mem h
  have := word_len this
  simpa [lows] using this
theorem below_own {w w' : World} {B e size n : Nat} {v : Value} {xs : List Value} (h : w.ownsRow B e size v n xs) (hb : Below w.heap.size w w') : w'.ownsRow B e size v n xs := Go.Proofs.own_below h hb
section
variable {w : World}
set_option maxHeartbeats 4000000 in
set_option maxRecDepth 100000 in
theorem p_words {s : S} (hs : s.length ≤ 1000) : Calls Tryd.prog 10 #[.string (bs s)] w (Texts w (words s)) := by
  have HRL := Lib.hid (fun x (h : x ∈ raws s) => (⟨raw_len h, raws_low s x h⟩ : x.length ≤ 2 * s.length ∧ ∀ c ∈ x, low c ≠ 0))
  have HN : (raws s).length ≤ s.length := by rw [raws_length]; exact words_count s
  have HF := Lib.hid (fields_any (w := w) s (by omega))
  have HW := Lib.hid (words_raws s)
  generalize raws s = R at HRL HN HF HW
  go_enter Tryd.func10, Tryd.ntmps10
  go_wp2_with (go_at_call 23; refine (HF.out).mono ?_; rintro e w1 ⟨A, rfl, hA, own1, b1⟩; refine Hid.out ?_)
  refine Lib.hid ?_
  have O1 := Lib.hid own1
  have B1 := Lib.hid b1
  clear own1 b1
  go_wp2
  go_loopw [10] (fun i wr => ∃ (k : Nat), k ≤ R.length ∧ i = .int .i64 k ∧ Hid (wr.ownsRow w.heap.size 9 1 (.slice (some ⟨A, 0, none⟩) R.length R.length) R.length (txVs (midW R k)) ∧ Below w.heap.size w wr)) (fun i _ => R.length - (intOf i).toNat)
  case atStart => exact ⟨0, Nat.zero_le _, rfl, by rw [midW_zero]; exact Lib.hid ⟨O1.out, B1.out⟩⟩
  case round =>
    obtain ⟨k, hk, rfl, HO⟩ := hrel
    by_cases hlt : k < R.length
    · obtain ⟨x, hx⟩ : ∃ x, R[k]? = some x := ⟨_, List.getElem?_eq_getElem hlt⟩
      obtain ⟨hxl, hxg⟩ := HRL.out x (List.mem_of_getElem? hx)
      have HG := Lib.hid hxg
      have hxl2 : x.length ≤ 2000 := by omega
      have hcell : wr.cell? ⟨A, k, none⟩ = some (.string (bs x)) := by
        have := HO.out.1.cells rfl k (.string (bs x)) (by rw [txVs, List.getElem?_map, midW_at hx]; rfl)
        rwa [Lib.add_plain, Nat.zero_add] at this
      have HX := Lib.hid hx
      clear hxg hx hxl
      go_wp2_with (go_at_call 26; refine (lower_any HG.out (by omega)).mono ?_; rintro e w2 ⟨rfl, b2⟩; refine Hid.out ?_)
      refine Lib.hid ?_
      have hll : (lows x).length = x.length := by simp [lows]
      have B2 := Lib.hid b2
      clear b2
      go_wp2_with (go_at_call 25; refine (clone_any (lows x) (by omega)).mono ?_; rintro e w3 ⟨rfl, b3⟩; refine Hid.out ?_)
      refine Lib.hid ?_
      have b23 : Below wr.heap.size wr w3 := B2.out.trans (b3.mono B2.out.size)
      have o3 := below_own HO.out.1 b23
      have f3 := o3.frozenAt k
      have c3 : w3.cell? ⟨A, k, none⟩ = some (.string (bs x)) := below_cell hcell b23
      obtain ⟨o4, g4⟩ := o3.stored k (.string (bs (lows x)))
      have O4 := Lib.hid o4
      have B4 := Lib.hid (show Below w.heap.size w _ from (HO.out.2.trans (b23.mono HO.out.2.size)).grown g4 (by have := HO.out.2.size; have := b23.size; omega) (fun j hj => by cases hj; exact hA))
      clear o4 g4 b23 o3 b3 hcell
      go_wp2
      go_roundw
      case rel =>
        refine ⟨k + 1, by omega, by go_num, Lib.hid ⟨?_, B4.out⟩⟩
        rw [← midW_set HX.out, ← txVs_set]
        exact O4.out
      case measure => simp [intOf]; omega
    · obtain rfl : k = R.length := by omega
      rw [midW_all] at HO
      have HR := Lib.hid (show TxAt wr (.slice (some ⟨A, 0, none⟩) R.length R.length) (words s) by
        rw [HW.out]; exact TxAt.of_own HO.out.1)
      have HB := Lib.hid HO.out.2
      clear HO
      go_wp2
      go_ret
      exact ⟨_, rfl, HR.out, HB.out⟩
end
end Go.Proofs.YtbjligjmckilcaaDoor
