/- Whether a node is valid. -/
import Derived.Test.YtihnnffhpgbgjaaPg
namespace Go.Proofs.Ytihnnffhpgbgjaa
open Go.RowKit Go.Maps Go.ChangeMaps Go.MapKept
open Gp
attribute [local go_sem ↓] Go.wp_at_zero Go.wp_at_succ

/-- Ascending from m on, and less than id. -/
def asc (id : Int) : Int → List Int → Bool
  | _, [] => true
  | m, p :: l => if p < m ∨ id ≤ p then false else asc id (p + 1) l
theorem asc_iff (id : Int) : ∀ (l : List Int) (m : Int), asc id m l = true ↔ l.Pairwise (· < ·) ∧ ∀ p ∈ l, m ≤ p ∧ p < id
  | [], m => by simp [asc]
  | p :: l, m => by
    unfold asc
    split
    · rename_i h
      constructor
      · intro q; cases q
      · intro q; have := q.2 p (by simp); omega
    · rename_i h
      rw [asc_iff id l (p + 1), List.pairwise_cons]
      constructor
      · rintro ⟨h1, h2⟩
        refine ⟨⟨fun q hq => by have := h2 q hq; omega, h1⟩, fun q hq => ?_⟩
        rcases List.mem_cons.1 hq with rfl | hq
        · omega
        · have := h2 q hq; omega
      · rintro ⟨⟨h1, h2⟩, h3⟩
        exact ⟨h2, fun q hq => ⟨by have := h1 q hq; omega, (h3 q (by simp [hq])).2⟩⟩
theorem right_asc {n : Nd} (h0 : 0 ≤ n.1) (h1 : n.1 < 100000) : right n = asc n.1 0 n.2 := by
  rw [Bool.eq_iff_iff, asc_iff, right_iff]
  exact ⟨fun h => h.2, fun h => ⟨⟨h0, h1⟩, h⟩⟩
theorem right_no {n : Nd} (h : ¬ (0 ≤ n.1 ∧ n.1 < 100000)) : right n = false := by
  cases hr : right n with
  | false => rfl
  | true => exact absurd (right_iff.1 hr).1 h
section
variable {w : World}
set_option maxHeartbeats 2000000 in
set_option maxRecDepth 100000 in
theorem valid_any {pv : Value} {n : Nd} (hp : NumsAt w pv n.2) (hl : n.2.length ≤ 1000) :
    Calls Try.prog 37 #[.agg #[.int .i64 n.1, pv]] w fun e w' => e = .returned (.bool (right n)) ∧ Grw w w' := by
  have HP := Lib.hid (hp.keep ((Below.refl w.heap.size w).alloc (Nat.le_refl _) (.cells #[.int .i64 n.1, pv] 32)))
  have G0 := Lib.hid ((Grw.refl w).alloc (.cells #[.int .i64 n.1, pv] 32))
  obtain ⟨a, cap, rfl, -⟩ := hp
  by_cases h0 : n.1 < 0
  · have HR := Lib.hid (right_no (n := n) (by omega))
    go_enter Try.func37, Try.ntmps37
    go_wp2
    go_ret
    exact ⟨ret_bool HR.out.symm, G0.out⟩
  by_cases h1 : 100000 ≤ n.1
  · have HR := Lib.hid (right_no (n := n) (by omega))
    go_enter Try.func37, Try.ntmps37
    go_wp2
    go_ret
    exact ⟨ret_bool HR.out.symm, G0.out⟩
  have HR := Lib.hid (right_asc (n := n) (by omega) (by omega))
  go_enter Try.func37, Try.ntmps37
  go_wp2
  have c0 : (w.alloc (.cells #[.int .i64 n.1, .slice a n.2.length cap] 32)).cell? ⟨w.heap.size, 0, none⟩ = some (.int .i64 n.1) := cells_new w _ _ 0 _ rfl
  generalize hw1 : w.alloc (.cells #[.int .i64 n.1, .slice a n.2.length cap] 32) = w1 at HP G0 c0 ⊢
  clear hw1
  go_loopw [3, 17] (fun m i wr => ∃ (k : Nat) (z : Int), k ≤ n.2.length ∧ 0 ≤ z ∧ i = .int .i64 k ∧ m = .int .i64 z ∧ Hid (right n = asc n.1 z (n.2.drop k)) ∧ w1 = wr) (fun _ i _ => n.2.length - (RowKit.intOf i).toNat)
  case atStart => exact ⟨0, 0, Nat.zero_le _, Int.le_refl _, rfl, rfl, HR, rfl⟩
  case round =>
    obtain ⟨k, z, hk, hz0, rfl, rfl, HT, rfl⟩ := hrel
    by_cases hlt : k < n.2.length
    · obtain ⟨p, hpk⟩ : ∃ p, n.2[k]? = some p := ⟨_, List.getElem?_eq_getElem hlt⟩
      obtain ⟨b1, off1, cap1, e1, _, hc⟩ := HP.out.form (by omega)
      cases e1
      have c1 := hc k p hpk
      clear hc
      have hdr : n.2.drop k = p :: n.2.drop (k + 1) := by
        rw [List.drop_eq_getElem_cons hlt]
        congr 1
        exact Option.some.inj ((List.getElem?_eq_getElem hlt).symm.trans hpk)
      have HT2 := Lib.hid (show right n = if p < z ∨ n.1 ≤ p then false else asc n.1 (p + 1) (n.2.drop (k + 1)) by rw [HT.out, hdr]; rfl)
      clear hdr hpk HT
      by_cases hz : p < z
      · have HF := Lib.hid (show right n = false by rw [HT2.out, if_pos (.inl hz)])
        go_wp2
        go_ret
        exact ⟨ret_bool HF.out.symm, G0.out⟩
      · by_cases hz2 : n.1 ≤ p
        · have HF := Lib.hid (show right n = false by rw [HT2.out, if_pos (.inr hz2)])
          go_wp2
          go_ret
          exact ⟨ret_bool HF.out.symm, G0.out⟩
        · have HN := Lib.hid (show right n = asc n.1 (p + 1) (n.2.drop (k + 1)) by rw [HT2.out, if_neg (by omega)])
          have hr2 : -9223372036854775808 ≤ p + 1 ∧ p + 1 ≤ 9223372036854775807 := by omega
          go_wp2
          go_roundw
          case rel => exact ⟨k + 1, p + 1, by omega, by omega, by go_num, by go_num, HN, by trivial⟩
          case measure => simp [RowKit.intOf]; omega
    · obtain rfl : k = n.2.length := by omega
      have HF := Lib.hid (show right n = true by rw [HT.out, List.drop_length]; rfl)
      go_wp2
      go_ret
      exact ⟨ret_bool HF.out.symm, G0.out⟩
end
end Go.Proofs.Ytihnnffhpgbgjaa
