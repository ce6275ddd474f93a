/- The reference of layer 11: Number. -/
import Derived.Test.YtenbdnkipkfpkaaDoorLq
namespace Go.Proofs.YtenbdnkipkfpkaaDoor
open Go.RowKit Go.Maps Go.ChangeMaps Go.MapKept
open Lx
attribute [local go_sem ↓] Go.wp_at_zero Go.wp_at_succ
def numRes (s : S) : Int × Bool := if numOk s = true then ((val s : Int), true) else (0, false)
theorem numRes_no {s : S} (h : numOk s = false) : numRes s = (0, false) := by unfold numRes; rw [h]; rfl
theorem numRes_yes {s : S} (h : numOk s = true) : numRes s = ((val s : Int), true) := by unfold numRes; rw [if_pos h]
theorem val_snoc (s : S) (c : UInt8) : val (s ++ [c]) = 10 * val s + (c.toNat - 48) := by simp [val]
theorem fold_ge : ∀ (b : S) (n : Nat), n ≤ b.foldl (fun n c => 10 * n + (c.toNat - 48)) n
  | [], n => Nat.le_refl n
  | c :: b, n => Nat.le_trans (by omega) (fold_ge b (10 * n + (c.toNat - 48)))
theorem val_take (s : S) (k : Nat) : val (s.take k) ≤ val s := by
  conv => rhs; rw [← List.take_append_drop k s]
  unfold val
  rw [List.foldl_append]
  exact fold_ge _ _
theorem num_digit {s : S} {i : Nat} {c : UInt8} (hc : s[i]? = some c) (h : digit c = false) : numOk s = false := by
  have : s.all digit = false := by
    rw [Bool.eq_false_iff]; intro q
    rw [List.all_eq_true.1 q c (List.mem_of_getElem? hc)] at h; cases h
  simp [numOk, this]
theorem num_big {s : S} (h : 1099511627776 < val s) : numOk s = false := by
  unfold numOk; rw [decide_eq_false (show ¬ val s ≤ 1099511627776 by omega), Bool.and_false]
theorem num_nil : numOk [] = false := rfl
theorem num_zero {s : S} (h : 1 < s.length) (h0 : s[0]? = some 48) : numOk s = false := by
  have : s.head? = some 48 := by rw [List.head?_eq_getElem?]; exact h0
  unfold numOk
  rw [decide_eq_false (show ¬ s.length ≤ 1 by omega), this]; simp
theorem num_yes {s : S} (h1 : 1 ≤ s.length) (h2 : ∀ d ∈ s.take s.length, digit d = true) (h3 : s.length ≤ 1 ∨ s[0]? ≠ some 48) (h4 : val s ≤ 1099511627776) : numOk s = true := by
  rw [List.take_length] at h2
  unfold numOk
  simp only [Bool.and_eq_true, Bool.or_eq_true, decide_eq_true_eq, List.all_eq_true]
  refine ⟨⟨⟨?_, h2⟩, h3.imp id fun q => ?_⟩, h4⟩
  · cases s with
    | nil => simp at h1
    | cons c r => rfl
  · rw [List.head?_eq_getElem?]; simpa using q
theorem ret_num {s : S} {a : Int} {b : Bool} (h : numRes s = (a, b)) : Ending.returned (.tuple #[.int .i64 a, .bool b]) = .returned (.tuple #[.int .i64 (numRes s).1, .bool (numRes s).2]) := by rw [h]
section
variable {w : World}
set_option maxHeartbeats 4000000 in
set_option maxRecDepth 100000 in
theorem q_number {s : S} (hs : s.length ≤ 100000) : Calls Tryd.prog 14 #[.string (bs s)] w fun e w' => e = .returned (.tuple #[.int .i64 (numRes s).1, .bool (numRes s).2]) ∧ w = w' := by
  have hz := bs_size s
  go_enter Tryd.func14, Tryd.ntmps14
  go_wp2
  go_loopw [4, 5] (fun n i wr => ∃ k : Nat, k ≤ s.length ∧ i = .int .i64 k ∧ n = .int .i64 (val (s.take k) : Nat) ∧ val (s.take k) ≤ 10995116277769 ∧ Hid (∀ d ∈ s.take k, digit d = true) ∧ w = wr) (fun _ i _ => s.length - (intOf i).toNat)
  case atStart => exact ⟨0, Nat.zero_le _, rfl, rfl, by simp [val], Lib.hid (by simp), rfl⟩
  case round =>
    obtain ⟨k, hk, rfl, rfl, hv, HA, rfl⟩ := hrel
    have hvt := val_take s k
    by_cases hlt : k < s.length
    · obtain ⟨d, hd⟩ : ∃ d, s[k]? = some d := ⟨_, List.getElem?_eq_getElem hlt⟩
      obtain ⟨i1, g1⟩ := bs_get hd
      have HD := Lib.hid hd
      have H2 := q_digit (w := w) (c := d)
      have hsn : val (s.take (k + 1)) = 10 * val (s.take k) + (d.toNat - 48) := by rw [List.take_add_one, hd]; exact val_snoc _ _
      clear hd
      cases hg : digit d with
      | false =>
        rw [hg] at H2
        have H2 := Lib.hid H2
        have HR := Lib.hid (numRes_no (num_digit HD.out hg))
        clear hg hsn hvt
        go_wp2_with (go_at_call 27; refine (H2.out).mono ?_; rintro e w2 ⟨rfl, rfl⟩; refine Hid.out ?_)
        refine Lib.hid ?_
        go_wp2
        go_ret2
        exact ⟨ret_num HR.out, rfl⟩
      | true =>
        rw [hg] at H2
        have H2 := Lib.hid H2
        have hdr := of_decide_eq_true hg
        have HN := Lib.hid (take_all HA.out HD.out hg)
        clear hg
        obtain ⟨m, hm⟩ : ∃ m, val (s.take k) = m := ⟨_, rfl⟩
        rw [hm] at hsn hv hvt ⊢
        have hdi : ((d.toNat : Nat) : Int) ≤ 57 ∧ 48 ≤ ((d.toNat : Nat) : Int) := by omega
        go_wp2_with (go_at_call 27; refine (H2.out).mono ?_; rintro e w2 ⟨rfl, rfl⟩; refine Hid.out ?_)
        refine Lib.hid ?_
        by_cases hb : 1099511627776 < m
        · have HR := Lib.hid (numRes_no (num_big (s := s) (by omega)))
          have hb' : (1099511627776 : Int) < (m : Int) := by omega
          clear hsn
          go_wp2
          go_ret2
          exact ⟨ret_num HR.out, rfl⟩
        · have hb' : ¬ (1099511627776 : Int) < (m : Int) := by omega
          have HSN := Lib.hid (show ((val (s.take (k + 1)) : Nat) : Int) = 10 * (m : Int) + (d.toNat : Int) - 48 by omega)
          have hv2 : val (s.take (k + 1)) ≤ 10995116277769 := by omega
          clear hsn hm
          go_wp2
          go_roundw
          case rel => exact ⟨k + 1, by omega, by go_num, by rw [HSN.out], hv2, HN, by trivial⟩
          case measure => simp [intOf]; omega
    · obtain rfl : k = s.length := by omega
      have hvs : val (s.take s.length) = val s := by rw [List.take_length]
      rw [hvs] at hv ⊢
      clear hvs
      by_cases h1 : s.length < 1
      · have HR := Lib.hid (numRes_no (s := s) (by rw [List.eq_nil_of_length_eq_zero (show s.length = 0 by omega)]; rfl))
        have h1' : (s.length : Int) < 1 := by omega
        go_wp2
        go_ret2
        exact ⟨ret_num HR.out, rfl⟩
      · have h1' : ¬ (s.length : Int) < 1 := by omega
        obtain ⟨d, hd⟩ : ∃ d, s[0]? = some d := ⟨_, List.getElem?_eq_getElem (by omega)⟩
        obtain ⟨i0, g0⟩ := bs_get hd
        have e48 : ((d.toNat : Int) == 48) = (d == 48) := beq_n d 48
        by_cases h2 : 1 < s.length
        · have h2' : (1 : Int) < (s.length : Int) := by omega
          by_cases hd48 : d = 48
          · subst hd48
            have HR := Lib.hid (numRes_no (num_zero h2 hd))
            clear hd
            go_wp2
            go_ret2
            exact ⟨ret_num HR.out, rfl⟩
          · have hf : (d == 48) = false := by simpa using hd48
            rw [hf] at e48
            by_cases hb : 1099511627776 < val s
            · have HR := Lib.hid (numRes_no (num_big hb))
              have hb' : (1099511627776 : Int) < (val s : Int) := by omega
              clear hd
              go_wp2
              go_ret2
              exact ⟨ret_num HR.out, rfl⟩
            · have HR := Lib.hid (numRes_yes (num_yes (by omega) HA.out (.inr (by rw [hd]; intro q; cases q; exact hd48 rfl)) (by omega)))
              have hb' : ¬ (1099511627776 : Int) < (val s : Int) := by omega
              clear hd
              go_wp2
              go_ret2
              exact ⟨ret_num HR.out, rfl⟩
        · have h2' : ¬ (1 : Int) < (s.length : Int) := by omega
          by_cases hb : 1099511627776 < val s
          · have HR := Lib.hid (numRes_no (num_big hb))
            have hb' : (1099511627776 : Int) < (val s : Int) := by omega
            clear hd
            go_wp2
            go_ret2
            exact ⟨ret_num HR.out, rfl⟩
          · have HR := Lib.hid (numRes_yes (num_yes (by omega) HA.out (.inl (by omega)) (by omega)))
            have hb' : ¬ (1099511627776 : Int) < (val s : Int) := by omega
            clear hd
            go_wp2
            go_ret2
            exact ⟨ret_num HR.out, rfl⟩
end
end Go.Proofs.YtenbdnkipkfpkaaDoor
