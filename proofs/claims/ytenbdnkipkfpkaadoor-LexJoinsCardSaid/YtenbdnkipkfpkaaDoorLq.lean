/- The reference of layer 11: letters, digits, blanks, Word, Number. -/
import Derived.Test.YtenbdnkipkfpkaaDoorToks
import Derived.OwnWalk
namespace Go.Proofs.YtenbdnkipkfpkaaDoor
open Go.RowKit Go.Maps Go.ChangeMaps Go.MapKept
open Lx
attribute [local go_sem ↓] Go.wp_at_zero Go.wp_at_succ
theorem letter_n (c : UInt8) {b : Bool} (h : decide (97 ≤ c.toNat ∧ c.toNat ≤ 122) = b) : letter c = b := h
theorem digit_n (c : UInt8) {b : Bool} (h : decide (48 ≤ c.toNat ∧ c.toNat ≤ 57) = b) : digit c = b := h
section
variable {w : World}
set_option maxHeartbeats 1000000 in
set_option maxRecDepth 100000 in
theorem q_letter {c : UInt8} : Calls Tryd.prog 31 #[.int .u8 (c.toNat : Int)] w fun e w' => e = .returned (.bool (letter c)) ∧ w = w' := by
  by_cases h1 : c.toNat < 97
  · have HR := Lib.hid (letter_n c (decide_eq_false (by omega)))
    generalize c.toNat = n at h1 ⊢
    have h1' : ¬ (97 : Int) ≤ (n : Int) := by omega
    go_enter Tryd.func31, Tryd.ntmps31
    go_wp2
    go_ret
    exact ⟨ret_bool HR.out.symm, rfl⟩
  · by_cases h2 : c.toNat ≤ 122
    · have HR := Lib.hid (letter_n c (decide_eq_true (by omega)))
      generalize c.toNat = n at h1 h2 ⊢
      have h1' : (97 : Int) ≤ (n : Int) := by omega
      have h2' : (n : Int) ≤ 122 := by omega
      go_enter Tryd.func31, Tryd.ntmps31
      go_wp2
      go_ret
      exact ⟨ret_bool HR.out.symm, rfl⟩
    · have HR := Lib.hid (letter_n c (decide_eq_false (by omega)))
      generalize c.toNat = n at h1 h2 ⊢
      have h1' : (97 : Int) ≤ (n : Int) := by omega
      have h2' : ¬ (n : Int) ≤ 122 := by omega
      go_enter Tryd.func31, Tryd.ntmps31
      go_wp2
      go_ret
      exact ⟨ret_bool HR.out.symm, rfl⟩
set_option maxHeartbeats 1000000 in
set_option maxRecDepth 100000 in
theorem q_digit {c : UInt8} : Calls Tryd.prog 27 #[.int .u8 (c.toNat : Int)] w fun e w' => e = .returned (.bool (digit c)) ∧ w = w' := by
  by_cases h1 : c.toNat < 48
  · have HR := Lib.hid (digit_n c (decide_eq_false (by omega)))
    generalize c.toNat = n at h1 ⊢
    have h1' : ¬ (48 : Int) ≤ (n : Int) := by omega
    go_enter Tryd.func27, Tryd.ntmps27
    go_wp2
    go_ret
    exact ⟨ret_bool HR.out.symm, rfl⟩
  · by_cases h2 : c.toNat ≤ 57
    · have HR := Lib.hid (digit_n c (decide_eq_true (by omega)))
      generalize c.toNat = n at h1 h2 ⊢
      have h1' : (48 : Int) ≤ (n : Int) := by omega
      have h2' : (n : Int) ≤ 57 := by omega
      go_enter Tryd.func27, Tryd.ntmps27
      go_wp2
      go_ret
      exact ⟨ret_bool HR.out.symm, rfl⟩
    · have HR := Lib.hid (digit_n c (decide_eq_false (by omega)))
      generalize c.toNat = n at h1 h2 ⊢
      have h1' : (48 : Int) ≤ (n : Int) := by omega
      have h2' : ¬ (n : Int) ≤ 57 := by omega
      go_enter Tryd.func27, Tryd.ntmps27
      go_wp2
      go_ret
      exact ⟨ret_bool HR.out.symm, rfl⟩
theorem beq_n (c d : UInt8) : ((c.toNat : Int) == (d.toNat : Int)) = (c == d) := by
  rw [Bool.eq_iff_iff, beq_iff_eq, beq_iff_eq]
  constructor
  · intro h; exact byte_eq (by omega)
  · intro h; rw [h]
set_option maxHeartbeats 1000000 in
set_option maxRecDepth 100000 in
theorem q_blank {c : UInt8} : Calls Tryd.prog 21 #[.int .u8 (c.toNat : Int)] w fun e w' => e = .returned (.bool (Lx.blank c)) ∧ w = w' := by
  have e9 : ((c.toNat : Int) == 9) = (c == 9) := beq_n c 9
  have e10 : ((c.toNat : Int) == 10) = (c == 10) := beq_n c 10
  have e32 : ((c.toNat : Int) == 32) = (c == 32) := beq_n c 32
  have HR := Lib.hid (show Lx.blank c = ((c == 9) || (c == 10) || (c == 32)) from rfl)
  generalize (c == 9) = b1 at *
  generalize (c == 10) = b2 at *
  generalize (c == 32) = b3 at *
  cases b1 <;> cases b2 <;> cases b3 <;> (
    go_enter Tryd.func21, Tryd.ntmps21
    go_wp2
    go_ret
    exact ⟨ret_bool HR.out.symm, rfl⟩)
/-! ### Words -/
theorem word_len {s : S} (h : ¬ (1 ≤ s.length ∧ s.length ≤ 20)) : wordOk s = false := by
  cases s with
  | nil => rfl
  | cons c r =>
    unfold wordOk
    rw [decide_eq_false (by simp at h ⊢; omega)]; rfl
theorem word_first {c : UInt8} {r : S} (h : letter c = false) : wordOk (c :: r) = false := by simp [wordOk, h]
theorem word_in {s : S} {i : Nat} {c : UInt8} (hi : 1 ≤ i) (hc : s[i]? = some c) (h : alnum c = false) : wordOk s = false := by
  cases s with
  | nil => rfl
  | cons d r =>
    obtain ⟨j, rfl⟩ : ∃ j, i = j + 1 := ⟨i - 1, by omega⟩
    have hm : c ∈ r := List.mem_of_getElem? (by simpa using hc)
    have : r.all alnum = false := by
      rw [Bool.eq_false_iff]; intro q
      rw [List.all_eq_true.1 q c hm] at h; cases h
    simp [wordOk, this]
theorem word_yes {c : UInt8} {r : S} (h1 : letter c = true) (h2 : (c :: r).length ≤ 20) (h3 : ∀ d ∈ (c :: r).take (c :: r).length, alnum d = true) : wordOk (c :: r) = true := by
  rw [List.take_length] at h3
  simp only [wordOk, Bool.and_eq_true, decide_eq_true_eq, List.all_eq_true]
  exact ⟨h2, h1, fun d hd => h3 d (by simp [hd])⟩
theorem take_all {α : Type} {l : List α} {k : Nat} {a : α} {P : α → Prop} (h : ∀ x ∈ l.take k, P x) (hk : l[k]? = some a) (ha : P a) : ∀ x ∈ l.take (k + 1), P x := by
  intro x hx
  rw [List.take_add_one, hk] at hx
  rcases List.mem_append.1 hx with q | q
  · exact h x q
  · simp at q; subst q; exact ha
set_option maxHeartbeats 4000000 in
set_option maxRecDepth 100000 in
theorem q_word {s : S} (hs : s.length ≤ 100000) : Calls Tryd.prog 17 #[.string (bs s)] w fun e w' => e = .returned (.bool (wordOk s)) ∧ w = w' := by
  have hz := bs_size s
  go_enter Tryd.func17, Tryd.ntmps17
  by_cases h1 : s.length < 1
  · have HR := Lib.hid (word_len (s := s) (by omega))
    have h1' : (s.length : Int) < 1 := by omega
    go_wp2
    go_ret
    exact ⟨ret_bool HR.out.symm, rfl⟩
  · have h1' : ¬ (s.length : Int) < 1 := by omega
    by_cases h2 : 20 < s.length
    · have HR := Lib.hid (word_len (s := s) (by omega))
      have h2' : (20 : Int) < (s.length : Int) := by omega
      go_wp2
      go_ret
      exact ⟨ret_bool HR.out.symm, rfl⟩
    · have h2' : ¬ (20 : Int) < (s.length : Int) := by omega
      obtain ⟨c, r, hcr⟩ : ∃ c r, s = c :: r := by
        cases s with
        | nil => simp at h1
        | cons c r => exact ⟨c, r, rfl⟩
      obtain ⟨i0, g0⟩ := bs_get (l := s) (k := 0) (c := c) (by rw [hcr]; rfl)
      have HL := q_letter (w := w) (c := c)
      have HCR := Lib.hid hcr
      clear hcr
      cases hl : letter c with
      | false =>
        rw [hl] at HL
        have HL := Lib.hid HL
        have HR := Lib.hid (show wordOk s = false by rw [HCR.out]; exact word_first hl)
        clear hl
        go_wp2_with (go_at_call 31; refine (HL.out).mono ?_; rintro e w2 ⟨rfl, rfl⟩; refine Hid.out ?_)
        refine Lib.hid ?_
        go_wp2
        go_ret
        exact ⟨ret_bool HR.out.symm, rfl⟩
      | true =>
        rw [hl] at HL
        have HL := Lib.hid HL
        have HLC := Lib.hid hl
        clear hl
        go_wp2_with (go_at_call 31; refine (HL.out).mono ?_; rintro e w2 ⟨rfl, rfl⟩; refine Hid.out ?_)
        refine Lib.hid ?_
        clear HL g0
        go_wp2
        go_loopw [3] (fun i wr => ∃ k : Nat, 1 ≤ k ∧ k ≤ s.length ∧ i = .int .i64 k ∧ Hid (∀ d ∈ s.take k, alnum d = true) ∧ w = wr) (fun i _ => s.length - (intOf i).toNat)
        case atStart => exact ⟨1, Nat.le_refl _, by omega, rfl, Lib.hid (by rw [HCR.out]; intro d hd; simp at hd; subst hd; unfold alnum; rw [HLC.out]; rfl), rfl⟩
        case round =>
          obtain ⟨k, hk1, hk, rfl, HA, rfl⟩ := hrel
          by_cases hlt : k < s.length
          · obtain ⟨d, hd⟩ : ∃ d, s[k]? = some d := ⟨_, List.getElem?_eq_getElem hlt⟩
            obtain ⟨i1, g1⟩ := bs_get hd
            have HD := Lib.hid hd
            have H1 := q_letter (w := w) (c := d)
            have H2 := q_digit (w := w) (c := d)
            clear hd
            cases hl : letter d with
            | true =>
              rw [hl] at H1
              have H1 := Lib.hid H1
              have HN := Lib.hid (take_all HA.out HD.out (show alnum d = true by unfold alnum; rw [hl]; rfl))
              clear hl H2
              go_wp2_with (go_at_call 31; refine (H1.out).mono ?_; rintro e w2 ⟨rfl, rfl⟩; refine Hid.out ?_)
              refine Lib.hid ?_
              go_wp2
              go_roundw
              case rel => exact ⟨k + 1, by omega, by omega, by go_num, HN, by trivial⟩
              case measure => simp [intOf]; omega
            | false =>
              rw [hl] at H1
              have H1 := Lib.hid H1
              cases hg : digit d with
              | true =>
                rw [hg] at H2
                have H2 := Lib.hid H2
                have HN := Lib.hid (take_all HA.out HD.out (show alnum d = true by unfold alnum; rw [hg, Bool.or_true]))
                clear hl hg
                go_wp2_with (go_at_call 31; refine (H1.out).mono ?_; rintro e w2 ⟨rfl, rfl⟩; refine Hid.out ?_)
                refine Lib.hid ?_
                go_wp2_with (go_at_call 27; refine (H2.out).mono ?_; rintro e w2 ⟨rfl, rfl⟩; refine Hid.out ?_)
                refine Lib.hid ?_
                go_wp2
                go_roundw
                case rel => exact ⟨k + 1, by omega, by omega, by go_num, HN, by trivial⟩
                case measure => simp [intOf]; omega
              | false =>
                rw [hg] at H2
                have H2 := Lib.hid H2
                have HR := Lib.hid (word_in hk1 HD.out (show alnum d = false by unfold alnum; rw [hg, hl]; rfl))
                clear hl hg
                go_wp2_with (go_at_call 31; refine (H1.out).mono ?_; rintro e w2 ⟨rfl, rfl⟩; refine Hid.out ?_)
                refine Lib.hid ?_
                go_wp2_with (go_at_call 27; refine (H2.out).mono ?_; rintro e w2 ⟨rfl, rfl⟩; refine Hid.out ?_)
                refine Lib.hid ?_
                go_wp2
                go_ret
                exact ⟨ret_bool HR.out.symm, rfl⟩
          · obtain rfl : k = s.length := by omega
            have HR := Lib.hid (show wordOk s = true by
              have := HA.out
              rw [HCR.out] at this h2 ⊢
              exact word_yes HLC.out (by omega) this)
            go_wp2
            go_ret
            exact ⟨ret_bool HR.out.symm, rfl⟩
end
end Go.Proofs.YtenbdnkipkfpkaaDoor
