/- Package lex: bytes, the longest beginning, Word. -/
import Derived.Test.YtenbdnkipkfpkaaDoorLApi
namespace Go.Proofs.YtenbdnkipkfpkaaDoor
open Go.RowKit Go.Maps Go.ChangeMaps Go.MapKept
open Lx
attribute [local go_sem ↓] Go.wp_at_zero Go.wp_at_succ
section
variable {w : World}
set_option maxHeartbeats 1000000 in
set_option maxRecDepth 100000 in
theorem l_letter {c : UInt8} : Calls Tryd.prog 28 #[.int .u8 (c.toNat : Int)] w fun e w' => e = .returned (.bool (letter c)) ∧ w = w' := by
  by_cases h1 : c.toNat < 97
  · have HR := Lib.hid (letter_n c (decide_eq_false (by omega)))
    generalize c.toNat = n at h1 ⊢
    have h1' : ¬ (97 : Int) ≤ (n : Int) := by omega
    go_enter Tryd.func28, Tryd.ntmps28
    go_wp2
    go_ret
    exact ⟨ret_bool HR.out.symm, rfl⟩
  · by_cases h2 : c.toNat ≤ 122
    · have HR := Lib.hid (letter_n c (decide_eq_true (by omega)))
      generalize c.toNat = n at h1 h2 ⊢
      have h1' : (97 : Int) ≤ (n : Int) := by omega
      have h2' : (n : Int) ≤ 122 := by omega
      go_enter Tryd.func28, Tryd.ntmps28
      go_wp2
      go_ret
      exact ⟨ret_bool HR.out.symm, rfl⟩
    · have HR := Lib.hid (letter_n c (decide_eq_false (by omega)))
      generalize c.toNat = n at h1 h2 ⊢
      have h1' : (97 : Int) ≤ (n : Int) := by omega
      have h2' : ¬ (n : Int) ≤ 122 := by omega
      go_enter Tryd.func28, Tryd.ntmps28
      go_wp2
      go_ret
      exact ⟨ret_bool HR.out.symm, rfl⟩
set_option maxHeartbeats 1000000 in
set_option maxRecDepth 100000 in
theorem l_digit {c : UInt8} : Calls Tryd.prog 35 #[.int .u8 (c.toNat : Int)] w fun e w' => e = .returned (.bool (digit c)) ∧ w = w' := by
  by_cases h1 : c.toNat < 48
  · have HR := Lib.hid (digit_n c (decide_eq_false (by omega)))
    generalize c.toNat = n at h1 ⊢
    have h1' : ¬ (48 : Int) ≤ (n : Int) := by omega
    go_enter Tryd.func35, Tryd.ntmps35
    go_wp2
    go_ret
    exact ⟨ret_bool HR.out.symm, rfl⟩
  · by_cases h2 : c.toNat ≤ 57
    · have HR := Lib.hid (digit_n c (decide_eq_true (by omega)))
      generalize c.toNat = n at h1 h2 ⊢
      have h1' : (48 : Int) ≤ (n : Int) := by omega
      have h2' : (n : Int) ≤ 57 := by omega
      go_enter Tryd.func35, Tryd.ntmps35
      go_wp2
      go_ret
      exact ⟨ret_bool HR.out.symm, rfl⟩
    · have HR := Lib.hid (digit_n c (decide_eq_false (by omega)))
      generalize c.toNat = n at h1 h2 ⊢
      have h1' : (48 : Int) ≤ (n : Int) := by omega
      have h2' : ¬ (n : Int) ≤ 57 := by omega
      go_enter Tryd.func35, Tryd.ntmps35
      go_wp2
      go_ret
      exact ⟨ret_bool HR.out.symm, rfl⟩
set_option maxHeartbeats 1000000 in
set_option maxRecDepth 100000 in
theorem l_blank {c : UInt8} : Calls Tryd.prog 22 #[.int .u8 (c.toNat : Int)] w fun e w' => e = .returned (.bool (Lx.blank c)) ∧ w = w' := by
  have e9 : ((c.toNat : Int) == 9) = (c == 9) := beq_n c 9
  have e10 : ((c.toNat : Int) == 10) = (c == 10) := beq_n c 10
  have e32 : ((c.toNat : Int) == 32) = (c == 32) := beq_n c 32
  have HR := Lib.hid (show Lx.blank c = ((c == 9) || (c == 10) || (c == 32)) from rfl)
  generalize (c == 9) = b1 at *
  generalize (c == 10) = b2 at *
  generalize (c == 32) = b3 at *
  cases b1 <;> cases b2 <;> cases b3 <;> (
    go_enter Tryd.func22, Tryd.ntmps22
    go_wp2
    go_ret
    exact ⟨ret_bool HR.out.symm, rfl⟩)
theorem l_letter_of {c : UInt8} {b : Bool} (h : letter c = b) (w : World) : Calls Tryd.prog 28 #[.int .u8 (c.toNat : Int)] w fun e w' => e = .returned (.bool b) ∧ w = w' := by have := l_letter (w := w) (c := c); rwa [h] at this
theorem l_digit_of {c : UInt8} {b : Bool} (h : digit c = b) (w : World) : Calls Tryd.prog 35 #[.int .u8 (c.toNat : Int)] w fun e w' => e = .returned (.bool b) ∧ w = w' := by have := l_digit (w := w) (c := c); rwa [h] at this
theorem l_blank_of {c : UInt8} {b : Bool} (h : Lx.blank c = b) (w : World) : Calls Tryd.prog 22 #[.int .u8 (c.toNat : Int)] w fun e w' => e = .returned (.bool b) ∧ w = w' := by have := l_blank (w := w) (c := c); rwa [h] at this
set_option maxHeartbeats 1000000 in
set_option maxRecDepth 100000 in
theorem l_alnum_of {c : UInt8} {b : Bool} (h : alnum c = b) (w : World) : Calls Tryd.prog 30 #[.int .u8 (c.toNat : Int)] w fun e w' => e = .returned (.bool b) ∧ w = w' := by
  unfold alnum at h
  subst h
  go_enter Tryd.func30, Tryd.ntmps30
  cases hl : letter c with
  | true =>
    have H1 := Lib.hid (l_letter_of hl)
    clear hl
    go_wp2_with (go_at_call 28; refine (H1.out _).mono ?_; rintro e w2 ⟨rfl, rfl⟩; refine Hid.out ?_)
    refine Lib.hid ?_
    go_wp2
    go_ret
    exact ⟨rfl, rfl⟩
  | false =>
    have H1 := Lib.hid (l_letter_of hl)
    clear hl
    cases hg : digit c with
    | true =>
      have H2 := Lib.hid (l_digit_of hg)
      clear hg
      go_wp2_with (go_at_call 28; refine (H1.out _).mono ?_; rintro e w2 ⟨rfl, rfl⟩; refine Hid.out ?_)
      refine Lib.hid ?_
      go_wp2_with (go_at_call 35; refine (H2.out _).mono ?_; rintro e w3 ⟨rfl, rfl⟩; refine Hid.out ?_)
      refine Lib.hid ?_
      go_wp2
      go_ret
      exact ⟨rfl, rfl⟩
    | false =>
      have H2 := Lib.hid (l_digit_of hg)
      clear hg
      go_wp2_with (go_at_call 28; refine (H1.out _).mono ?_; rintro e w2 ⟨rfl, rfl⟩; refine Hid.out ?_)
      refine Lib.hid ?_
      go_wp2_with (go_at_call 35; refine (H2.out _).mono ?_; rintro e w3 ⟨rfl, rfl⟩; refine Hid.out ?_)
      refine Lib.hid ?_
      go_wp2
      go_ret
      exact ⟨rfl, rfl⟩
set_option maxHeartbeats 4000000 in
set_option maxRecDepth 100000 in
theorem l_longW {s : S} (hs : s.length ≤ 100000) : Calls Tryd.prog 29 #[.string (bs s), .func (.func 30) #[] #[]] w fun e w' => e = .returned (.string (bs (s.takeWhile alnum))) ∧ w = w' := by
  have hz := bs_size s
  obtain ⟨t, ht⟩ : ∃ t, s.takeWhile alnum = t := ⟨_, rfl⟩
  have htl : t.length ≤ s.length := by rw [← ht]; exact tw_len s
  have HT := Lib.hid ht
  have HE := Lib.hid (show (bs s).extract 0 t.length = bs t by rw [bs_extract, List.drop_zero, Nat.sub_zero, ← ht, take_tw])
  rw [ht]
  clear ht
  go_enter Tryd.func29, Tryd.ntmps29
  go_wp2
  go_loopw [5] (fun i wr => ∃ k : Nat, k ≤ t.length ∧ i = .int .i64 k ∧ w = wr) (fun i _ => s.length - (intOf i).toNat)
  case atStart => exact ⟨0, Nat.zero_le _, rfl, rfl⟩
  case round =>
    obtain ⟨k, hk, rfl, rfl⟩ := hrel
    by_cases hlt : k < t.length
    · obtain ⟨d, hd, hq⟩ : ∃ d, s[k]? = some d ∧ alnum d = true := tw_get (by rw [HT.out]; exact hlt)
      obtain ⟨i1, g1⟩ := bs_get hd
      clear hd
      have hks : k < s.length := by omega
      have HQ := Lib.hid (l_alnum_of hq)
      clear hq
      go_wp2_with (go_at_call 30; refine (HQ.out _).mono ?_; rintro e w3 ⟨rfl, rfl⟩; refine Hid.out ?_)
      refine Lib.hid ?_
      go_wp2
      go_roundw
      case rel => exact ⟨k + 1, by omega, by go_num, by trivial⟩
      case measure => simp [intOf]; omega
    · obtain rfl : t.length = k := by omega
      clear hk hlt
      have he := HE.out
      by_cases hks : t.length < s.length
      · obtain ⟨d, hd⟩ : ∃ d, s[t.length]? = some d := ⟨_, List.getElem?_eq_getElem hks⟩
        have hq : alnum d = false := tw_end (q := alnum) (r := s) (by rw [HT.out]; exact hd)
        obtain ⟨i1, g1⟩ := bs_get hd
        have HQ := Lib.hid (l_alnum_of hq)
        clear hd hq
        go_wp2_with (go_at_call 30; refine (HQ.out _).mono ?_; rintro e w3 ⟨rfl, rfl⟩; refine Hid.out ?_)
        refine Lib.hid ?_
        clear HQ g1
        go_wp2
        go_ret
        exact ⟨rfl, rfl⟩
      · go_wp2
        go_ret
        exact ⟨rfl, rfl⟩
set_option maxHeartbeats 4000000 in
set_option maxRecDepth 100000 in
theorem l_longD {s : S} (hs : s.length ≤ 100000) : Calls Tryd.prog 29 #[.string (bs s), .func (.func 35) #[] #[]] w fun e w' => e = .returned (.string (bs (s.takeWhile digit))) ∧ w = w' := by
  have hz := bs_size s
  obtain ⟨t, ht⟩ : ∃ t, s.takeWhile digit = t := ⟨_, rfl⟩
  have htl : t.length ≤ s.length := by rw [← ht]; exact tw_len s
  have HT := Lib.hid ht
  have HE := Lib.hid (show (bs s).extract 0 t.length = bs t by rw [bs_extract, List.drop_zero, Nat.sub_zero, ← ht, take_tw])
  rw [ht]
  clear ht
  go_enter Tryd.func29, Tryd.ntmps29
  go_wp2
  go_loopw [5] (fun i wr => ∃ k : Nat, k ≤ t.length ∧ i = .int .i64 k ∧ w = wr) (fun i _ => s.length - (intOf i).toNat)
  case atStart => exact ⟨0, Nat.zero_le _, rfl, rfl⟩
  case round =>
    obtain ⟨k, hk, rfl, rfl⟩ := hrel
    by_cases hlt : k < t.length
    · obtain ⟨d, hd, hq⟩ : ∃ d, s[k]? = some d ∧ digit d = true := tw_get (by rw [HT.out]; exact hlt)
      obtain ⟨i1, g1⟩ := bs_get hd
      clear hd
      have hks : k < s.length := by omega
      have HQ := Lib.hid (l_digit_of hq)
      clear hq
      go_wp2_with (go_at_call 35; refine (HQ.out _).mono ?_; rintro e w3 ⟨rfl, rfl⟩; refine Hid.out ?_)
      refine Lib.hid ?_
      go_wp2
      go_roundw
      case rel => exact ⟨k + 1, by omega, by go_num, by trivial⟩
      case measure => simp [intOf]; omega
    · obtain rfl : t.length = k := by omega
      clear hk hlt
      have he := HE.out
      by_cases hks : t.length < s.length
      · obtain ⟨d, hd⟩ : ∃ d, s[t.length]? = some d := ⟨_, List.getElem?_eq_getElem hks⟩
        have hq : digit d = false := tw_end (q := digit) (r := s) (by rw [HT.out]; exact hd)
        obtain ⟨i1, g1⟩ := bs_get hd
        have HQ := Lib.hid (l_digit_of hq)
        clear hd hq
        go_wp2_with (go_at_call 35; refine (HQ.out _).mono ?_; rintro e w3 ⟨rfl, rfl⟩; refine Hid.out ?_)
        refine Lib.hid ?_
        clear HQ g1
        go_wp2
        go_ret
        exact ⟨rfl, rfl⟩
      · go_wp2
        go_ret
        exact ⟨rfl, rfl⟩
theorem tw_self {q : UInt8 → Bool} {s : S} (h : s.all q = true) : s.takeWhile q = s := by
  induction s with
  | nil => rfl
  | cons c r ih =>
    rw [List.all_cons, Bool.and_eq_true] at h
    rw [List.takeWhile_cons_of_pos h.1, ih h.2]
theorem tw_all {q : UInt8 → Bool} {s : S} (h : s.takeWhile q = s) : s.all q = true := by
  induction s with
  | nil => rfl
  | cons c r ih =>
    by_cases hc : q c = true
    · rw [List.takeWhile_cons_of_pos hc] at h
      rw [List.all_cons, hc, ih (List.cons.inj h).2]; rfl
    · rw [List.takeWhile_cons_of_neg hc] at h; cases h
theorem word_tw {c : UInt8} {r : S} (h1 : letter c = true) (h2 : (c :: r).length ≤ 20) : wordOk (c :: r) = decide ((c :: r).takeWhile alnum = c :: r) := by
  have hc : alnum c = true := by unfold alnum; rw [h1]; rfl
  have e : wordOk (c :: r) = r.all alnum := by
    unfold wordOk
    rw [decide_eq_true h2]; simp [h1]
  rw [e]
  by_cases h : r.all alnum = true
  · rw [h, decide_eq_true (by rw [List.takeWhile_cons_of_pos hc, tw_self h])]
  · rw [Bool.not_eq_true] at h
    rw [h, decide_eq_false]
    intro hh
    rw [List.takeWhile_cons_of_pos hc] at hh
    rw [tw_all (List.cons.inj hh).2] at h; cases h
set_option maxHeartbeats 4000000 in
set_option maxRecDepth 100000 in
theorem p_word {s : S} (hs : s.length ≤ 100000) : Calls Tryd.prog 16 #[.string (bs s)] w fun e w' => e = .returned (.bool (wordOk s)) ∧ w = w' := by
  have hz := bs_size s
  go_enter Tryd.func16, Tryd.ntmps16
  by_cases h1 : s.length < 1
  · have HR := Lib.hid (word_len (s := s) (by omega))
    obtain rfl : s = [] := List.eq_nil_of_length_eq_zero (by omega)
    have he := empty_yes
    clear hz h1
    go_wp2
    go_ret
    exact ⟨ret_bool HR.out.symm, rfl⟩
  · have he : (bs s).toList.isEmpty = false := empty_no (by intro e; rw [e] at h1; simp at h1)
    by_cases h2 : 20 < s.length
    · have HR := Lib.hid (word_len (s := s) (by omega))
      have h2' : ¬ (s.length : Int) ≤ 20 := by omega
      go_wp2
      go_ret
      exact ⟨ret_bool HR.out.symm, rfl⟩
    · have h2' : (s.length : Int) ≤ 20 := by omega
      obtain ⟨c, r, hcr⟩ : ∃ c r, s = c :: r := by
        cases s with
        | nil => simp at h1
        | cons c r => exact ⟨c, r, rfl⟩
      obtain ⟨i0, g0⟩ := bs_get (l := s) (k := 0) (c := c) (by rw [hcr]; rfl)
      have HCR := Lib.hid hcr
      clear hcr
      cases hl : letter c with
      | false =>
        have HL := Lib.hid (l_letter_of hl)
        have HR := Lib.hid (show wordOk s = false by rw [HCR.out]; exact word_first hl)
        clear hl
        go_wp2_with (go_at_call 28; refine (HL.out _).mono ?_; rintro e w2 ⟨rfl, rfl⟩; refine Hid.out ?_)
        refine Lib.hid ?_
        go_wp2
        go_ret
        exact ⟨ret_bool HR.out.symm, rfl⟩
      | true =>
        have HL := Lib.hid (l_letter_of hl)
        have HW := Lib.hid (l_longW (w := w) hs)
        have HR := Lib.hid (show wordOk s = decide (s.takeWhile alnum = s) by rw [HCR.out]; rw [HCR.out] at h2; exact word_tw hl (by omega))
        clear hl
        go_wp2_with (go_at_call 28; refine (HL.out _).mono ?_; rintro e w2 ⟨rfl, rfl⟩; refine Hid.out ?_)
        refine Lib.hid ?_
        clear HL
        go_wp2_with (go_at_call 29; refine (HW.out).mono ?_; rintro e w3 ⟨rfl, rfl⟩; refine Hid.out ?_)
        refine Lib.hid ?_
        clear HW g0
        by_cases ht : s.takeWhile alnum = s
        · rw [decide_eq_true ht] at HR
          rw [ht]
          clear ht
          go_wp2
          go_ret
          exact ⟨ret_bool HR.out.symm, rfl⟩
        · rw [decide_eq_false ht] at HR
          have hne := str_ne ht
          clear ht
          go_wp2
          go_ret
          exact ⟨ret_bool HR.out.symm, rfl⟩
end
end Go.Proofs.YtenbdnkipkfpkaaDoor
