/- Several texts in one: Lnm, Lby, Bld, Llib, Zl, Lnu, Lfi, Lle. -/
import Derived.Test.YtlefgffnjcmfoaaGreatDoorMA
import Derived.Lib.AtoiAllCases
import Derived.Lib.ItoaMem
import Derived.Lib.ItoaLen
import Derived.Test.YtlefgffnjcmfoaaGreatDoorMG
import Derived.Test.YtlefgffnjcmfoaaGreatDoorMB
import Derived.Lib.Hide
import Derived.Lib.Builder
import Derived.Lib.AppendStr
import Derived.Lib.AppendIntMem
import Derived.Lib.Strings
import Derived.Lib.IfaceNeq
import Derived.WalkKit
import Derived.WalkSpells
import Derived.WalkSmall
import Derived.Outline
import Derived.Test.YtlefgffnjcmfoaaGreatDoorMYdoor
import Derived.Test.YtlefgffnjcmfoaaGreatDoorShelf
import Derived.WalkMore
import Derived.Test.YtlefgffnjcmfoaaGreatDoorMC
import Derived.Shelf.Slices.Turned
import Derived.Shelf.Slices.Equal
import Derived.Shelf.Slices.Empties2
import Derived.Shelf.Strings.OnBuilder
namespace Go.Proofs.YtlefgffnjcmfoaaGreatDoor
open Go
namespace Lx
theorem head_app {l : S} (h : l ≠ []) {m : S} : (l ++ m).head? = l.head? := by
  cases l with
  | nil => exact (h rfl).elim
  | cons x y => rfl
theorem dec_small {u : Nat} (h : u < 10) : Lib.decDigits u = [UInt8.ofNat (48 + u)] := by rw [Lib.decDigits, dif_pos h]
theorem dec_big {u : Nat} (h : ¬ u < 10) : Lib.decDigits u = Lib.decDigits (u / 10) ++ [UInt8.ofNat (48 + u % 10)] := by rw [Lib.decDigits, dif_neg h]
theorem dgt_nat (d : Nat) (h : d < 10) : (UInt8.ofNat (48 + d)).toNat = 48 + d := by rw [UInt8.toNat_ofNat']; omega
theorem dgt_is (d : Nat) (h : d < 10) : digit (UInt8.ofNat (48 + d)) = true := by unfold digit; rw [dgt_nat d h]; exact decide_eq_true (by omega)
theorem vl_snoc (l : S) (c : UInt8) : val (l ++ [c]) = 10 * val l + (c.toNat - 48) := by unfold val; rw [List.foldl_append]; rfl
theorem dec_ne (u : Nat) : Lib.decDigits u ≠ [] := by
  by_cases h : u < 10
  · rw [dec_small h]; simp
  · rw [dec_big h]; simp
theorem dec_all (u : Nat) : (Lib.decDigits u).all digit = true := by
  induction u using Nat.strongRecOn with
  | _ u ih =>
    by_cases h : u < 10
    · rw [dec_small h, List.all_cons, dgt_is u h]; rfl
    · rw [dec_big h, List.all_append, ih (u / 10) (by omega), List.all_cons, dgt_is _ (by omega)]; rfl
theorem dec_val (u : Nat) : val (Lib.decDigits u) = u := by
  induction u using Nat.strongRecOn with
  | _ u ih =>
    by_cases h : u < 10
    · rw [dec_small h]
      show 10 * 0 + ((UInt8.ofNat (48 + u)).toNat - 48) = u
      rw [dgt_nat u h]; omega
    · rw [dec_big h, vl_snoc, ih (u / 10) (by omega), dgt_nat _ (by omega)]; omega
theorem dec_head (u : Nat) : 1 ≤ u → (Lib.decDigits u).head? ≠ some 48 := by
  induction u using Nat.strongRecOn with
  | _ u ih =>
    intro h1
    by_cases h : u < 10
    · rw [dec_small h]
      intro e
      have e2 := congrArg UInt8.toNat (Option.some.inj e)
      rw [dgt_nat u h] at e2
      have : (48 : UInt8).toNat = 48 := rfl
      omega
    · rw [dec_big h, head_app (dec_ne _)]
      exact ih (u / 10) (by omega) (by omega)
theorem snoc_ind {P : S → Prop} (h0 : P []) (h1 : ∀ l c, P l → P (l ++ [c])) : ∀ l, P l := by
  have key : ∀ (n : Nat) (l : S), l.length = n → P l := by
    intro n
    induction n with
    | zero => intro l hl; rw [List.eq_nil_of_length_eq_zero hl]; exact h0
    | succ n ih =>
      intro l hl
      have hne : l ≠ [] := by intro e; rw [e] at hl; cases hl
      rw [← List.dropLast_concat_getLast hne]
      exact h1 _ _ (ih _ (by rw [List.length_dropLast]; omega))
  exact fun l => key l.length l rfl
theorem val_pos : ∀ l : S, l.all digit = true → l ≠ [] → l.head? ≠ some 48 → 1 ≤ val l := by
  refine snoc_ind (fun _ h => (h rfl).elim) fun l c ih ha _ hh => ?_
  rw [List.all_append, Bool.and_eq_true] at ha
  rw [vl_snoc]
  by_cases hl : l = []
  · subst hl
    have hd : digit c = true := by simpa using ha.2
    unfold digit at hd
    have hd := of_decide_eq_true hd
    have hc : c.toNat ≠ 48 := fun e => hh (by
      show some c = some 48
      rw [UInt8.toNat_inj.1 (show c.toNat = (48 : UInt8).toNat from e)])
    omega
  · rw [head_app hl] at hh
    have := ih ha.1 hl hh
    omega
/-- A numeral without zeros ahead is what Itoa writes. -/
theorem val_dec : ∀ l : S, l.all digit = true → l ≠ [] → (l.length ≤ 1 ∨ l.head? ≠ some 48) → Lib.decDigits (val l) = l := by
  refine snoc_ind (fun _ h => (h rfl).elim) fun l c ih ha _ hh => ?_
  rw [List.all_append, Bool.and_eq_true] at ha
  rw [vl_snoc]
  have hd : digit c = true := by simpa using ha.2
  unfold digit at hd
  have hd := of_decide_eq_true hd
  have hc : UInt8.ofNat (48 + (c.toNat - 48)) = c := UInt8.toNat_inj.1 (by rw [dgt_nat _ (by omega)]; omega)
  by_cases hl : l = []
  · subst hl
    show Lib.decDigits (10 * 0 + (c.toNat - 48)) = [c]
    rw [Nat.mul_zero, Nat.zero_add, dec_small (by omega), hc]
  · have hh2 : l.head? ≠ some 48 := by
      rcases hh with h | h
      · have := List.length_pos_iff.2 hl
        rw [List.length_append, List.length_singleton] at h; omega
      · rwa [head_app hl] at h
    have hp := val_pos l ha.1 hl hh2
    rw [dec_big (by omega), show (10 * val l + (c.toNat - 48)) / 10 = val l by omega, show (10 * val l + (c.toNat - 48)) % 10 = c.toNat - 48 by omega, hc, ih ha.1 hl (.inr hh2)]
theorem parse_snoc : ∀ (l : List UInt8) (acc a : Nat) (c : UInt8), Lib.parseUint10 acc l = .ok a → 48 ≤ c.toNat → c.toNat ≤ 57 →
    a < 1844674407370955162 → a * 10 + (c.toNat - 48) < 18446744073709551616 → Lib.parseUint10 acc (l ++ [c]) = .ok (a * 10 + (c.toNat - 48))
  | [], acc, a, c, h, h1, h2, h3, h4 => by
    simp only [Lib.parseUint10, Lib.NumEnd.ok.injEq] at h
    subst h
    simp only [List.nil_append, Lib.parseUint10]
    rw [if_pos ⟨h1, h2⟩, if_neg (by omega), if_neg (by omega)]
  | x :: l, acc, a, c, h, h1, h2, h3, h4 => by
    simp only [Lib.parseUint10] at h
    split at h
    · rename_i hx
      split at h
      · cases h
      · rename_i h5
        split at h
        · cases h
        · rename_i h6
          simp only [List.cons_append, Lib.parseUint10]
          rw [if_pos hx, if_neg h5, if_neg h6]
          exact parse_snoc l _ a c h h1 h2 h3 h4
    · cases h
theorem parse_dec (u : Nat) (hu : u < 18446744073709551616) : Lib.parseUint10 0 (Lib.decDigits u) = .ok u := by
  induction u using Nat.strongRecOn with
  | _ u ih =>
    by_cases h : u < 10
    · have e := parse_snoc [] 0 0 (UInt8.ofNat (48 + u)) rfl (by rw [dgt_nat u h]; omega) (by rw [dgt_nat u h]; omega) (by omega) (by rw [dgt_nat u h]; omega)
      rw [dec_small h]
      rw [dgt_nat u h] at e
      simpa using e
    · have hd : (UInt8.ofNat (48 + u % 10)).toNat = 48 + u % 10 := dgt_nat _ (by omega)
      have e := parse_snoc _ 0 (u / 10) (UInt8.ofNat (48 + u % 10)) (ih (u / 10) (by omega) (by omega)) (by rw [hd]; omega) (by rw [hd]; omega) (by omega) (by rw [hd]; omega)
      rw [dec_big h, e, hd]
      congr 1
      omega
theorem itoa_of (u : Nat) : Lib.itoa (u : Int) = Lib.decDigits u := by rw [Lib.itoa, if_neg (by omega), Int.toNat_natCast]
theorem atoi_dec (u : Nat) (h : u < 9223372036854775808) : Lib.atoiAll (Lib.decDigits u) = .ok (u : Int) := by
  obtain ⟨c, r, hc⟩ : ∃ c r, Lib.decDigits u = c :: r := List.exists_cons_of_ne_nil (dec_ne _)
  have hr := dec_all u
  rw [hc, List.all_cons, Bool.and_eq_true] at hr
  have hd := hr.1
  unfold digit at hd
  have hd := of_decide_eq_true hd
  have hp : Lib.parseMag (Lib.decDigits u) = .ok u := by
    unfold Lib.parseMag
    rw [if_neg (dec_ne u)]
    exact parse_dec u (by omega)
  rw [hc] at hp ⊢
  rw [Lib.atoiAll_plain c r (by omega) (by omega), hp]
  simp only [Lib.signless]
  rw [if_neg (by omega)]
theorem nm_parts {s : S} (h : numOk s = true) : s ≠ [] ∧ s.all digit = true ∧ (s.length ≤ 1 ∨ s.head? ≠ some 48) ∧ val s ≤ 1099511627776 := by
  unfold numOk at h
  simp only [Bool.and_eq_true, Bool.or_eq_true, decide_eq_true_eq, bne_iff_ne] at h
  exact ⟨h.1.1.1, h.1.1.2, h.1.2, h.2⟩
/-- A valid number: its value is what Atoi reads, and Itoa writes it back. -/
theorem nm_yes {s : S} (h : numOk s = true) : Lib.atoiAll s = .ok (val s : Int) ∧ Lib.itoa (val s : Int) = s ∧ val s ≤ 1099511627776 := by
  obtain ⟨h1, h2, h3, h4⟩ := nm_parts h
  have e := val_dec s h2 h1 h3
  refine ⟨?_, by rw [itoa_of, e], h4⟩
  have := atoi_dec (val s) (by omega)
  rwa [e] at this
/-- What is not one: if Atoi reads a number all the same, it is out of range, or Itoa writes another text. -/
theorem nm_no {s : S} (h : numOk s = false) {n : Int} (h0 : 0 ≤ n) (h1 : n ≤ 1099511627776) : Lib.itoa n ≠ s := by
  intro e
  obtain ⟨u, rfl⟩ : ∃ u : Nat, n = u := ⟨n.toNat, by omega⟩
  rw [itoa_of] at e
  have hn : numOk s = true := by
    subst e
    unfold numOk
    simp only [Bool.and_eq_true, Bool.or_eq_true, decide_eq_true_eq, bne_iff_ne]
    refine ⟨⟨⟨dec_ne u, dec_all u⟩, ?_⟩, by rw [dec_val]; omega⟩
    by_cases hu : u = 0
    · subst hu; left; rw [dec_small (by omega)]; exact Nat.le_refl _
    · exact .inr (dec_head u (by omega))
  rw [h] at hn; cases hn
end Lx
end Go.Proofs.YtlefgffnjcmfoaaGreatDoor
namespace Go.Proofs.YtlefgffnjcmfoaaGreatDoor
open Go.RowKit Go.Maps Go.ChangeMaps Go.MapKept
open Lx
attribute [local go_sem ↓] Go.wp_at_zero Go.wp_at_succ
section
variable {w : World}
set_option maxHeartbeats 1000000 in
set_option maxRecDepth 100000 in
theorem l_letter {c : UInt8} : Calls Tryz.prog 57 #[.int .u8 (c.toNat : Int)] w fun e w' => e = .returned (.bool (letter c)) ∧ w = w' := by
  by_cases h1 : c.toNat < 97
  · have HR := Lib.hid (letter_n c (decide_eq_false (by omega)))
    generalize c.toNat = n at h1 ⊢
    have h1' : ¬ (97 : Int) ≤ (n : Int) := by omega
    go_enter Tryz.func57, Tryz.ntmps57
    go_wp2
    go_ret
    exact ⟨ret_bool HR.out.symm, rfl⟩
  · by_cases h2 : c.toNat ≤ 122
    · have HR := Lib.hid (letter_n c (decide_eq_true (by omega)))
      generalize c.toNat = n at h1 h2 ⊢
      have h1' : (97 : Int) ≤ (n : Int) := by omega
      have h2' : (n : Int) ≤ 122 := by omega
      go_enter Tryz.func57, Tryz.ntmps57
      go_wp2
      go_ret
      exact ⟨ret_bool HR.out.symm, rfl⟩
    · have HR := Lib.hid (letter_n c (decide_eq_false (by omega)))
      generalize c.toNat = n at h1 h2 ⊢
      have h1' : (97 : Int) ≤ (n : Int) := by omega
      have h2' : ¬ (n : Int) ≤ 122 := by omega
      go_enter Tryz.func57, Tryz.ntmps57
      go_wp2
      go_ret
      exact ⟨ret_bool HR.out.symm, rfl⟩
set_option maxHeartbeats 1000000 in
set_option maxRecDepth 100000 in
theorem l_digit {c : UInt8} : Calls Tryz.prog 63 #[.int .u8 (c.toNat : Int)] w fun e w' => e = .returned (.bool (digit c)) ∧ w = w' := by
  by_cases h1 : c.toNat < 48
  · have HR := Lib.hid (digit_n c (decide_eq_false (by omega)))
    generalize c.toNat = n at h1 ⊢
    have h1' : ¬ (48 : Int) ≤ (n : Int) := by omega
    go_enter Tryz.func63, Tryz.ntmps63
    go_wp2
    go_ret
    exact ⟨ret_bool HR.out.symm, rfl⟩
  · by_cases h2 : c.toNat ≤ 57
    · have HR := Lib.hid (digit_n c (decide_eq_true (by omega)))
      generalize c.toNat = n at h1 h2 ⊢
      have h1' : (48 : Int) ≤ (n : Int) := by omega
      have h2' : (n : Int) ≤ 57 := by omega
      go_enter Tryz.func63, Tryz.ntmps63
      go_wp2
      go_ret
      exact ⟨ret_bool HR.out.symm, rfl⟩
    · have HR := Lib.hid (digit_n c (decide_eq_false (by omega)))
      generalize c.toNat = n at h1 h2 ⊢
      have h1' : (48 : Int) ≤ (n : Int) := by omega
      have h2' : ¬ (n : Int) ≤ 57 := by omega
      go_enter Tryz.func63, Tryz.ntmps63
      go_wp2
      go_ret
      exact ⟨ret_bool HR.out.symm, rfl⟩
set_option maxHeartbeats 1000000 in
set_option maxRecDepth 100000 in
theorem l_blank {c : UInt8} : Calls Tryz.prog 38 #[.int .u8 (c.toNat : Int)] w fun e w' => e = .returned (.bool (Lx.blank c)) ∧ w = w' := by
  have e9 : ((c.toNat : Int) == 9) = (c == 9) := beq_n c 9
  have e10 : ((c.toNat : Int) == 10) = (c == 10) := beq_n c 10
  have e32 : ((c.toNat : Int) == 32) = (c == 32) := beq_n c 32
  have HR := Lib.hid (show Lx.blank c = ((c == 9) || (c == 10) || (c == 32)) from rfl)
  generalize (c == 9) = b1 at *
  generalize (c == 10) = b2 at *
  generalize (c == 32) = b3 at *
  cases b1 <;> cases b2 <;> cases b3 <;> (
    go_enter Tryz.func38, Tryz.ntmps38
    go_wp2
    go_ret
    exact ⟨ret_bool HR.out.symm, rfl⟩)
theorem l_letter_of {c : UInt8} {b : Bool} (h : letter c = b) (w : World) : Calls Tryz.prog 57 #[.int .u8 (c.toNat : Int)] w fun e w' => e = .returned (.bool b) ∧ w = w' := by have := l_letter (w := w) (c := c); rwa [h] at this
theorem l_digit_of {c : UInt8} {b : Bool} (h : digit c = b) (w : World) : Calls Tryz.prog 63 #[.int .u8 (c.toNat : Int)] w fun e w' => e = .returned (.bool b) ∧ w = w' := by have := l_digit (w := w) (c := c); rwa [h] at this
theorem l_blank_of {c : UInt8} {b : Bool} (h : Lx.blank c = b) (w : World) : Calls Tryz.prog 38 #[.int .u8 (c.toNat : Int)] w fun e w' => e = .returned (.bool b) ∧ w = w' := by have := l_blank (w := w) (c := c); rwa [h] at this
set_option maxHeartbeats 1000000 in
set_option maxRecDepth 100000 in
theorem l_alnum_of {c : UInt8} {b : Bool} (h : alnum c = b) (w : World) : Calls Tryz.prog 59 #[.int .u8 (c.toNat : Int)] w fun e w' => e = .returned (.bool b) ∧ w = w' := by
  unfold alnum at h
  subst h
  go_enter Tryz.func59, Tryz.ntmps59
  cases hl : letter c with
  | true =>
    have H1 := Lib.hid (l_letter_of hl)
    clear hl
    go_wp2_with (go_at_call 57; refine (H1.out _).mono ?_; rintro e w2 ⟨rfl, rfl⟩; refine Hid.out ?_)
    refine Lib.hid ?_
    go_wp2
    go_ret
    exact ⟨rfl, rfl⟩
  | false =>
    have H1 := Lib.hid (l_letter_of hl)
    clear hl
    cases hg : digit c with
    | true =>
      have H2 := Lib.hid (l_digit_of hg)
      clear hg
      go_wp2_with (go_at_call 57; refine (H1.out _).mono ?_; rintro e w2 ⟨rfl, rfl⟩; refine Hid.out ?_)
      refine Lib.hid ?_
      go_wp2_with (go_at_call 63; refine (H2.out _).mono ?_; rintro e w3 ⟨rfl, rfl⟩; refine Hid.out ?_)
      refine Lib.hid ?_
      go_wp2
      go_ret
      exact ⟨rfl, rfl⟩
    | false =>
      have H2 := Lib.hid (l_digit_of hg)
      clear hg
      go_wp2_with (go_at_call 57; refine (H1.out _).mono ?_; rintro e w2 ⟨rfl, rfl⟩; refine Hid.out ?_)
      refine Lib.hid ?_
      go_wp2_with (go_at_call 63; refine (H2.out _).mono ?_; rintro e w3 ⟨rfl, rfl⟩; refine Hid.out ?_)
      refine Lib.hid ?_
      go_wp2
      go_ret
      exact ⟨rfl, rfl⟩
set_option maxHeartbeats 4000000 in
set_option maxRecDepth 100000 in
theorem l_longW {s : S} (hs : s.length ≤ 100000) : Calls Tryz.prog 58 #[.string (bs s), .func (.func 59) #[] #[]] w fun e w' => e = .returned (.string (bs (s.takeWhile alnum))) ∧ w = w' := by
  have hz := bs_size s
  obtain ⟨t, ht⟩ : ∃ t, s.takeWhile alnum = t := ⟨_, rfl⟩
  have htl : t.length ≤ s.length := by rw [← ht]; exact tw_len s
  have HT := Lib.hid ht
  have HE := Lib.hid (show (bs s).extract 0 t.length = bs t by rw [bs_extract, List.drop_zero, Nat.sub_zero, ← ht, take_tw])
  rw [ht]
  clear ht
  go_enter Tryz.func58, Tryz.ntmps58
  go_wp2
  go_loopw [5] (fun i wr => ∃ k : Nat, k ≤ t.length ∧ i = .int .i64 k ∧ w = wr) (fun i _ => s.length - (intOf i).toNat)
  case atStart => exact ⟨0, Nat.zero_le _, rfl, rfl⟩
  case round =>
    obtain ⟨k, hk, rfl, rfl⟩ := hrel
    by_cases hlt : k < t.length
    · obtain ⟨d, hd, hq⟩ : ∃ d, s[k]? = some d ∧ alnum d = true := tw_get (by rw [HT.out]; exact hlt)
      obtain ⟨i1, g1⟩ := bs_get hd
      clear hd
      have hks : k < s.length := by omega
      have HQ := Lib.hid (l_alnum_of hq)
      clear hq
      go_wp2_with (go_at_call 59; refine (HQ.out _).mono ?_; rintro e w3 ⟨rfl, rfl⟩; refine Hid.out ?_)
      refine Lib.hid ?_
      go_wp2
      go_roundw
      case rel => exact ⟨k + 1, by omega, by go_num, by trivial⟩
      case measure => simp [intOf]; omega
    · obtain rfl : t.length = k := by omega
      clear hk hlt
      have he := HE.out
      by_cases hks : t.length < s.length
      · obtain ⟨d, hd⟩ : ∃ d, s[t.length]? = some d := ⟨_, List.getElem?_eq_getElem hks⟩
        have hq : alnum d = false := tw_end (q := alnum) (r := s) (by rw [HT.out]; exact hd)
        obtain ⟨i1, g1⟩ := bs_get hd
        have HQ := Lib.hid (l_alnum_of hq)
        clear hd hq
        go_wp2_with (go_at_call 59; refine (HQ.out _).mono ?_; rintro e w3 ⟨rfl, rfl⟩; refine Hid.out ?_)
        refine Lib.hid ?_
        clear HQ g1
        go_wp2
        go_ret
        exact ⟨rfl, rfl⟩
      · go_wp2
        go_ret
        exact ⟨rfl, rfl⟩
set_option maxHeartbeats 4000000 in
set_option maxRecDepth 100000 in
theorem l_longD {s : S} (hs : s.length ≤ 100000) : Calls Tryz.prog 58 #[.string (bs s), .func (.func 63) #[] #[]] w fun e w' => e = .returned (.string (bs (s.takeWhile digit))) ∧ w = w' := by
  have hz := bs_size s
  obtain ⟨t, ht⟩ : ∃ t, s.takeWhile digit = t := ⟨_, rfl⟩
  have htl : t.length ≤ s.length := by rw [← ht]; exact tw_len s
  have HT := Lib.hid ht
  have HE := Lib.hid (show (bs s).extract 0 t.length = bs t by rw [bs_extract, List.drop_zero, Nat.sub_zero, ← ht, take_tw])
  rw [ht]
  clear ht
  go_enter Tryz.func58, Tryz.ntmps58
  go_wp2
  go_loopw [5] (fun i wr => ∃ k : Nat, k ≤ t.length ∧ i = .int .i64 k ∧ w = wr) (fun i _ => s.length - (intOf i).toNat)
  case atStart => exact ⟨0, Nat.zero_le _, rfl, rfl⟩
  case round =>
    obtain ⟨k, hk, rfl, rfl⟩ := hrel
    by_cases hlt : k < t.length
    · obtain ⟨d, hd, hq⟩ : ∃ d, s[k]? = some d ∧ digit d = true := tw_get (by rw [HT.out]; exact hlt)
      obtain ⟨i1, g1⟩ := bs_get hd
      clear hd
      have hks : k < s.length := by omega
      have HQ := Lib.hid (l_digit_of hq)
      clear hq
      go_wp2_with (go_at_call 63; refine (HQ.out _).mono ?_; rintro e w3 ⟨rfl, rfl⟩; refine Hid.out ?_)
      refine Lib.hid ?_
      go_wp2
      go_roundw
      case rel => exact ⟨k + 1, by omega, by go_num, by trivial⟩
      case measure => simp [intOf]; omega
    · obtain rfl : t.length = k := by omega
      clear hk hlt
      have he := HE.out
      by_cases hks : t.length < s.length
      · obtain ⟨d, hd⟩ : ∃ d, s[t.length]? = some d := ⟨_, List.getElem?_eq_getElem hks⟩
        have hq : digit d = false := tw_end (q := digit) (r := s) (by rw [HT.out]; exact hd)
        obtain ⟨i1, g1⟩ := bs_get hd
        have HQ := Lib.hid (l_digit_of hq)
        clear hd hq
        go_wp2_with (go_at_call 63; refine (HQ.out _).mono ?_; rintro e w3 ⟨rfl, rfl⟩; refine Hid.out ?_)
        refine Lib.hid ?_
        clear HQ g1
        go_wp2
        go_ret
        exact ⟨rfl, rfl⟩
      · go_wp2
        go_ret
        exact ⟨rfl, rfl⟩
theorem tw_self {q : UInt8 → Bool} {s : S} (h : s.all q = true) : s.takeWhile q = s := by
  induction s with
  | nil => rfl
  | cons c r ih =>
    rw [List.all_cons, Bool.and_eq_true] at h
    rw [List.takeWhile_cons_of_pos h.1, ih h.2]
theorem tw_all {q : UInt8 → Bool} {s : S} (h : s.takeWhile q = s) : s.all q = true := by
  induction s with
  | nil => rfl
  | cons c r ih =>
    by_cases hc : q c = true
    · rw [List.takeWhile_cons_of_pos hc] at h
      rw [List.all_cons, hc, ih (List.cons.inj h).2]; rfl
    · rw [List.takeWhile_cons_of_neg hc] at h; cases h
theorem word_tw {c : UInt8} {r : S} (h1 : letter c = true) (h2 : (c :: r).length ≤ 20) : wordOk (c :: r) = decide ((c :: r).takeWhile alnum = c :: r) := by
  have hc : alnum c = true := by unfold alnum; rw [h1]; rfl
  have e : wordOk (c :: r) = r.all alnum := by
    unfold wordOk
    rw [decide_eq_true h2]; simp [h1]
  rw [e]
  by_cases h : r.all alnum = true
  · rw [h, decide_eq_true (by rw [List.takeWhile_cons_of_pos hc, tw_self h])]
  · rw [Bool.not_eq_true] at h
    rw [h, decide_eq_false]
    intro hh
    rw [List.takeWhile_cons_of_pos hc] at hh
    rw [tw_all (List.cons.inj hh).2] at h; cases h
set_option maxHeartbeats 4000000 in
set_option maxRecDepth 100000 in
theorem p_word {s : S} (hs : s.length ≤ 100000) : Calls Tryz.prog 31 #[.string (bs s)] w fun e w' => e = .returned (.bool (wordOk s)) ∧ w = w' := by
  have hz := bs_size s
  go_enter Tryz.func31, Tryz.ntmps31
  by_cases h1 : s.length < 1
  · have HR := Lib.hid (word_len (s := s) (by omega))
    obtain rfl : s = [] := List.eq_nil_of_length_eq_zero (by omega)
    have he := empty_yes
    clear hz h1
    go_wp2
    go_ret
    exact ⟨ret_bool HR.out.symm, rfl⟩
  · have he : (bs s).toList.isEmpty = false := empty_no (by intro e; rw [e] at h1; simp at h1)
    by_cases h2 : 20 < s.length
    · have HR := Lib.hid (word_len (s := s) (by omega))
      have h2' : ¬ (s.length : Int) ≤ 20 := by omega
      go_wp2
      go_ret
      exact ⟨ret_bool HR.out.symm, rfl⟩
    · have h2' : (s.length : Int) ≤ 20 := by omega
      obtain ⟨c, r, hcr⟩ : ∃ c r, s = c :: r := by
        cases s with
        | nil => simp at h1
        | cons c r => exact ⟨c, r, rfl⟩
      obtain ⟨i0, g0⟩ := bs_get (l := s) (k := 0) (c := c) (by rw [hcr]; rfl)
      have HCR := Lib.hid hcr
      clear hcr
      cases hl : letter c with
      | false =>
        have HL := Lib.hid (l_letter_of hl)
        have HR := Lib.hid (show wordOk s = false by rw [HCR.out]; exact word_first hl)
        clear hl
        go_wp2_with (go_at_call 57; refine (HL.out _).mono ?_; rintro e w2 ⟨rfl, rfl⟩; refine Hid.out ?_)
        refine Lib.hid ?_
        go_wp2
        go_ret
        exact ⟨ret_bool HR.out.symm, rfl⟩
      | true =>
        have HL := Lib.hid (l_letter_of hl)
        have HW := Lib.hid (l_longW (w := w) hs)
        have HR := Lib.hid (show wordOk s = decide (s.takeWhile alnum = s) by rw [HCR.out]; rw [HCR.out] at h2; exact word_tw hl (by omega))
        clear hl
        go_wp2_with (go_at_call 57; refine (HL.out _).mono ?_; rintro e w2 ⟨rfl, rfl⟩; refine Hid.out ?_)
        refine Lib.hid ?_
        clear HL
        go_wp2_with (go_at_call 58; refine (HW.out).mono ?_; rintro e w3 ⟨rfl, rfl⟩; refine Hid.out ?_)
        refine Lib.hid ?_
        clear HW g0
        by_cases ht : s.takeWhile alnum = s
        · rw [decide_eq_true ht] at HR
          rw [ht]
          clear ht
          go_wp2
          go_ret
          exact ⟨ret_bool HR.out.symm, rfl⟩
        · rw [decide_eq_false ht] at HR
          have hne := str_ne ht
          clear ht
          go_wp2
          go_ret
          exact ⟨ret_bool HR.out.symm, rfl⟩
end
end Go.Proofs.YtlefgffnjcmfoaaGreatDoor
namespace Go.Proofs.YtlefgffnjcmfoaaGreatDoor
open Go.RowKit
theorem gb_drewN {a w : World} {row : Option Nat} (h : a.grownBy w row) (n : Nat) : a.grownBy (w.drewN n) row := ⟨h.os, h.tape, h.output, h.size, h.block⟩
theorem gb_refl (w : World) (row : Option Nat) : w.grownBy w row := ⟨rfl, rfl, rfl, Nat.le_refl _, fun _ _ _ => rfl⟩
theorem gb_trans {a b c : World} {row : Option Nat} (h : a.grownBy b row) (k : b.grownBy c row) : a.grownBy c row :=
  ⟨k.os.trans h.os, k.tape.trans h.tape, k.output.trans h.output, Nat.le_trans h.size k.size, fun i hi hne => (k.block i (Nat.lt_of_lt_of_le hi h.size) hne).trans (h.block i hi hne)⟩
theorem gb_below {a b c : World} {row : Option Nat} (h : a.grownBy b row) (k : Below b.heap.size b c) : a.grownBy c row :=
  ⟨k.os.trans h.os, k.tape.trans h.tape, k.output.trans h.output, Nat.le_trans h.size k.size, fun i hi hne => (k.block i (Nat.lt_of_lt_of_le hi h.size)).trans (h.block i hi hne)⟩
theorem gb_of_below {a w : World} (h : Below a.heap.size a w) (row : Option Nat) : a.grownBy w row := ⟨h.os, h.tape, h.output, h.size, fun i hi _ => h.block i hi⟩
theorem gb_none {a w : World} (h : a.grownBy w none) : Below a.heap.size a w := ⟨h.os, h.tape, h.output, h.size, fun i hi => h.block i hi (by simp)⟩
theorem gb_alloc {a w : World} {row : Option Nat} (h : a.grownBy w row) (o : Obj) : a.grownBy (w.alloc o) row :=
  ⟨h.os, h.tape, h.output, Nat.le_trans h.size (by simp), fun i hi hne => (Below.heap_alloc w o i (Nat.lt_of_lt_of_le hi h.size)).trans (h.block i hi hne)⟩
theorem gb_set {a w : World} {g : Nat} (h : a.grownBy w (some g)) {p : Addr} (hp : p.block = g ∨ a.heap.size ≤ p.block) (u : Value) : a.grownBy (w.setCell p u) (some g) :=
  ⟨h.os, h.tape, h.output, by simpa [World.setCell] using h.size, fun i hi hne => (Below.heap_setCell w p u i (by
    rintro rfl
    rcases hp with hp | hp
    · exact hne (by rw [hp])
    · omega)).trans (h.block i hi hne)⟩
/-- A block that lies from B on: what lies below B stands. -/
theorem below_gb {a w : World} {g B : Nat} (h : a.grownBy w (some g)) (hB : B ≤ g) (hs : B ≤ a.heap.size) : Below B a w :=
  ⟨h.os, h.tape, h.output, h.size, fun i hi => h.block i (by omega) (by intro e; injection e; omega)⟩
/-- Two blocks of the call's own. -/
theorem below_trans_gb {a b c : World} {g B : Nat} (h : Below B a b) (k : b.grownBy c (some g)) (hB : B ≤ g) (hs : B ≤ a.heap.size) : Below B a c :=
  h.trans (below_gb k hB (Nat.le_trans hs h.size))

theorem builder_size : (Tryz.prog.info? 72).map (·.size) = some 2 := by kernel_rfl
theorem builder_lies : liesAt Tryz.prog Tryz.prog.depth 72 (2 / Tryz.prog.cellsOf 72) 0 72 1 = true := by kernel_rfl

set_option maxHeartbeats 1000000 in
set_option maxRecDepth 100000 in
theorem check_used (b : Nat) (w : World) (h0 : w.cell? ⟨b, 0, none⟩ = some (.pointer (some ⟨b, 0, none⟩))) :
    Calls Tryz.prog 70 #[.pointer (some ⟨b, 0, none⟩)] w fun e w' => e = .returned (.tuple #[]) ∧ w = w' := by
  obtain ⟨j, hj, _⟩ := Option.map_eq_some_iff.1 builder_size
  go_enter Tryz.func70, Tryz.ntmps70
  go_wp2
  rw [Lib.run_neq_ptr_same w _ Tryz.underlying69 hj]
  go_wp2
  go_end0
  exact ⟨rfl, rfl⟩

set_option maxHeartbeats 1000000 in
set_option maxRecDepth 100000 in
theorem check_fresh (b : Nat) (w : World) (h0 : w.cell? ⟨b, 0, none⟩ = some (.pointer none)) (hsh : w.shape? b = some (72, 2)) (hfz : w.frozen? ⟨b, 0, none⟩ = false) :
    Calls Tryz.prog 70 #[.pointer (some ⟨b, 0, none⟩)] w fun e w' => e = .returned (.tuple #[]) ∧ w' = w.setCell ⟨b, 0, none⟩ (.pointer (some ⟨b, 0, none⟩)) := by
  obtain ⟨j, hj, hjs⟩ := Option.map_eq_some_iff.1 builder_size
  go_enter Tryz.func70, Tryz.ntmps70
  go_wp2
  rw [Lib.run_to_unsafe w ⟨b, 0, none⟩ Tryz.underlying69 Tryz.underlying90 hj (by rw [hjs]; decide) hsh (Nat.zero_lt_succ 1)]
  simp only [Result.andThen]
  rw [Oper.upon_value]
  go_wp2
  rw [run_callFunc_extern Tryz.func76 (by kernel_rfl) (by kernel_rfl) (by kernel_rfl) (e := Extern.AbiNoEscape.same) (by kernel_rfl)]
  rw [Lib.run_noEscape]
  simp only [Result.andThen]
  rw [Oper.upon_value]
  go_wp2
  rw [Lib.run_from_unsafe w ⟨b, 0, none⟩ Tryz.underlying90 Tryz.underlying69 hj hsh builder_lies]
  simp only [Result.andThen]
  rw [Oper.upon_value]
  go_wp2
  go_end0
  exact ⟨rfl, rfl⟩

theorem check_any (B b : Nat) (xs : List Value) (w : World) (h : Lib.IsBuilder 72 5 B b xs w) :
    Calls Tryz.prog 70 #[.pointer (some ⟨b, 0, none⟩)] w fun e w' => e = .returned (.tuple #[]) ∧ Lib.BuilderAt 72 5 B b (.pointer (some ⟨b, 0, none⟩)) xs w' ∧ w.grownBy w' (some b) := by
  rcases h with h | h
  · refine (check_fresh b w h.cell0 h.shape h.frozen0).mono ?_
    rintro e w' ⟨rfl, rfl⟩
    exact ⟨rfl, h.used _, gb_set (gb_refl _ _) (.inl rfl) _⟩
  · refine (check_used b w h.cell0).mono ?_
    rintro e w' ⟨rfl, rfl⟩
    exact ⟨rfl, h, gb_refl _ _⟩

set_option maxHeartbeats 2000000 in
set_option maxRecDepth 100000 in
/-- WriteString. -/
theorem str_any (B b : Nat) (xs : List Value) (s : ByteArray) (w : World) (h : Lib.IsBuilder 72 5 B b xs w) (hlen : xs.length + s.size ≤ 140737488355328) (hBw : B ≤ w.heap.size) :
    Calls Tryz.prog 52 #[.pointer (some ⟨b, 0, none⟩), .string s] w fun e w' => e = .returned (.tuple #[.int .i64 s.size, .nilIface]) ∧ Lib.IsBuilder 72 5 B b (xs ++ Lib.strCells s) w' ∧ Below B w w' := by
  obtain ⟨i0, hi, hz0, hz1, hz2⟩ := info_parts byte_info
  go_enter Tryz.func52, Tryz.ntmps52
  go_wp2_with (go_at_call 70; refine (check_any B b xs _ h).mono ?_)
  rintro e w1 ⟨rfl, h1, hg1⟩
  obtain ⟨hB, v, hbk, hown, hne⟩ := h1
  have hb1 : Below B w w1 := below_gb hg1 hB hBw
  have c0 : w1.cell? ⟨b, 0, none⟩ = some (.pointer (some ⟨b, 0, none⟩)) := by rw [Lib.cell_of_heap hbk]; rfl
  have c1 : w1.cell? ⟨b, 1, none⟩ = some v := by rw [Lib.cell_of_heap hbk]; rfl
  go_wp2_with (at_builtin; refine Lib.wpList_append_own_string _ rfl _ _ 70 9 rfl B 5 i0 Tryz.underlying70 Tryz.underlying9 hi hz0 hz1 hz2 _ _ _ rfl hown s rfl ?c3 ?c4 ?c5 ?_)
  case c3 => unfold maxLen; omega
  case c4 => omega
  case c5 => have := hb1.size; omega
  intro v' w2 hown' hgrow _
  have hlt : b < w1.heap.size := by
    rcases Nat.lt_or_ge b w1.heap.size with h' | h'
    · exact h'
    · simp [Array.getElem?_eq_none h'] at hbk
  have hb2 : w2.heap[b]? = some (.cells #[.pointer (some ⟨b, 0, none⟩), v] 72 (0, 0)) := by
    rw [hgrow.block b hlt (fun e => hne e.symm)]
    exact hbk
  have d0 : w2.cell? ⟨b, 0, none⟩ = some (.pointer (some ⟨b, 0, none⟩)) := by rw [Lib.cell_of_heap hb2]; rfl
  have d1 : w2.cell? ⟨b, 1, none⟩ = some v := by rw [Lib.cell_of_heap hb2]; rfl
  have f1 : w2.frozen? ⟨b, 1, none⟩ = false := Lib.frozen_of_heap hb2 1
  obtain ⟨ao, n', cap, rfl⟩ : ∃ ao n' cap, v' = .slice ao n' cap := by
    rcases hown'.2 with ⟨hv, _⟩ | ⟨g, cap, cur, hv, _⟩
    · exact ⟨_, _, _, hv⟩
    · exact ⟨_, _, _, hv⟩
  go_wp2
  go_ret2
  refine ⟨rfl, .inr ?_, ?_⟩
  · exact Lib.BuilderAt.put (T := 72) (e := 5) hB hb2 (bs' := xs ++ Lib.strCells s) (by simpa [Lib.strCells_length] using hown') (by decide)
  · exact (hb1.grown hgrow (by have := hb1.size; omega) (fun k hk => (hown.lt k hk).1)).setCell (p := ⟨b, 1, none⟩) hB _

theorem check_kept (b : Nat) (p v : Value) (w : World) (hbk : w.heap[b]? = some (.cells #[p, v] 72 (0, 0))) (hp : p = .pointer none ∨ p = .pointer (some ⟨b, 0, none⟩)) :
    Calls Tryz.prog 70 #[.pointer (some ⟨b, 0, none⟩)] w fun e w' => e = .returned (.tuple #[]) ∧ w'.heap[b]? = some (.cells #[.pointer (some ⟨b, 0, none⟩), v] 72 (0, 0)) ∧ w.grownBy w' (some b) := by
  rcases hp with rfl | rfl
  · refine (check_fresh b w (by rw [Lib.cell_of_heap hbk]; rfl) (by simp [World.shape?, hbk]) (Lib.frozen_of_heap hbk 0)).mono ?_
    rintro e w' ⟨rfl, rfl⟩
    exact ⟨rfl, by simp [World.setCell, Array.getElem?_modify, hbk], gb_set (gb_refl _ _) (.inl rfl) _⟩
  · refine (check_used b w (by rw [Lib.cell_of_heap hbk]; rfl)).mono ?_
    rintro e w' ⟨rfl, rfl⟩
    exact ⟨rfl, hbk, gb_refl _ _⟩

set_option maxHeartbeats 2000000 in
set_option maxRecDepth 100000 in
/-- WriteString, and what it leaves alone: all but the builder and its row. -/
theorem str_own (B b : Nat) (p v : Value) (xs : List Value) (s : ByteArray) (w : World) (hB : B ≤ b) (hbk0 : w.heap[b]? = some (.cells #[p, v] 72 (0, 0))) (hp : p = .pointer none ∨ p = .pointer (some ⟨b, 0, none⟩)) (hown0 : w.ownsRow B 5 1 v xs.length xs) (hne : v.ownBlock ≠ some b)
    (hlen : xs.length + s.size ≤ 140737488355328) (hBw : B ≤ w.heap.size) :
    Calls Tryz.prog 52 #[.pointer (some ⟨b, 0, none⟩), .string s] w fun e w' => e = .returned (.tuple #[.int .i64 s.size, .nilIface]) ∧ Lib.IsBuilder 72 5 B b (xs ++ Lib.strCells s) w' ∧ Below B w w' ∧
      ∀ i, i < w.heap.size → i ≠ b → v.ownBlock ≠ some i → w'.heap[i]? = w.heap[i]? := by
  obtain ⟨i0, hi, hz0, hz1, hz2⟩ := info_parts byte_info
  go_enter Tryz.func52, Tryz.ntmps52
  go_wp2_with (go_at_call 70; refine (check_kept b p v _ hbk0 hp).mono ?_)
  rintro e w1 ⟨rfl, hbk, hg1⟩
  have hown : w1.ownsRow B 5 1 v xs.length xs := hown0.kept hg1 (.inr hne)
  have hb1 : Below B w w1 := below_gb hg1 hB hBw
  have c0 : w1.cell? ⟨b, 0, none⟩ = some (.pointer (some ⟨b, 0, none⟩)) := by rw [Lib.cell_of_heap hbk]; rfl
  have c1 : w1.cell? ⟨b, 1, none⟩ = some v := by rw [Lib.cell_of_heap hbk]; rfl
  go_wp2_with (at_builtin; refine Lib.wpList_append_own_string _ rfl _ _ 70 9 rfl B 5 i0 Tryz.underlying70 Tryz.underlying9 hi hz0 hz1 hz2 _ _ _ rfl hown s rfl ?c3 ?c4 ?c5 ?_)
  case c3 => unfold maxLen; omega
  case c4 => omega
  case c5 => have := hb1.size; omega
  intro v' w2 hown' hgrow _
  have hlt : b < w1.heap.size := by
    rcases Nat.lt_or_ge b w1.heap.size with h' | h'
    · exact h'
    · simp [Array.getElem?_eq_none h'] at hbk
  have hb2 : w2.heap[b]? = some (.cells #[.pointer (some ⟨b, 0, none⟩), v] 72 (0, 0)) := by
    rw [hgrow.block b hlt (fun e => hne e.symm)]
    exact hbk
  have d0 : w2.cell? ⟨b, 0, none⟩ = some (.pointer (some ⟨b, 0, none⟩)) := by rw [Lib.cell_of_heap hb2]; rfl
  have d1 : w2.cell? ⟨b, 1, none⟩ = some v := by rw [Lib.cell_of_heap hb2]; rfl
  have f1 : w2.frozen? ⟨b, 1, none⟩ = false := Lib.frozen_of_heap hb2 1
  obtain ⟨ao, n', cap, rfl⟩ : ∃ ao n' cap, v' = .slice ao n' cap := by
    rcases hown'.2 with ⟨hv, _⟩ | ⟨g, cap, cur, hv, _⟩
    · exact ⟨_, _, _, hv⟩
    · exact ⟨_, _, _, hv⟩
  go_wp2
  go_ret2
  refine ⟨rfl, .inr ?_, ?_, fun i hi hib hiv => ?_⟩
  · exact Lib.BuilderAt.put (T := 72) (e := 5) hB hb2 (bs' := xs ++ Lib.strCells s) (by simpa [Lib.strCells_length] using hown') (by decide)
  · exact (hb1.grown hgrow (by have := hb1.size; omega) (fun k hk => (hown.lt k hk).1)).setCell (p := ⟨b, 1, none⟩) hB _
  · have h3 := Below.heap_setCell w2 ⟨b, 1, none⟩ (.slice ao n' cap) i hib
    exact h3.trans ((hgrow.block i (Nat.lt_of_lt_of_le hi hg1.size) fun e => hiv e.symm).trans (hg1.block i hi fun e => hib (Option.some.inj e)))

/-- WriteString behind new blocks: they stand. -/
theorem str_keep (B b : Nat) (xs : List Value) (s : ByteArray) (w0 w : World) (h : Lib.IsBuilder 72 5 B b xs w0) (hw : Below w0.heap.size w0 w) (hlen : xs.length + s.size ≤ 140737488355328) (hBw : B ≤ w0.heap.size) :
    Calls Tryz.prog 52 #[.pointer (some ⟨b, 0, none⟩), .string s] w fun e w' => e = .returned (.tuple #[.int .i64 s.size, .nilIface]) ∧ Lib.IsBuilder 72 5 B b (xs ++ Lib.strCells s) w' ∧ Below B w w' ∧
      ∀ i, w0.heap.size ≤ i → i < w.heap.size → w'.heap[i]? = w.heap[i]? := by
  have key : ∀ q, (q = .pointer none ∨ q = .pointer (some ⟨b, 0, none⟩)) → Lib.BuilderAt 72 5 B b q xs w0 →
      Calls Tryz.prog 52 #[.pointer (some ⟨b, 0, none⟩), .string s] w fun e w' => e = .returned (.tuple #[.int .i64 s.size, .nilIface]) ∧ Lib.IsBuilder 72 5 B b (xs ++ Lib.strCells s) w' ∧ Below B w w' ∧
        ∀ i, w0.heap.size ≤ i → i < w.heap.size → w'.heap[i]? = w.heap[i]? := by
    rintro q hq ⟨h1, v, h2, h3, h4⟩
    have hlt : b < w0.heap.size := (Array.getElem?_eq_some_iff.1 h2).1
    have hold : w.ownsRow B 5 1 v xs.length xs := h3.kept (gb_of_below hw none) (by
      cases hv : v.ownBlock with
      | none => exact .inl rfl
      | some g => exact .inr (by simp))
    refine (str_own B b q v xs s w h1 ((hw.block b hlt).trans h2) hq hold h4 hlen (Nat.le_trans hBw hw.size)).mono ?_
    rintro e w' ⟨he, hb, hbl, hk⟩
    exact ⟨he, hb, hbl, fun i hi hi2 => hk i hi2 (by omega) fun e => by have := (h3.lt i e).2; omega⟩
  rcases h with h | h
  · exact key _ (.inl rfl) h
  · exact key _ (.inr rfl) h
end Go.Proofs.YtlefgffnjcmfoaaGreatDoor
namespace Go.Proofs.YtlefgffnjcmfoaaGreatDoor
open Go.RowKit Go.Maps Go.ChangeMaps Go.MapKept
attribute [local go_sem ↓] Go.wp_at_zero Go.wp_at_succ
section
variable {w : World}
theorem clone_any (s : List UInt8) (hs : s.length ≤ 281474976710656) : Calls Tryz.prog 62 #[.string (bs s)] w fun e w' => e = .returned (.string (bs s)) ∧ Below w.heap.size w w' := by
  go_enter Tryz.func62, Tryz.ntmps62
  go_wp2_with (go_at_call 73; refine (Any.stringslite_Clone Tryz.lclone (bs s) _ (by rw [bs_size]; exact hs)).mono ?_; rintro e w' ⟨rfl, hb⟩)
  go_ret
  exact ⟨rfl, hb⟩
theorem itoa_any (n : Int) (hn : I64 n) (he : Env w) : Calls Tryz.prog 54 #[.int .i64 n] w fun e w' => e = .returned (.string (bs (Lib.itoa n))) ∧ Below w.heap.size w w' :=
  (Any.strconv_Itoa Tryz.litoa n hn.1 hn.2 w he.tab).mono fun _ _ ⟨h1, k, os, h2⟩ => ⟨h1, by rw [h2]; exact Lib.below_grow _ w (Nat.le_refl _) k os⟩
theorem atoi_ok (t : List UInt8) (ht : t.length ≤ 281474976710656) (n : Int) (h : Lib.atoiAll t = .ok n) (w : World) :
    Calls Tryz.prog 74 #[.string (bs t)] w fun x w' => x = .returned (.tuple #[.int .i64 n, .nilIface]) ∧ Below w.heap.size w w' :=
  (Any.strconv_Atoi_ok Tryz.latoi (bs t) (by rw [bs_size]; omega) n h w).mono fun x w' ⟨h1, h2⟩ => ⟨h1, by
    rcases h2 with rfl | ⟨u, rfl⟩
    · exact Below.refl _ _
    · exact Lib.bytesWorld_below _ _ _⟩
theorem atoi_no (t : List UInt8) (ht : t.length ≤ 281474976710656) (h : ∀ n, Lib.atoiAll t ≠ .ok n) (w : World) (he : Env w) :
    Calls Tryz.prog 74 #[.string (bs t)] w fun x w' => ∃ n N, x = .returned (.tuple #[.int .i64 n, .iface 104 (.pointer (some ⟨N, 0, none⟩))]) ∧ Below w.heap.size w w' := by
  obtain ⟨tp, p, h1⟩ := he.syn
  obtain ⟨tq, q, h2⟩ := he.rng
  have hl : (bs t).size ≤ 281474976710656 := by rw [bs_size]; exact ht
  rcases hh : Lib.atoiAll t with n | _ | _
  · exact absurd hh (h n)
  · exact (Any.strconv_Atoi_syntax_var Tryz.latoi (bs t) hl hh tp p w h1).mono fun x w' ⟨N, a, _, _, d⟩ => ⟨_, N, a, d⟩
  · exact (Any.strconv_Atoi_range_var Tryz.latoi (bs t) hl hh tq q w h2).mono fun x w' ⟨N, a, _, _, d⟩ => ⟨_, N, a, d⟩
end
end Go.Proofs.YtlefgffnjcmfoaaGreatDoor
namespace Go.Proofs.YtlefgffnjcmfoaaGreatDoor
open Go.RowKit Go.Maps Go.ChangeMaps Go.MapKept
open Lx
theorem stringExtra : Builder.Extra Tryz.prog Tryz.lstring_ren where
  sizeBuilder := by kernel_rfl
  liesBuilder := by kernel_rfl
  t5 := Tryz.underlying5
  a5 := Tryz.isAgg5
  z5 := Tryz.sizeOf5
  v5 := Tryz.zeroValue5
  infoByte := by kernel_rfl
  cellsByte := by kernel_rfl
  sizeByte := by kernel_rfl
  neB5 := by decide
theorem joinExtra : Builder.Extra Tryz.prog Tryz.ljoin_ren where
  sizeBuilder := by kernel_rfl
  liesBuilder := by kernel_rfl
  t5 := Tryz.underlying5
  a5 := Tryz.isAgg5
  z5 := Tryz.sizeOf5
  v5 := Tryz.zeroValue5
  infoByte := by kernel_rfl
  cellsByte := by kernel_rfl
  sizeByte := by kernel_rfl
  neB5 := by decide
theorem string_any (B b : Nat) (l : List UInt8) (w : World) (h : Lib.IsBuilder 72 5 B b (Lib.byteCells l) w) (hBw : B ≤ w.heap.size) :
    Calls Tryz.prog 56 #[.pointer (some ⟨b, 0, none⟩)] w fun e w' => e = .returned (.string (bs l)) ∧ Below B w w' :=
  Any.Builder_String_any Tryz.lstring stringExtra B b l w h hBw
theorem builder_old {T e : TypeId} {B b : Nat} {xs : List Value} {w w' : World} (h : Lib.IsBuilder T e B b xs w) (hb : Below w.heap.size w w') : Lib.IsBuilder T e B b xs w' := by
  have one : ∀ p, Lib.BuilderAt T e B b p xs w → Lib.BuilderAt T e B b p xs w' := by
    rintro p ⟨h1, v, h2, h3, h4⟩
    have hlt : b < w.heap.size := (Array.getElem?_eq_some_iff.1 h2).1
    exact ⟨h1, v, (hb.block b hlt).trans h2, h3.kept (gb_of_below hb none) (by
      cases hv : v.ownBlock with
      | none => exact .inl rfl
      | some g => exact .inr (by simp)), h4⟩
  rcases h with h | h
  · exact .inl (one _ h)
  · exact .inr (one _ h)
theorem strCells_eq (s : ByteArray) : Lib.strCells s = Lib.byteCells s.data.toList := rfl
theorem cells_app (a b : List UInt8) : Lib.byteCells a ++ Lib.strCells (bs b) = Lib.byteCells (a ++ b) := by rw [strCells_eq, bs_list, ← Lib.byteCells_append]
theorem map_inj : ∀ {a b : List S}, a.map bs = b.map bs → a = b
  | [], [], _ => rfl
  | [], _ :: _, h => by cases h
  | _ :: _, [], h => by cases h
  | x :: a, y :: b, h => by
    rw [List.map_cons, List.map_cons] at h
    obtain ⟨h1, h2⟩ := List.cons.inj h
    rw [bs_inj h1, map_inj h2]
theorem map_getD {ss : List S} {j : Nat} (hj : j < ss.length) : (ss.map bs).getD j ByteArray.empty = bs ss[j] := by
  simp [List.getD, List.getElem?_map, List.getElem?_eq_getElem hj]
section
variable {w : World} {u v : Value} {ss ts : List S}
theorem contains_any (hu : TxAt w u ss) (x : S) (hn : ss.length ≤ 100000) : Calls Tryz.prog 67 #[u, .string (bs x)] w fun e w' => e = .returned (.bool (decide (x ∈ ss))) ∧ w' = w := by
  by_cases h0 : 0 < ss.length
  · obtain ⟨b, off, cap, rfl, _, hc⟩ := hu.form h0
    refine (Any.slices_Contains_string Tryz.lcontains b off ss.length cap (ss.map bs) (bs x) w (by simp) (by omega) (fun j hj => ?_)).mono ?_
    · rw [List.length_map] at hj
      rw [map_getD hj]
      exact hc j _ (List.getElem?_eq_getElem hj)
    · rintro e w' ⟨rfl, rfl⟩
      refine ⟨ret_bool ?_, rfl⟩
      rw [List.take_of_length_le (by simp)]
      refine Bool.eq_iff_iff.2 ?_
      rw [Lib.containsS_iff, decide_eq_true_iff, List.mem_map]
      exact ⟨fun ⟨y, h1, h2⟩ => bs_inj h2 ▸ h1, fun h => ⟨x, h, rfl⟩⟩
  · have : ss = [] := List.eq_nil_of_length_eq_zero (by omega)
    subst this
    obtain ⟨a, c, rfl⟩ := hu.slice
    refine (Any.slices_Contains_string_empty Tryz.lcontains a c (bs x) w).mono ?_
    rintro e w' ⟨rfl, rfl⟩
    exact ⟨ret_bool (by simp), rfl⟩
theorem equal_any (hu : TxAt w u ss) (hv : TxAt w v ts) (hn : ss.length ≤ 100000) (hm : ts.length ≤ 100000) : Calls Tryz.prog 37 #[u, v] w fun e w' => e = .returned (.bool (decide (ss = ts))) ∧ Below w.heap.size w w' := by
  by_cases hl : ss.length = ts.length
  · by_cases h0 : 0 < ss.length
    · obtain ⟨b, off, cap, rfl, _, hc⟩ := hu.form h0
      obtain ⟨b2, off2, cap2, rfl, _, hc2⟩ := hv.form (by omega)
      refine (Any.slices_Equal_string Tryz.lequal b off ss.length cap b2 off2 ts.length cap2 (ss.map bs) (ts.map bs) w (by simp) (by simp) (by omega) (by omega) (fun j hj => ?_) (fun j hj => ?_)).mono ?_
      · rw [List.length_map] at hj
        rw [map_getD hj]
        exact hc j _ (List.getElem?_eq_getElem hj)
      · rw [List.length_map] at hj
        rw [map_getD hj]
        exact hc2 j _ (List.getElem?_eq_getElem hj)
      · rintro e w' ⟨rfl, q, rfl⟩
        refine ⟨ret_bool ?_, drewN_below w q⟩
        rw [List.take_of_length_le (by simp), List.take_of_length_le (by simp)]
        exact decide_eq_decide.2 ⟨map_inj, fun h => by rw [h]⟩
    · have h1 : ss = [] := List.eq_nil_of_length_eq_zero (by omega)
      have h2 : ts = [] := List.eq_nil_of_length_eq_zero (by omega)
      subst h1 h2
      obtain ⟨a, c, rfl⟩ := hu.slice
      obtain ⟨a2, c2, rfl⟩ := hv.slice
      refine (Any.slices_Equal_string_empty Tryz.lequal a a2 c 0 c2 w (by decide)).mono ?_
      rintro e w' ⟨rfl, rfl⟩
      exact ⟨ret_bool (by simp), Below.refl _ _⟩
  · obtain ⟨a, c, rfl⟩ := hu.slice
    obtain ⟨a2, c2, rfl⟩ := hv.slice
    refine (Any.slices_Equal_string_lens Tryz.lequal a a2 ss.length c ts.length c2 w hl).mono ?_
    rintro e w' ⟨rfl, rfl⟩
    exact ⟨ret_bool (decide_eq_false fun h => hl (by rw [h])).symm, Below.refl _ _⟩
theorem join_glue : ∀ ss : List S, Lib.join ss [32] = glue ss
  | [] => rfl
  | [x] => by rw [Lib.join_one]; simp [glue]
  | x :: y :: r => by
    rw [Lib.join_cons, glue_cons (by simp), ← join_glue (y :: r), Lib.join_cons]
    simp [Lib.joinTail]
theorem join_any (hu : TxAt w u ss) (hn : ss.length ≤ 1000) (hl : (glue ss).length ≤ 100000) : Calls Tryz.prog 53 #[u, .string ⟨#[32]⟩] w fun e w' => e = .returned (.string (bs (glue ss))) ∧ Below w.heap.size w w' := by
  have hm : (ss.map bs).map (·.data.toList) = ss := by
    rw [List.map_map]
    conv => rhs; rw [← List.map_id ss]
    exact List.map_congr_left fun x _ => by simp [bs]
  by_cases h0 : 0 < ss.length
  · obtain ⟨b, off, cap, rfl, hcap, hc⟩ := hu.form h0
    have hb : b < w.heap.size := Lib.lt_of_cell (hc 0 _ (List.getElem?_eq_getElem h0))
    have := Any.strings_Join Tryz.ljoin joinExtra b off cap (ss.map bs) ⟨#[32]⟩ w (fun j x hj => by
      rw [List.getElem?_map] at hj
      cases hz : ss[j]? with
      | none => rw [hz] at hj; cases hj
      | some z => rw [hz] at hj; cases hj; exact hc j z hz) hb (by simp; omega) (by simpa using hcap) (by rw [hm, join_glue]; omega)
    rw [hm, join_glue, List.length_map] at this
    exact this
  · have : ss = [] := List.eq_nil_of_length_eq_zero (by omega)
    subst this
    obtain ⟨a, c, rfl⟩ := hu.slice
    refine (Any.strings_Join_none Tryz.ljoin joinExtra a c _ w).mono ?_
    rintro e w' ⟨rfl, rfl⟩
    exact ⟨rfl, Below.refl _ _⟩
end
end Go.Proofs.YtlefgffnjcmfoaaGreatDoor
namespace Go.Proofs.YtlefgffnjcmfoaaGreatDoor
open Go.RowKit Go.Maps Go.ChangeMaps Go.MapKept
open Lx
attribute [local go_sem ↓] Go.wp_at_zero Go.wp_at_succ
section
variable {w : World}
set_option maxHeartbeats 4000000 in
set_option maxRecDepth 100000 in
theorem p_number {s : S} (hE : Env w) (hs : s.length ≤ 100000) : Calls Tryz.prog 64 #[.string (bs s)] w (Reads w (.tuple #[.int .i64 (numRes s).1, .bool (numRes s).2])) := by
  have HE := Lib.hid hE
  clear hE
  unfold Reads
  go_enter Tryz.func64, Tryz.ntmps64
  cases hn : numOk s with
  | true =>
    have HR := Lib.hid (numRes_yes hn)
    obtain ⟨h1, h2, h3⟩ := Lx.nm_yes hn
    generalize val s = v at h1 h2 h3 HR
    have HA := Lib.hid (fun w => atoi_ok s (by omega) v h1 w)
    have HI := Lib.hid h2
    have hv0 : (0 : Int) ≤ (v : Int) := by omega
    have hv1 : (v : Int) ≤ 1099511627776 := by omega
    clear h1 h2 hn
    go_wp2_with (go_at_call 74; refine (HA.out _).mono ?_; rintro e w1 ⟨rfl, b1⟩; refine Hid.out ?_)
    refine Lib.hid ?_
    have HJ := Lib.hid (itoa_any (w := w1) (v : Int) ⟨by omega, by omega⟩ (HE.out.keep b1))
    have B1 := Lib.hid b1
    rw [HI.out] at HJ
    clear HA HI b1
    go_wp2_with (go_at_call 54; refine (HJ.out).mono ?_; rintro e w2 ⟨rfl, b2⟩; refine Hid.out ?_)
    refine Lib.hid ?_
    have HB := Lib.hid (B1.out.trans (b2.mono B1.out.size))
    clear HJ b2 B1
    go_wp2
    go_ret2
    exact ⟨ret_num HR.out, HB.out⟩
  | false =>
    have HR := Lib.hid (numRes_no hn)
    by_cases ho : ∃ n, Lib.atoiAll s = .ok n
    · obtain ⟨n, h1⟩ := ho
      have hb := Lib.atoiAll_bounds h1
      have HA := Lib.hid (fun w => atoi_ok s (by omega) n h1 w)
      clear h1
      by_cases h0 : n < 0
      · clear hn
        go_wp2_with (go_at_call 74; refine (HA.out _).mono ?_; rintro e w1 ⟨rfl, b1⟩; refine Hid.out ?_)
        refine Lib.hid ?_
        have HB := Lib.hid b1
        clear b1
        go_wp2
        go_ret2
        exact ⟨ret_num HR.out, HB.out⟩
      · by_cases h2 : 1099511627776 < n
        · clear hn
          go_wp2_with (go_at_call 74; refine (HA.out _).mono ?_; rintro e w1 ⟨rfl, b1⟩; refine Hid.out ?_)
          refine Lib.hid ?_
          have HB := Lib.hid b1
          clear b1
          go_wp2
          go_ret2
          exact ⟨ret_num HR.out, HB.out⟩
        · have hne := str_ne (Lx.nm_no hn (show 0 ≤ n by omega) (show n ≤ 1099511627776 by omega))
          clear hn
          go_wp2_with (go_at_call 74; refine (HA.out _).mono ?_; rintro e w1 ⟨rfl, b1⟩; refine Hid.out ?_)
          refine Lib.hid ?_
          have HJ := Lib.hid (itoa_any (w := w1) n hb (HE.out.keep b1))
          have B1 := Lib.hid b1
          clear b1
          go_wp2_with (go_at_call 54; refine (HJ.out).mono ?_; rintro e w2 ⟨rfl, b2⟩; refine Hid.out ?_)
          refine Lib.hid ?_
          have HB := Lib.hid (B1.out.trans (b2.mono B1.out.size))
          clear HJ b2 B1
          go_wp2
          go_ret2
          exact ⟨ret_num HR.out, HB.out⟩
    · have HA := Lib.hid (fun w (he : Env w) => atoi_no s (by omega) (fun n h => ho ⟨n, h⟩) w he)
      clear ho hn
      go_wp2_with (go_at_call 74; refine (HA.out _ HE.out).mono ?_; rintro e w1 ⟨n, N, rfl, b1⟩; refine Hid.out ?_)
      refine Lib.hid ?_
      have HB := Lib.hid b1
      clear b1
      go_wp2
      go_ret2
      exact ⟨ret_num HR.out, HB.out⟩
end
end Go.Proofs.YtlefgffnjcmfoaaGreatDoor
namespace Go.Proofs.YtlefgffnjcmfoaaGreatDoor
open Go.RowKit Go.Maps Go.ChangeMaps Go.MapKept
open Lx
attribute [local go_sem ↓] Go.wp_at_zero Go.wp_at_succ
theorem tok_wordE {c : UInt8} {r : S} (h : letter c = true) (h2 : wordOk ((c :: r).takeWhile alnum) = true) : tokRes (c :: r) 0 = (⟨0, (c :: r).takeWhile alnum, 0, 0⟩, 0) := by
  have hc : alnum c = true := by unfold alnum; rw [h]; rfl
  rw [List.takeWhile_cons_of_pos hc] at h2 ⊢
  refine tok_word h ?_
  unfold wordOk at h2
  simp only [Bool.and_eq_true, decide_eq_true_eq, List.length_cons] at h2
  exact h2.1
theorem tok_longE {c : UInt8} {r : S} (h : letter c = true) (h2 : wordOk ((c :: r).takeWhile alnum) = false) : tokRes (c :: r) 0 = (⟨0, [], 0, 0⟩, 11) := by
  have hc : alnum c = true := by unfold alnum; rw [h]; rfl
  refine tok_long h fun h3 => ?_
  rw [List.takeWhile_cons_of_pos hc] at h2
  have ha : (r.takeWhile alnum).all alnum = true := by
    rw [List.all_eq_true]
    intro d hd
    obtain ⟨i, hi, e⟩ := List.getElem_of_mem hd
    obtain ⟨x, hx, hq⟩ := tw_get (q := alnum) (r := r) hi
    have : (r.takeWhile alnum)[i]? = r[i]? := by
      conv => rhs; rw [← List.takeWhile_append_dropWhile (p := alnum) (l := r)]
      rw [List.getElem?_append_left hi]
    rw [List.getElem?_eq_getElem hi, e, hx] at this
    rw [Option.some.inj this]; exact hq
  unfold wordOk at h2
  rw [decide_eq_true (by simpa using h3)] at h2
  simp [h, ha] at h2
theorem tok_numE {c : UInt8} {r : S} (h0 : letter c = false) (h : digit c = true) (h2 : numOk ((c :: r).takeWhile digit) = true) : tokRes (c :: r) 0 = (⟨1, (c :: r).takeWhile digit, (val ((c :: r).takeWhile digit) : Int), 0⟩, 0) := by
  rw [List.takeWhile_cons_of_pos h] at h2 ⊢
  exact tok_num h0 h h2
theorem tok_badE {c : UInt8} {r : S} (h0 : letter c = false) (h : digit c = true) (h2 : numOk ((c :: r).takeWhile digit) = false) : tokRes (c :: r) 0 = (⟨0, [], 0, 0⟩, 3) := by
  rw [List.takeWhile_cons_of_pos h] at h2
  exact tok_bad h0 h h2
section
variable {w : World}
set_option maxHeartbeats 4000000 in
set_option maxRecDepth 100000 in
theorem p_first {c : UInt8} {r : S} (hE : Env w) (hs : (c :: r).length ≤ 50000) :
    Calls Tryz.prog 39 #[.string (bs (c :: r))] w fun e w' => e = .returned (.tuple #[tkV (tokRes (c :: r) 0).1, .int .i64 (tokRes (c :: r) 0).2]) ∧ Below w.heap.size w w' := by
  have hz := bs_size (c :: r)
  have hE1 := hE.keep ((OMem.start w).raw (.cells #[.int .i64 0, .string ⟨#[]⟩, .int .i64 0, .int .i64 0] 42 (0, 0))).below
  have M0 := Lib.hid ((OMem.start w).raw (.cells #[.int .i64 0, .string ⟨#[]⟩, .int .i64 0, .int .i64 0] 42 (0, 0)))
  have HE := Lib.hid hE1
  obtain ⟨i0, gc⟩ := bs_get (l := c :: r) (k := 0) (c := c) rfl
  have HLW := Lib.hid (fun w => l_longW (w := w) (s := c :: r) (by omega))
  have HLD := Lib.hid (fun w => l_longD (w := w) (s := c :: r) (by omega))
  clear hE hE1
  go_enter Tryz.func39, Tryz.ntmps39
  cases hl : letter c with
  | true =>
    have HQ := Lib.hid (l_letter_of hl)
    go_wp2_with (go_at_call 57; refine (HQ.out _).mono ?_; rintro e w2 ⟨rfl, hw⟩; refine Hid.out ?_)
    refine Lib.hid ?_
    have m1 := M0.out
    rw [hw] at m1
    have he1 := HE.out
    rw [hw] at he1
    have M1 := Lib.hid (show OMem w w2 [.raw w.heap.size (.cells #[.int .i64 0, .string ⟨#[]⟩, .int .i64 0, .int .i64 0] 42 (0, 0))] from m1)
    clear m1 M0 hw HQ gc he1 HE HLD
    obtain ⟨t, ht⟩ : ∃ t, (c :: r).takeWhile alnum = t := ⟨_, rfl⟩
    have htl : t.length ≤ 100000 := by rw [← ht]; have := tw_len (q := alnum) (c :: r); omega
    rw [ht] at HLW
    go_wp2_with (go_at_call 58; refine (HLW.out _).mono ?_; rintro e w3 ⟨rfl, rfl⟩; refine Hid.out ?_)
    refine Lib.hid ?_
    clear HLW
    have HW := Lib.hid (p_word (w := w2) (s := t) htl)
    cases hk : wordOk t with
    | true =>
      have HR := Lib.hid (tok_wordE (r := r) hl (by rw [ht]; exact hk))
      rw [ht] at HR
      rw [hk] at HW
      clear hl ht hk
      go_wp2_with (go_at_call 31; refine (HW.out).mono ?_; rintro e w3 ⟨rfl, rfl⟩; refine Hid.out ?_)
      refine Lib.hid ?_
      clear HW
      go_wp2_with (go_at_call 62; refine (clone_any t (by omega)).mono ?_; rintro e w3 ⟨rfl, b3⟩; refine Hid.out ?_)
      refine Lib.hid ?_
      have m1 := M1.out.fresh b3
      clear M1
      have M1 := Lib.hid (show OMem w w3 [.raw w.heap.size (.cells #[.int .i64 0, .string ⟨#[]⟩, .int .i64 0, .int .i64 0] 42 (0, 0))] from m1)
      clear m1 b3
      have r2 := M1.out.raw_at (i := 0) rfl
      have g0 : (w3).cell? ⟨w.heap.size, 0, none⟩ = some (.int .i64 0) := by rw [Lib.cell_of_heap r2]; rfl
      have g1 : (w3).cell? ⟨w.heap.size, 1, none⟩ = some (.string ⟨#[]⟩) := by rw [Lib.cell_of_heap r2]; rfl
      have g2 : (w3).cell? ⟨w.heap.size, 2, none⟩ = some (.int .i64 0) := by rw [Lib.cell_of_heap r2]; rfl
      have g3 : (w3).cell? ⟨w.heap.size, 3, none⟩ = some (.int .i64 0) := by rw [Lib.cell_of_heap r2]; rfl
      have z0 : (w3).frozen? ⟨w.heap.size, 0, none⟩ = false := Lib.frozen_of_heap r2 0
      have z1 : (w3).frozen? ⟨w.heap.size, 1, none⟩ = false := Lib.frozen_of_heap r2 1
      have z2 : (w3).frozen? ⟨w.heap.size, 2, none⟩ = false := Lib.frozen_of_heap r2 2
      have z3 : (w3).frozen? ⟨w.heap.size, 3, none⟩ = false := Lib.frozen_of_heap r2 3
      clear r2
      go_wp2
      have m3 := put4 (z := #[.int .i64 0, .string ⟨#[]⟩, .int .i64 0, .int .i64 0]) (a0 := .int .i64 0) (a1 := .string (bs t)) (a2 := .int .i64 0) (a3 := .int .i64 0) M1.out
      have r3 := m3.raw_at (i := 0) rfl
      refine bodyPost_ret (results_cell_tmp (p := 2) (u := 3) rfl _ _ w.heap.size 42 #[.int .i64 0, .string (bs t), .int .i64 0, .int .i64 0] (0, 0) _ rfl r3 Tryz.underlying42 rfl (by kernel_rfl)) rfl ?_
      exact ⟨tok_ret HR.out rfl, m3.below⟩
    | false =>
      have HR := Lib.hid (tok_longE (r := r) hl (by rw [ht]; exact hk))
      rw [hk] at HW
      clear hl ht hk
      go_wp2_with (go_at_call 31; refine (HW.out).mono ?_; rintro e w3 ⟨rfl, rfl⟩; refine Hid.out ?_)
      refine Lib.hid ?_
      clear HW
      have r2 := M1.out.raw_at (i := 0) rfl
      have g0 : (w2).cell? ⟨w.heap.size, 0, none⟩ = some (.int .i64 0) := by rw [Lib.cell_of_heap r2]; rfl
      have g1 : (w2).cell? ⟨w.heap.size, 1, none⟩ = some (.string ⟨#[]⟩) := by rw [Lib.cell_of_heap r2]; rfl
      have g2 : (w2).cell? ⟨w.heap.size, 2, none⟩ = some (.int .i64 0) := by rw [Lib.cell_of_heap r2]; rfl
      have g3 : (w2).cell? ⟨w.heap.size, 3, none⟩ = some (.int .i64 0) := by rw [Lib.cell_of_heap r2]; rfl
      have z0 : (w2).frozen? ⟨w.heap.size, 0, none⟩ = false := Lib.frozen_of_heap r2 0
      have z1 : (w2).frozen? ⟨w.heap.size, 1, none⟩ = false := Lib.frozen_of_heap r2 1
      have z2 : (w2).frozen? ⟨w.heap.size, 2, none⟩ = false := Lib.frozen_of_heap r2 2
      have z3 : (w2).frozen? ⟨w.heap.size, 3, none⟩ = false := Lib.frozen_of_heap r2 3
      clear r2
      go_wp2
      have m3 := put4 (z := #[.int .i64 0, .string ⟨#[]⟩, .int .i64 0, .int .i64 0]) (a0 := .int .i64 0) (a1 := .string (bs [])) (a2 := .int .i64 0) (a3 := .int .i64 0) M1.out
      have r3 := m3.raw_at (i := 0) rfl
      refine bodyPost_ret (results_cell_tmp (p := 2) (u := 3) rfl _ _ w.heap.size 42 #[.int .i64 0, .string (bs []), .int .i64 0, .int .i64 0] (0, 0) _ rfl r3 Tryz.underlying42 rfl (by kernel_rfl)) rfl ?_
      exact ⟨tok_ret HR.out rfl, m3.below⟩
  | false =>
    have HQ := Lib.hid (l_letter_of hl)
    go_wp2_with (go_at_call 57; refine (HQ.out _).mono ?_; rintro e w2 ⟨rfl, hw⟩; refine Hid.out ?_)
    refine Lib.hid ?_
    have m1 := M0.out
    rw [hw] at m1
    have he1 := HE.out
    rw [hw] at he1
    have HE1 := Lib.hid he1
    have M1 := Lib.hid (show OMem w w2 [.raw w.heap.size (.cells #[.int .i64 0, .string ⟨#[]⟩, .int .i64 0, .int .i64 0] 42 (0, 0))] from m1)
    clear m1 M0 hw HQ gc he1 HE HLW
    cases hg : digit c with
    | true =>
      have HQ := Lib.hid (l_digit_of hg)
      go_wp2_with (go_at_call 63; refine (HQ.out _).mono ?_; rintro e w3 ⟨rfl, rfl⟩; refine Hid.out ?_)
      refine Lib.hid ?_
      clear HQ
      obtain ⟨t, ht⟩ : ∃ t, (c :: r).takeWhile digit = t := ⟨_, rfl⟩
      have htl : t.length ≤ 100000 := by rw [← ht]; have := tw_len (q := digit) (c :: r); omega
      rw [ht] at HLD
      go_wp2_with (go_at_call 58; refine (HLD.out _).mono ?_; rintro e w3 ⟨rfl, rfl⟩; refine Hid.out ?_)
      refine Lib.hid ?_
      clear HLD
      have HN := p_number (w := w2) (s := t) HE1.out htl
      cases hk : numOk t with
      | true =>
        have HR := Lib.hid (tok_numE (r := r) hl hg (by rw [ht]; exact hk))
        rw [ht] at HR
        rw [numRes_yes hk] at HN
        have HN := Lib.hid HN
        clear hl hg ht hk
        generalize val t = v at HR HN
        go_wp2_with (go_at_call 64; refine (HN.out).mono ?_; rintro e w3 ⟨rfl, b3⟩; refine Hid.out ?_)
        refine Lib.hid ?_
        have m1 := M1.out.fresh b3
        clear M1
        have M1 := Lib.hid (show OMem w w3 [.raw w.heap.size (.cells #[.int .i64 0, .string ⟨#[]⟩, .int .i64 0, .int .i64 0] 42 (0, 0))] from m1)
        clear m1 b3
        clear HN HE1
        go_wp2_with (go_at_call 62; refine (clone_any t (by omega)).mono ?_; rintro e w4 ⟨rfl, b4⟩; refine Hid.out ?_)
        refine Lib.hid ?_
        have m1 := M1.out.fresh b4
        clear M1
        have M1 := Lib.hid (show OMem w w4 [.raw w.heap.size (.cells #[.int .i64 0, .string ⟨#[]⟩, .int .i64 0, .int .i64 0] 42 (0, 0))] from m1)
        clear m1 b4
        have r2 := M1.out.raw_at (i := 0) rfl
        have g0 : (w4).cell? ⟨w.heap.size, 0, none⟩ = some (.int .i64 0) := by rw [Lib.cell_of_heap r2]; rfl
        have g1 : (w4).cell? ⟨w.heap.size, 1, none⟩ = some (.string ⟨#[]⟩) := by rw [Lib.cell_of_heap r2]; rfl
        have g2 : (w4).cell? ⟨w.heap.size, 2, none⟩ = some (.int .i64 0) := by rw [Lib.cell_of_heap r2]; rfl
        have g3 : (w4).cell? ⟨w.heap.size, 3, none⟩ = some (.int .i64 0) := by rw [Lib.cell_of_heap r2]; rfl
        have z0 : (w4).frozen? ⟨w.heap.size, 0, none⟩ = false := Lib.frozen_of_heap r2 0
        have z1 : (w4).frozen? ⟨w.heap.size, 1, none⟩ = false := Lib.frozen_of_heap r2 1
        have z2 : (w4).frozen? ⟨w.heap.size, 2, none⟩ = false := Lib.frozen_of_heap r2 2
        have z3 : (w4).frozen? ⟨w.heap.size, 3, none⟩ = false := Lib.frozen_of_heap r2 3
        clear r2
        go_wp2
        have m3 := put4 (z := #[.int .i64 0, .string ⟨#[]⟩, .int .i64 0, .int .i64 0]) (a0 := .int .i64 1) (a1 := .string (bs t)) (a2 := .int .i64 (v : Nat)) (a3 := .int .i64 0) M1.out
        have r3 := m3.raw_at (i := 0) rfl
        refine bodyPost_ret (results_cell_tmp (p := 2) (u := 3) rfl _ _ w.heap.size 42 #[.int .i64 1, .string (bs t), .int .i64 (v : Nat), .int .i64 0] (0, 0) _ rfl r3 Tryz.underlying42 rfl (by kernel_rfl)) rfl ?_
        exact ⟨tok_ret HR.out rfl, m3.below⟩
      | false =>
        have HR := Lib.hid (tok_badE (r := r) hl hg (by rw [ht]; exact hk))
        rw [numRes_no hk] at HN
        have HN := Lib.hid HN
        clear hl hg ht hk
        go_wp2_with (go_at_call 64; refine (HN.out).mono ?_; rintro e w3 ⟨rfl, b3⟩; refine Hid.out ?_)
        refine Lib.hid ?_
        have m1 := M1.out.fresh b3
        clear M1
        have M1 := Lib.hid (show OMem w w3 [.raw w.heap.size (.cells #[.int .i64 0, .string ⟨#[]⟩, .int .i64 0, .int .i64 0] 42 (0, 0))] from m1)
        clear m1 b3
        clear HN HE1
        have r2 := M1.out.raw_at (i := 0) rfl
        have g0 : (w3).cell? ⟨w.heap.size, 0, none⟩ = some (.int .i64 0) := by rw [Lib.cell_of_heap r2]; rfl
        have g1 : (w3).cell? ⟨w.heap.size, 1, none⟩ = some (.string ⟨#[]⟩) := by rw [Lib.cell_of_heap r2]; rfl
        have g2 : (w3).cell? ⟨w.heap.size, 2, none⟩ = some (.int .i64 0) := by rw [Lib.cell_of_heap r2]; rfl
        have g3 : (w3).cell? ⟨w.heap.size, 3, none⟩ = some (.int .i64 0) := by rw [Lib.cell_of_heap r2]; rfl
        have z0 : (w3).frozen? ⟨w.heap.size, 0, none⟩ = false := Lib.frozen_of_heap r2 0
        have z1 : (w3).frozen? ⟨w.heap.size, 1, none⟩ = false := Lib.frozen_of_heap r2 1
        have z2 : (w3).frozen? ⟨w.heap.size, 2, none⟩ = false := Lib.frozen_of_heap r2 2
        have z3 : (w3).frozen? ⟨w.heap.size, 3, none⟩ = false := Lib.frozen_of_heap r2 3
        clear r2
        go_wp2
        have m3 := put4 (z := #[.int .i64 0, .string ⟨#[]⟩, .int .i64 0, .int .i64 0]) (a0 := .int .i64 0) (a1 := .string (bs [])) (a2 := .int .i64 0) (a3 := .int .i64 0) M1.out
        have r3 := m3.raw_at (i := 0) rfl
        refine bodyPost_ret (results_cell_tmp (p := 2) (u := 3) rfl _ _ w.heap.size 42 #[.int .i64 0, .string (bs []), .int .i64 0, .int .i64 0] (0, 0) _ rfl r3 Tryz.underlying42 rfl (by kernel_rfl)) rfl ?_
        exact ⟨tok_ret HR.out rfl, m3.below⟩
    | false =>
      have HQ := Lib.hid (l_digit_of hg)
      have HL := Lib.hid hl
      have HG := Lib.hid hg
      clear hl hg
      go_wp2_with (go_at_call 63; refine (HQ.out _).mono ?_; rintro e w3 ⟨rfl, rfl⟩; refine Hid.out ?_)
      refine Lib.hid ?_
      clear HQ HLD HE1
      have e59 : ((c.toNat : Int) == 59) = (c == 59) := beq_n c 59
      by_cases h59 : c = 59
      · subst h59
        have HR := Lib.hid (tok_sign (r := r) (at_ := 0))
        clear e59
        have r2 := M1.out.raw_at (i := 0) rfl
        have g0 : (w2).cell? ⟨w.heap.size, 0, none⟩ = some (.int .i64 0) := by rw [Lib.cell_of_heap r2]; rfl
        have g1 : (w2).cell? ⟨w.heap.size, 1, none⟩ = some (.string ⟨#[]⟩) := by rw [Lib.cell_of_heap r2]; rfl
        have g2 : (w2).cell? ⟨w.heap.size, 2, none⟩ = some (.int .i64 0) := by rw [Lib.cell_of_heap r2]; rfl
        have g3 : (w2).cell? ⟨w.heap.size, 3, none⟩ = some (.int .i64 0) := by rw [Lib.cell_of_heap r2]; rfl
        have z0 : (w2).frozen? ⟨w.heap.size, 0, none⟩ = false := Lib.frozen_of_heap r2 0
        have z1 : (w2).frozen? ⟨w.heap.size, 1, none⟩ = false := Lib.frozen_of_heap r2 1
        have z2 : (w2).frozen? ⟨w.heap.size, 2, none⟩ = false := Lib.frozen_of_heap r2 2
        have z3 : (w2).frozen? ⟨w.heap.size, 3, none⟩ = false := Lib.frozen_of_heap r2 3
        clear r2
        go_wp2
        have m3 := put4 (z := #[.int .i64 0, .string ⟨#[]⟩, .int .i64 0, .int .i64 0]) (a0 := .int .i64 2) (a1 := .string (bs [59])) (a2 := .int .i64 0) (a3 := .int .i64 0) M1.out
        have r3 := m3.raw_at (i := 0) rfl
        refine bodyPost_ret (results_cell_tmp (p := 2) (u := 3) rfl _ _ w.heap.size 42 #[.int .i64 2, .string (bs [59]), .int .i64 0, .int .i64 0] (0, 0) _ rfl r3 Tryz.underlying42 rfl (by kernel_rfl)) rfl ?_
        exact ⟨tok_ret HR.out rfl, m3.below⟩
      · have HR := Lib.hid (tok_none (r := r) (at_ := 0) HL.out HG.out h59)
        rw [show (c == 59) = false by simpa using h59] at e59
        clear h59
        have r2 := M1.out.raw_at (i := 0) rfl
        have g0 : (w2).cell? ⟨w.heap.size, 0, none⟩ = some (.int .i64 0) := by rw [Lib.cell_of_heap r2]; rfl
        have g1 : (w2).cell? ⟨w.heap.size, 1, none⟩ = some (.string ⟨#[]⟩) := by rw [Lib.cell_of_heap r2]; rfl
        have g2 : (w2).cell? ⟨w.heap.size, 2, none⟩ = some (.int .i64 0) := by rw [Lib.cell_of_heap r2]; rfl
        have g3 : (w2).cell? ⟨w.heap.size, 3, none⟩ = some (.int .i64 0) := by rw [Lib.cell_of_heap r2]; rfl
        have z0 : (w2).frozen? ⟨w.heap.size, 0, none⟩ = false := Lib.frozen_of_heap r2 0
        have z1 : (w2).frozen? ⟨w.heap.size, 1, none⟩ = false := Lib.frozen_of_heap r2 1
        have z2 : (w2).frozen? ⟨w.heap.size, 2, none⟩ = false := Lib.frozen_of_heap r2 2
        have z3 : (w2).frozen? ⟨w.heap.size, 3, none⟩ = false := Lib.frozen_of_heap r2 3
        clear r2
        go_wp2
        have m3 := put4 (z := #[.int .i64 0, .string ⟨#[]⟩, .int .i64 0, .int .i64 0]) (a0 := .int .i64 0) (a1 := .string (bs [])) (a2 := .int .i64 0) (a3 := .int .i64 0) M1.out
        have r3 := m3.raw_at (i := 0) rfl
        refine bodyPost_ret (results_cell_tmp (p := 2) (u := 3) rfl _ _ w.heap.size 42 #[.int .i64 0, .string (bs []), .int .i64 0, .int .i64 0] (0, 0) _ rfl r3 Tryz.underlying42 rfl (by kernel_rfl)) rfl ?_
        exact ⟨tok_ret HR.out rfl, m3.below⟩
end
end Go.Proofs.YtlefgffnjcmfoaaGreatDoor
namespace Go.Proofs.YtlefgffnjcmfoaaGreatDoor
open Go.RowKit Go.Maps Go.ChangeMaps Go.MapKept
open Lx
attribute [local go_sem ↓] Go.wp_at_zero Go.wp_at_succ
theorem lexed_of {s : S} {ts : List Tk} {p e : Int} {a : Option Addr} {n c : Nat} {w w' : World} (h : lexRes s = (ts, p, e)) (hn : n = ts.length) (hv : TkAt w' (.slice a n c) ts) (hb : Below w.heap.size w w') :
    Lexed w (lexRes s) (.returned (.tuple #[.slice a n c, .int .i64 p, .int .i64 e])) w' := by
  subst hn; rw [h]; exact ⟨a, c, rfl, hv, hb⟩
theorem p_first_ok {c : UInt8} {r t : S} {k n : Int} (hs : (c :: r).length ≤ 50000) (h : tok (c :: r) = .ok (k, t, n)) (w : World) (hE : Env w) :
    Calls Tryz.prog 39 #[.string (bs (c :: r))] w fun e w' => e = .returned (.tuple #[.agg #[.int .i64 k, .string (bs t), .int .i64 n, .int .i64 0], .int .i64 0]) ∧ Below w.heap.size w w' := by
  have := p_first (w := w) hE hs
  rwa [tokRes_ok h] at this
theorem p_first_err {c : UInt8} {r : S} {e : Int} (hs : (c :: r).length ≤ 50000) (h : tok (c :: r) = .error e) (w : World) (hE : Env w) :
    Calls Tryz.prog 39 #[.string (bs (c :: r))] w fun v w' => v = .returned (.tuple #[.agg #[.int .i64 0, .string ⟨#[]⟩, .int .i64 0, .int .i64 0], .int .i64 e]) ∧ Below w.heap.size w w' := by
  have := p_first (w := w) hE hs
  rwa [tokRes_err h] at this
section
variable {w : World}
set_option maxHeartbeats 4000000 in
set_option maxRecDepth 100000 in
theorem p_lex {s : S} (hE : Env w) (hs : s.length ≤ 10000) : Calls Tryz.prog 15 #[.string (bs s)] w (Lexed w (lexRes s)) := by
  have hz := bs_size s
  have HE := Lib.hid hE
  clear hE
  go_enter Tryz.func15, Tryz.ntmps15
  by_cases hbig : 2000 < s.length
  · have HR := Lib.hid (lexRes_big hbig)
    have hb' : (2000 : Int) < (s.length : Int) := by omega
    go_wp2
    go_ret3
    exact lexed_of HR.out rfl (TkAt.nil _) (Below.refl _ _)
  · have HB := Lib.hid hbig
    have hb' : ¬ (2000 : Int) < (s.length : Int) := by omega
    go_wp2
    go_loopw [5, 6] (fun o i wr => ∃ (a : Nat) (ks : List Tk) (oa : Option Addr) (oc : Nat), a ≤ s.length ∧ ks.length ≤ a ∧ i = .int .i64 a ∧ o = .slice oa ks.length oc ∧ Hid (LexTo s ks a) ∧ OMem w wr [.row 42 4 (.slice oa ks.length oc) ks.length (tkVs ks)]) (fun _ i _ => s.length - (intOf i).toNat)
    case atStart => exact ⟨0, [], none, 0, Nat.zero_le _, Nat.le_refl _, rfl, rfl, Lib.hid (LexTo.start s), (OMem.start w).rowNil _ _⟩
    case round =>
      obtain ⟨a, ks, oa, oc, ha, hka, rfl, rfl, HT, m⟩ := hrel
      have M := Lib.hid m
      clear m
      by_cases hlt : a < s.length
      · obtain ⟨c, hc⟩ : ∃ c, s[a]? = some c := ⟨_, List.getElem?_eq_getElem hlt⟩
        obtain ⟨i0, gc⟩ := bs_get hc
        have HD := Lib.hid (show s.drop a = c :: s.drop (a + 1) by rw [List.getElem?_eq_getElem hlt] at hc; cases hc; exact List.drop_eq_getElem_cons hlt)
        clear hc
        generalize s.drop (a + 1) = r at HD
        have hx : (bs s).extract a s.length = bs (c :: r) := by rw [bs_extract, HD.out, List.take_of_length_le (by rw [← HD.out]; simp)]
        have hrl : (c :: r).length ≤ 50000 := by rw [← HD.out, List.length_drop]; omega
        have hew : Env wr := HE.out.keep M.out.below
        cases hbl : Lx.blank c with
        | true =>
          have HQ := Lib.hid (l_blank_of hbl)
          have HN := Lib.hid (HT.out.blank HD.out hbl)
          clear hbl hx hew
          go_wp2_with (go_at_call 38; refine (HQ.out _).mono ?_; rintro e w2 ⟨rfl, rfl⟩; refine Hid.out ?_)
          refine Lib.hid ?_
          clear HQ gc
          go_wp2
          go_roundw
          case rel => exact ⟨a + 1, ks, oa, oc, by omega, by omega, by go_num, rfl, HN, M.out⟩
          case measure => simp [intOf]; omega
        | false =>
          have HQ := Lib.hid (l_blank_of hbl)
          cases ht : tok (c :: r) with
          | error e0 =>
            have HK := Lib.hid (p_first_err hrl ht wr hew)
            have HR := Lib.hid (lexRes_err HB.out (HT.out.bad HD.out hbl ht))
            have he := tok_err_ne ht
            clear hbl ht hew
            go_wp2_with (go_at_call 38; refine (HQ.out _).mono ?_; rintro e w2 ⟨rfl, rfl⟩; refine Hid.out ?_)
            refine Lib.hid ?_
            clear HQ gc
            go_wp2_with (go_at_call 39; refine (HK.out).mono ?_; rintro e w3 ⟨rfl, b3⟩; refine Hid.out ?_)
            refine Lib.hid ?_
            have m3 := M.out.fresh b3
            have B3 := Lib.hid (m3.raw (.cells #[.int .i64 0, .string ⟨#[]⟩, .int .i64 0, .int .i64 0] 42)).below
            clear HK m3 b3 M
            go_wp2
            go_ret3
            exact lexed_of HR.out rfl (TkAt.nil _) B3.out
          | ok q =>
            obtain ⟨k, t, n⟩ := q
            have HK := Lib.hid (p_first_ok hrl ht wr hew)
            have HN := Lib.hid (HT.out.tok HD.out hbl ht)
            have hl := tok_len ht
            have hl1 := hl.1
            have hl2 : t.length ≤ s.length - a := by have := congrArg List.length HD.out; simp at this; have := hl.2.1; simp at this; omega
            have zt := bs_size t
            clear hbl ht hl hew
            go_wp2_with (go_at_call 38; refine (HQ.out _).mono ?_; rintro e w2 ⟨rfl, rfl⟩; refine Hid.out ?_)
            refine Lib.hid ?_
            clear HQ gc
            go_wp2_with (go_at_call 39; refine (HK.out).mono ?_; rintro e w3 ⟨rfl, b3⟩; refine Hid.out ?_)
            refine Lib.hid ?_
            have m3 := M.out.fresh b3
            clear HK b3 M
            have m4 := m3.raw (.cells #[.int .i64 k, .string (bs t), .int .i64 n, .int .i64 a] 42)
            obtain ⟨ya, yc, w6, r6, m6⟩ := m4.pushK (i := 0) rfl ⟨k, t, n, a⟩ (by omega)
            rw [show (w3.alloc (.cells #[.int .i64 k, .string (bs t), .int .i64 n, .int .i64 a] 42)).heap.size = w3.heap.size + 1 by simp] at r6
            have R6 := Lib.hid r6
            have M6 := Lib.hid (show OMem w w6 [.row 42 4 (.slice ya (ks.length + 1) yc) (ks.length + 1) (tkVs (ks ++ [⟨k, t, n, a⟩])), .raw w3.heap.size (.cells #[.int .i64 k, .string (bs t), .int .i64 n, .int .i64 a] 42 (0, 0))] from m6)
            clear m3 m4 m6 r6
            go_wp2_with (at_builtin; refine Hid.out ?_)
            refine Lib.hid ?_
            refine Lib.wpList_append_run _ rfl _ _ _ _ rfl _ _ rfl rfl _ _ R6.out ?_
            clear R6
            have c1 : (w6).cell? ⟨w3.heap.size, 1, none⟩ = some (.string (bs t)) := by rw [Lib.cell_of_heap (M6.out.raw_at (i := 1) rfl)]; rfl
            go_wp2
            go_roundw
            case rel => exact ⟨a + t.length, ks ++ [⟨k, t, n, a⟩], ya, yc, by omega, by simp; omega, by go_num, by simp, HN, by simpa using M6.out.take 1⟩
            case measure => simp [intOf]; omega
      · obtain rfl : s.length = a := by omega
        have HR := Lib.hid (lexRes_ok HB.out HT.out.end_)
        obtain ⟨ya, yc, w6, r6, m6⟩ := M.out.pushK (i := 0) rfl ⟨3, [], 0, (s.length : Int)⟩ (by omega)
        have R6 := Lib.hid r6
        have M6 := Lib.hid (show OMem w w6 [.row 42 4 (.slice ya (ks.length + 1) yc) (ks.length + 1) (tkVs (ks ++ [⟨3, [], 0, (s.length : Int)⟩]))] from m6)
        clear m6 r6
        go_wp2_with (at_builtin; refine Hid.out ?_)
        refine Lib.hid ?_
        refine Lib.wpList_append_run _ rfl _ _ _ _ rfl _ _ rfl rfl _ _ R6.out ?_
        clear R6
        go_wp2
        go_ret3
        refine lexed_of HR.out (by simp) (TkAt.of_own (base := 0) (e := 42) (n := ks.length + 1) ?_) M6.out.below
        exact M6.out.rowAt (i := 0) rfl
end
end Go.Proofs.YtlefgffnjcmfoaaGreatDoor
