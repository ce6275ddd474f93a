/- Numbers: what strconv.Atoi and strconv.Itoa say of valid ones. No Go. -/
import Derived.Test.YtenbdnkipkfpkaaDoorLx
import Derived.Lib.AtoiAllCases
import Derived.Lib.ItoaMem
import Derived.Lib.ItoaLen
namespace Go.Proofs.YtenbdnkipkfpkaaDoor
open Go
namespace Lx
theorem head_app {l : S} (h : l ≠ []) {m : S} : (l ++ m).head? = l.head? := by
  cases l with
  | nil => exact (h rfl).elim
  | cons x y => rfl
theorem dec_small {u : Nat} (h : u < 10) : Lib.decDigits u = [UInt8.ofNat (48 + u)] := by rw [Lib.decDigits, dif_pos h]
theorem dec_big {u : Nat} (h : ¬ u < 10) : Lib.decDigits u = Lib.decDigits (u / 10) ++ [UInt8.ofNat (48 + u % 10)] := by rw [Lib.decDigits, dif_neg h]
theorem dgt_nat (d : Nat) (h : d < 10) : (UInt8.ofNat (48 + d)).toNat = 48 + d := by rw [UInt8.toNat_ofNat']; omega
theorem dgt_is (d : Nat) (h : d < 10) : digit (UInt8.ofNat (48 + d)) = true := by unfold digit; rw [dgt_nat d h]; exact decide_eq_true (by omega)
theorem vl_snoc (l : S) (c : UInt8) : val (l ++ [c]) = 10 * val l + (c.toNat - 48) := by unfold val; rw [List.foldl_append]; rfl
theorem dec_ne (u : Nat) : Lib.decDigits u ≠ [] := by
  by_cases h : u < 10
  · rw [dec_small h]; simp
  · rw [dec_big h]; simp
theorem dec_all (u : Nat) : (Lib.decDigits u).all digit = true := by
  induction u using Nat.strongRecOn with
  | _ u ih =>
    by_cases h : u < 10
    · rw [dec_small h, List.all_cons, dgt_is u h]; rfl
    · rw [dec_big h, List.all_append, ih (u / 10) (by omega), List.all_cons, dgt_is _ (by omega)]; rfl
theorem dec_val (u : Nat) : val (Lib.decDigits u) = u := by
  induction u using Nat.strongRecOn with
  | _ u ih =>
    by_cases h : u < 10
    · rw [dec_small h]
      show 10 * 0 + ((UInt8.ofNat (48 + u)).toNat - 48) = u
      rw [dgt_nat u h]; omega
    · rw [dec_big h, vl_snoc, ih (u / 10) (by omega), dgt_nat _ (by omega)]; omega
theorem dec_head (u : Nat) : 1 ≤ u → (Lib.decDigits u).head? ≠ some 48 := by
  induction u using Nat.strongRecOn with
  | _ u ih =>
    intro h1
    by_cases h : u < 10
    · rw [dec_small h]
      intro e
      have e2 := congrArg UInt8.toNat (Option.some.inj e)
      rw [dgt_nat u h] at e2
      have : (48 : UInt8).toNat = 48 := rfl
      omega
    · rw [dec_big h, head_app (dec_ne _)]
      exact ih (u / 10) (by omega) (by omega)
theorem snoc_ind {P : S → Prop} (h0 : P []) (h1 : ∀ l c, P l → P (l ++ [c])) : ∀ l, P l := by
  have key : ∀ (n : Nat) (l : S), l.length = n → P l := by
    intro n
    induction n with
    | zero => intro l hl; rw [List.eq_nil_of_length_eq_zero hl]; exact h0
    | succ n ih =>
      intro l hl
      have hne : l ≠ [] := by intro e; rw [e] at hl; cases hl
      rw [← List.dropLast_concat_getLast hne]
      exact h1 _ _ (ih _ (by rw [List.length_dropLast]; omega))
  exact fun l => key l.length l rfl
theorem val_pos : ∀ l : S, l.all digit = true → l ≠ [] → l.head? ≠ some 48 → 1 ≤ val l := by
  refine snoc_ind (fun _ h => (h rfl).elim) fun l c ih ha _ hh => ?_
  rw [List.all_append, Bool.and_eq_true] at ha
  rw [vl_snoc]
  by_cases hl : l = []
  · subst hl
    have hd : digit c = true := by simpa using ha.2
    unfold digit at hd
    have hd := of_decide_eq_true hd
    have hc : c.toNat ≠ 48 := fun e => hh (by
      show some c = some 48
      rw [UInt8.toNat_inj.1 (show c.toNat = (48 : UInt8).toNat from e)])
    omega
  · rw [head_app hl] at hh
    have := ih ha.1 hl hh
    omega
/-- A numeral without zeros ahead is what Itoa writes. -/
theorem val_dec : ∀ l : S, l.all digit = true → l ≠ [] → (l.length ≤ 1 ∨ l.head? ≠ some 48) → Lib.decDigits (val l) = l := by
  refine snoc_ind (fun _ h => (h rfl).elim) fun l c ih ha _ hh => ?_
  rw [List.all_append, Bool.and_eq_true] at ha
  rw [vl_snoc]
  have hd : digit c = true := by simpa using ha.2
  unfold digit at hd
  have hd := of_decide_eq_true hd
  have hc : UInt8.ofNat (48 + (c.toNat - 48)) = c := UInt8.toNat_inj.1 (by rw [dgt_nat _ (by omega)]; omega)
  by_cases hl : l = []
  · subst hl
    show Lib.decDigits (10 * 0 + (c.toNat - 48)) = [c]
    rw [Nat.mul_zero, Nat.zero_add, dec_small (by omega), hc]
  · have hh2 : l.head? ≠ some 48 := by
      rcases hh with h | h
      · have := List.length_pos_iff.2 hl
        rw [List.length_append, List.length_singleton] at h; omega
      · rwa [head_app hl] at h
    have hp := val_pos l ha.1 hl hh2
    rw [dec_big (by omega), show (10 * val l + (c.toNat - 48)) / 10 = val l by omega, show (10 * val l + (c.toNat - 48)) % 10 = c.toNat - 48 by omega, hc, ih ha.1 hl (.inr hh2)]
theorem parse_snoc : ∀ (l : List UInt8) (acc a : Nat) (c : UInt8), Lib.parseUint10 acc l = .ok a → 48 ≤ c.toNat → c.toNat ≤ 57 →
    a < 1844674407370955162 → a * 10 + (c.toNat - 48) < 18446744073709551616 → Lib.parseUint10 acc (l ++ [c]) = .ok (a * 10 + (c.toNat - 48))
  | [], acc, a, c, h, h1, h2, h3, h4 => by
    simp only [Lib.parseUint10, Lib.NumEnd.ok.injEq] at h
    subst h
    simp only [List.nil_append, Lib.parseUint10]
    rw [if_pos ⟨h1, h2⟩, if_neg (by omega), if_neg (by omega)]
  | x :: l, acc, a, c, h, h1, h2, h3, h4 => by
    simp only [Lib.parseUint10] at h
    split at h
    · rename_i hx
      split at h
      · cases h
      · rename_i h5
        split at h
        · cases h
        · rename_i h6
          simp only [List.cons_append, Lib.parseUint10]
          rw [if_pos hx, if_neg h5, if_neg h6]
          exact parse_snoc l _ a c h h1 h2 h3 h4
    · cases h
theorem parse_dec (u : Nat) (hu : u < 18446744073709551616) : Lib.parseUint10 0 (Lib.decDigits u) = .ok u := by
  induction u using Nat.strongRecOn with
  | _ u ih =>
    by_cases h : u < 10
    · have e := parse_snoc [] 0 0 (UInt8.ofNat (48 + u)) rfl (by rw [dgt_nat u h]; omega) (by rw [dgt_nat u h]; omega) (by omega) (by rw [dgt_nat u h]; omega)
      rw [dec_small h]
      rw [dgt_nat u h] at e
      simpa using e
    · have hd : (UInt8.ofNat (48 + u % 10)).toNat = 48 + u % 10 := dgt_nat _ (by omega)
      have e := parse_snoc _ 0 (u / 10) (UInt8.ofNat (48 + u % 10)) (ih (u / 10) (by omega) (by omega)) (by rw [hd]; omega) (by rw [hd]; omega) (by omega) (by rw [hd]; omega)
      rw [dec_big h, e, hd]
      congr 1
      omega
theorem itoa_of (u : Nat) : Lib.itoa (u : Int) = Lib.decDigits u := by rw [Lib.itoa, if_neg (by omega), Int.toNat_natCast]
theorem atoi_dec (u : Nat) (h : u < 9223372036854775808) : Lib.atoiAll (Lib.decDigits u) = .ok (u : Int) := by
  obtain ⟨c, r, hc⟩ : ∃ c r, Lib.decDigits u = c :: r := List.exists_cons_of_ne_nil (dec_ne _)
  have hr := dec_all u
  rw [hc, List.all_cons, Bool.and_eq_true] at hr
  have hd := hr.1
  unfold digit at hd
  have hd := of_decide_eq_true hd
  have hp : Lib.parseMag (Lib.decDigits u) = .ok u := by
    unfold Lib.parseMag
    rw [if_neg (dec_ne u)]
    exact parse_dec u (by omega)
  rw [hc] at hp ⊢
  rw [Lib.atoiAll_plain c r (by omega) (by omega), hp]
  simp only [Lib.signless]
  rw [if_neg (by omega)]
theorem nm_parts {s : S} (h : numOk s = true) : s ≠ [] ∧ s.all digit = true ∧ (s.length ≤ 1 ∨ s.head? ≠ some 48) ∧ val s ≤ 1099511627776 := by
  unfold numOk at h
  simp only [Bool.and_eq_true, Bool.or_eq_true, decide_eq_true_eq, bne_iff_ne] at h
  exact ⟨h.1.1.1, h.1.1.2, h.1.2, h.2⟩
/-- A valid number: its value is what Atoi reads, and Itoa writes it back. -/
theorem nm_yes {s : S} (h : numOk s = true) : Lib.atoiAll s = .ok (val s : Int) ∧ Lib.itoa (val s : Int) = s ∧ val s ≤ 1099511627776 := by
  obtain ⟨h1, h2, h3, h4⟩ := nm_parts h
  have e := val_dec s h2 h1 h3
  refine ⟨?_, by rw [itoa_of, e], h4⟩
  have := atoi_dec (val s) (by omega)
  rwa [e] at this
/-- What is not one: if Atoi reads a number all the same, it is out of range, or Itoa writes another text. -/
theorem nm_no {s : S} (h : numOk s = false) {n : Int} (h0 : 0 ≤ n) (h1 : n ≤ 1099511627776) : Lib.itoa n ≠ s := by
  intro e
  obtain ⟨u, rfl⟩ : ∃ u : Nat, n = u := ⟨n.toNat, by omega⟩
  rw [itoa_of] at e
  have hn : numOk s = true := by
    subst e
    unfold numOk
    simp only [Bool.and_eq_true, Bool.or_eq_true, decide_eq_true_eq, bne_iff_ne]
    refine ⟨⟨⟨dec_ne u, dec_all u⟩, ?_⟩, by rw [dec_val]; omega⟩
    by_cases hu : u = 0
    · subst hu; left; rw [dec_small (by omega)]; exact Nat.le_refl _
    · exact .inr (dec_head u (by omega))
  rw [h] at hn; cases hn
end Lx
end Go.Proofs.YtenbdnkipkfpkaaDoor
