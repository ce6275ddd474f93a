/- Layer 1 as plain functions on lists of bytes: what is written, what is read, and that the one inverts the other. No Go in this text. -/
import Derived.Lib.AtoiAllCases
import Derived.Lib.ItoaMem
import Derived.Lib.ItoaLen
import Derived.Lib.IndexLaws
namespace Go.Proofs.YtjbcgahdiolhhaaDoor.Sp
open Go

/-- The ints of Go. -/
def I64 (n : Int) : Prop := -9223372036854775808 ≤ n ∧ n ≤ 9223372036854775807

/-- The int of which a list of bytes is the decimal form. -/
def canon (l : List UInt8) : Option Int :=
  match Lib.atoiAll l with
  | .ok n => if Lib.itoa n = l then some n else none
  | _ => none

theorem decDigits_small {u : Nat} (h : u < 10) : Lib.decDigits u = [UInt8.ofNat (48 + u)] := by rw [Lib.decDigits, dif_pos h]
theorem decDigits_big {u : Nat} (h : ¬ u < 10) : Lib.decDigits u = Lib.decDigits (u / 10) ++ [UInt8.ofNat (48 + u % 10)] := by rw [Lib.decDigits, dif_neg h]

theorem digit_toNat (d : Nat) (h : d < 10) : (UInt8.ofNat (48 + d)).toNat = 48 + d := by
  rw [UInt8.toNat_ofNat']; omega

theorem digits_range (u : Nat) : ∀ b ∈ Lib.decDigits u, 48 ≤ b.toNat ∧ b.toNat ≤ 57 := by
  induction u using Nat.strongRecOn with
  | _ u ih =>
    intro b hb
    by_cases h : u < 10
    · rw [decDigits_small h] at hb
      simp only [List.mem_singleton] at hb
      subst hb
      rw [digit_toNat u h]; omega
    · rw [decDigits_big h] at hb
      rcases List.mem_append.1 hb with h1 | h1
      · exact ih (u / 10) (by omega) b h1
      · simp only [List.mem_singleton] at h1
        subst h1
        rw [digit_toNat _ (by omega)]; omega

theorem digits_ne (u : Nat) : Lib.decDigits u ≠ [] := by
  by_cases h : u < 10
  · rw [decDigits_small h]; simp
  · rw [decDigits_big h]; simp

theorem parse_snoc : ∀ (l : List UInt8) (acc a : Nat) (c : UInt8), Lib.parseUint10 acc l = .ok a → 48 ≤ c.toNat → c.toNat ≤ 57 →
    a < 1844674407370955162 → a * 10 + (c.toNat - 48) < 18446744073709551616 → Lib.parseUint10 acc (l ++ [c]) = .ok (a * 10 + (c.toNat - 48))
  | [], acc, a, c, h, h1, h2, h3, h4 => by
    simp only [Lib.parseUint10, Lib.NumEnd.ok.injEq] at h
    subst h
    simp only [List.nil_append, Lib.parseUint10]
    rw [if_pos ⟨h1, h2⟩, if_neg (by omega), if_neg (by omega)]
  | x :: l, acc, a, c, h, h1, h2, h3, h4 => by
    simp only [Lib.parseUint10] at h
    split at h
    · rename_i hx
      split at h
      · cases h
      · rename_i h5
        split at h
        · cases h
        · rename_i h6
          simp only [List.cons_append, Lib.parseUint10]
          rw [if_pos hx, if_neg h5, if_neg h6]
          exact parse_snoc l _ a c h h1 h2 h3 h4
    · cases h

theorem parse_digits (u : Nat) (hu : u < 18446744073709551616) : Lib.parseUint10 0 (Lib.decDigits u) = .ok u := by
  induction u using Nat.strongRecOn with
  | _ u ih =>
    by_cases h : u < 10
    · have e := parse_snoc [] 0 0 (UInt8.ofNat (48 + u)) rfl (by rw [digit_toNat u h]; omega) (by rw [digit_toNat u h]; omega) (by omega) (by rw [digit_toNat u h]; omega)
      rw [decDigits_small h]
      rw [digit_toNat u h] at e
      simpa using e
    · have hd : (UInt8.ofNat (48 + u % 10)).toNat = 48 + u % 10 := digit_toNat _ (by omega)
      have e := parse_snoc _ 0 (u / 10) (UInt8.ofNat (48 + u % 10)) (ih (u / 10) (by omega) (by omega)) (by rw [hd]; omega) (by rw [hd]; omega) (by omega) (by rw [hd]; omega)
      rw [decDigits_big h, e, hd]
      congr 1
      omega

theorem parseMag_digits (u : Nat) (hu : u < 18446744073709551616) : Lib.parseMag (Lib.decDigits u) = .ok u := by
  unfold Lib.parseMag
  rw [if_neg (digits_ne u)]
  exact parse_digits u hu

theorem atoi_itoa (n : Int) (h : I64 n) : Lib.atoiAll (Lib.itoa n) = .ok n := by
  obtain ⟨h1, h2⟩ := h
  unfold Lib.itoa
  by_cases h0 : n < 0
  · rw [if_pos h0, Lib.atoiAll_minus, parseMag_digits _ (by omega)]
    simp only [Lib.signed]
    rw [if_neg (by omega)]
    congr 1
    omega
  · rw [if_neg h0]
    obtain ⟨c, r, hc⟩ : ∃ c r, Lib.decDigits n.toNat = c :: r := List.exists_cons_of_ne_nil (digits_ne _)
    have hr := digits_range n.toNat c (by rw [hc]; simp)
    have hp := parseMag_digits n.toNat (by omega)
    rw [hc] at hp ⊢
    rw [Lib.atoiAll_plain c r (by omega) (by omega), hp]
    simp only [Lib.signless]
    rw [if_neg (by omega)]
    congr 1
    omega

theorem canon_itoa (n : Int) (h : I64 n) : canon (Lib.itoa n) = some n := by
  unfold canon
  rw [atoi_itoa n h]
  simp

theorem canon_some {l : List UInt8} {n : Int} (h : canon l = some n) : Lib.itoa n = l ∧ I64 n := by
  unfold canon at h
  split at h
  · rename_i m hm
    split at h
    · rename_i e
      simp only [Option.some.injEq] at h
      subst h
      exact ⟨e, Lib.atoiAll_bounds hm⟩
    · cases h
  · cases h

theorem itoa_inj {m n : Int} (hm : I64 m) (hn : I64 n) (h : Lib.itoa m = Lib.itoa n) : m = n := by
  have e := canon_itoa m hm
  rw [h, canon_itoa n hn] at e
  exact (Option.some.inj e).symm

theorem itoa_bytes (n : Int) : ∀ b ∈ Lib.itoa n, b.toNat = 45 ∨ (48 ≤ b.toNat ∧ b.toNat ≤ 57) := by
  intro b hb
  unfold Lib.itoa at hb
  split at hb
  · rcases List.mem_cons.1 hb with h | h
    · subst h; exact .inl rfl
    · exact .inr (digits_range _ b h)
  · exact .inr (digits_range _ b hb)

theorem itoa_not (n : Int) (e : UInt8) (he : e.toNat = 58 ∨ e.toNat = 59 ∨ e.toNat = 91) : e ∉ Lib.itoa n := by
  intro h
  have := itoa_bytes n e h
  omega

/-! ### Reading -/

/-- An int, and the byte behind it. -/
def pInt (e : UInt8) (s : List UInt8) : Option (Int × List UInt8) :=
  if Lib.indexByte s e < 0 then none
  else (canon (s.take (Lib.indexByte s e).toNat)).map fun n => (n, s.drop ((Lib.indexByte s e).toNat + 1))

theorem index_app : ∀ (l t : List UInt8) (e : UInt8), e ∉ l → Lib.indexByte (l ++ e :: t) e = l.length
  | [], t, e, _ => by simp [Lib.indexByte]
  | b :: l, t, e, h => by
    simp only [List.mem_cons, not_or] at h
    have ih := index_app l t e h.2
    simp only [List.cons_append, Lib.indexByte]
    rw [if_neg (by simpa using fun x => h.1 x.symm), ih, if_neg (by simp)]
    simp

theorem pInt_app (n : Int) (h : I64 n) (e : UInt8) (he : e.toNat = 58 ∨ e.toNat = 59 ∨ e.toNat = 91) (t : List UInt8) : pInt e (Lib.itoa n ++ e :: t) = some (n, t) := by
  have hi := index_app (Lib.itoa n) t e (itoa_not n e he)
  unfold pInt
  rw [hi, if_neg (by omega)]
  simp [canon_itoa n h]

theorem pInt_some {e : UInt8} {s : List UInt8} {n : Int} {t : List UInt8} (h : pInt e s = some (n, t)) : s = Lib.itoa n ++ e :: t ∧ I64 n := by
  unfold pInt at h
  split at h
  · cases h
  · rename_i h0
    obtain ⟨m, hm, hx⟩ := Option.map_eq_some_iff.1 h
    simp only [Prod.mk.injEq] at hx
    obtain ⟨rfl, rfl⟩ := hx
    obtain ⟨h1, h2⟩ := canon_some hm
    obtain ⟨o, ho⟩ := Int.eq_ofNat_of_zero_le (Int.not_lt.1 h0)
    obtain ⟨h3, _⟩ := Lib.indexByte_some (o := o) ho
    rw [ho, Int.toNat_natCast] at h1 ⊢
    refine ⟨?_, h2⟩
    rw [h1]
    obtain ⟨hlt, hge⟩ := List.getElem?_eq_some_iff.1 h3
    rw [← hge, ← List.drop_eq_getElem_cons hlt, List.take_append_drop]

/-- A number that is not negative, and the byte behind it. -/
def pNum (e : UInt8) (s : List UInt8) : Option (Int × List UInt8) :=
  match pInt e s with
  | none => none
  | some (n, t) => if n < 0 then none else some (n, t)

theorem pNum_app (n : Int) (h : I64 n) (h0 : 0 ≤ n) (e : UInt8) (he : e.toNat = 58 ∨ e.toNat = 59 ∨ e.toNat = 91) (t : List UInt8) : pNum e (Lib.itoa n ++ e :: t) = some (n, t) := by
  unfold pNum
  rw [pInt_app n h e he]
  simp only
  rw [if_neg (by omega)]

theorem pNum_some {e : UInt8} {s : List UInt8} {n : Int} {t : List UInt8} (h : pNum e s = some (n, t)) : s = Lib.itoa n ++ e :: t ∧ I64 n ∧ 0 ≤ n := by
  unfold pNum at h
  cases hp : pInt e s with
  | none => rw [hp] at h; cases h
  | some x =>
    obtain ⟨m, u⟩ := x
    rw [hp] at h
    simp only at h
    split at h
    · cases h
    · simp only [Option.some.injEq, Prod.mk.injEq] at h
      obtain ⟨rfl, rfl⟩ := h
      exact ⟨(pInt_some hp).1, (pInt_some hp).2, by omega⟩

/-- One byte. -/
def skip (c : UInt8) : List UInt8 → Option (List UInt8)
  | [] => none
  | b :: t => if b = c then some t else none

theorem skip_some {c : UInt8} {s t : List UInt8} (h : skip c s = some t) : s = c :: t := by
  cases s with
  | nil => cases h
  | cons b r =>
    simp only [skip] at h
    split at h
    · rename_i e
      simp only [Option.some.injEq] at h
      rw [e, h]
    · cases h

/-- A string. -/
def pText (s : List UInt8) : Option (List UInt8 × List UInt8) :=
  match pNum 58 s with
  | none => none
  | some (n, t) => if (t.length : Int) < n then none else (skip 44 (t.drop n.toNat)).map fun u => (t.take n.toNat, u)

/-- So many values. -/
def pMany {α : Type} (p : List UInt8 → Option (α × List UInt8)) : Nat → List UInt8 → Option (List α × List UInt8)
  | 0, s => some ([], s)
  | n + 1, s =>
    match p s with
    | none => none
    | some (a, t) => (pMany p n t).map fun x => (a :: x.1, x.2)

/-- A list. -/
def pList {α : Type} (p : List UInt8 → Option (α × List UInt8)) (s : List UInt8) : Option (List α × List UInt8) :=
  match pNum 91 s with
  | none => none
  | some (n, t) =>
    match pMany p n.toNat t with
    | none => none
    | some (l, u) => (skip 93 u).map fun v => (l, v)

/-! ### Writing -/
def eInt (n : Int) : List UInt8 := Lib.itoa n ++ [59]
def eNum (n : Int) : List UInt8 := if n < 0 then [] else eInt n
def eText (b : List UInt8) : List UInt8 := Lib.itoa b.length ++ 58 :: (b ++ [44])
def eMany {α : Type} (f : α → List UInt8) : List α → List UInt8
  | [] => []
  | a :: l => f a ++ eMany f l
def eList {α : Type} (f : α → List UInt8) (l : List α) : List UInt8 := Lib.itoa l.length ++ 91 :: (eMany f l ++ [93])

theorem eMany_append {α : Type} (f : α → List UInt8) : ∀ (l m : List α), eMany f (l ++ m) = eMany f l ++ eMany f m
  | [], m => rfl
  | a :: l, m => by simp [eMany, eMany_append f l m]

/-! ### Reading inverts writing -/
theorem pInt_e (n : Int) (h : I64 n) (t : List UInt8) : pInt 59 (eInt n ++ t) = some (n, t) := by
  unfold eInt
  rw [List.append_assoc]
  exact pInt_app n h 59 (.inr (.inl rfl)) t

theorem pNum_e (n : Int) (h : I64 n) (h0 : 0 ≤ n) (t : List UInt8) : pNum 59 (eNum n ++ t) = some (n, t) := by
  unfold eNum eInt
  rw [if_neg (by omega), List.append_assoc]
  exact pNum_app n h h0 59 (.inr (.inl rfl)) t

theorem pText_e (b : List UInt8) (h : b.length ≤ 9223372036854775807) (t : List UInt8) : pText (eText b ++ t) = some (b, t) := by
  unfold pText eText
  have e : Lib.itoa (b.length : Int) ++ 58 :: (b ++ [44]) ++ t = Lib.itoa (b.length : Int) ++ 58 :: (b ++ 44 :: t) := by simp
  rw [e, pNum_app (b.length : Int) ⟨by omega, by omega⟩ (by omega) 58 (.inl rfl)]
  simp only
  rw [if_neg (by simp; omega)]
  simp [skip]

theorem pMany_e {α : Type} (f : α → List UInt8) (p : List UInt8 → Option (α × List UInt8)) : ∀ (l : List α), (∀ a ∈ l, ∀ t, p (f a ++ t) = some (a, t)) → ∀ t, pMany p l.length (eMany f l ++ t) = some (l, t)
  | [], _, t => rfl
  | a :: l, h, t => by
    have ih := pMany_e f p l (fun b hb => h b (List.mem_cons_of_mem _ hb)) t
    simp only [List.length_cons, pMany, eMany, List.append_assoc]
    rw [h a (by simp)]
    simp only
    rw [ih]
    rfl

theorem pList_e {α : Type} (f : α → List UInt8) (p : List UInt8 → Option (α × List UInt8)) (l : List α) (hl : l.length ≤ 9223372036854775807) (h : ∀ a ∈ l, ∀ t, p (f a ++ t) = some (a, t)) (t : List UInt8) :
    pList p (eList f l ++ t) = some (l, t) := by
  unfold pList eList
  have e : Lib.itoa (l.length : Int) ++ 91 :: (eMany f l ++ [93]) ++ t = Lib.itoa (l.length : Int) ++ 91 :: (eMany f l ++ 93 :: t) := by simp
  rw [e, pNum_app (l.length : Int) ⟨by omega, by omega⟩ (by omega) 91 (.inr (.inr rfl))]
  simp only [Int.toNat_natCast]
  rw [pMany_e f p l h]
  simp [skip]

/-! ### What is read was written so -/
theorem eInt_p {s t : List UInt8} {n : Int} (h : pInt 59 s = some (n, t)) : s = eInt n ++ t := by
  unfold eInt
  rw [List.append_assoc]
  exact (pInt_some h).1

theorem eNum_p {s t : List UInt8} {n : Int} (h : pNum 59 s = some (n, t)) : s = eNum n ++ t := by
  obtain ⟨h1, _, h2⟩ := pNum_some h
  unfold eNum eInt
  rw [if_neg (by omega), List.append_assoc]
  exact h1

theorem eText_p {s t b : List UInt8} (h : pText s = some (b, t)) : s = eText b ++ t := by
  unfold pText at h
  cases hp : pNum 58 s with
  | none => rw [hp] at h; cases h
  | some x =>
    obtain ⟨n, u⟩ := x
    rw [hp] at h
    simp only at h
    obtain ⟨h1, _, h2⟩ := pNum_some hp
    split at h
    · cases h
    · rename_i h3
      obtain ⟨v, hv, hx⟩ := Option.map_eq_some_iff.1 h
      simp only [Prod.mk.injEq] at hx
      obtain ⟨rfl, rfl⟩ := hx
      have h4 := skip_some hv
      unfold eText
      have hl : ((u.take n.toNat).length : Int) = n := by rw [List.length_take, Nat.min_eq_left (by omega)]; omega
      rw [hl, h1]
      have e : u = u.take n.toNat ++ 44 :: v := by rw [← h4, List.take_append_drop]
      simp only [List.append_assoc, List.cons_append, List.nil_append]
      rw [← e]

theorem pMany_len {α : Type} (p : List UInt8 → Option (α × List UInt8)) : ∀ (n : Nat) (s t : List UInt8) (l : List α), pMany p n s = some (l, t) → l.length = n
  | 0, s, t, l, h => by
    simp only [pMany, Option.some.injEq, Prod.mk.injEq] at h
    rw [← h.1]; rfl
  | n + 1, s, t, l, h => by
    simp only [pMany] at h
    cases hp : p s with
    | none => rw [hp] at h; cases h
    | some x =>
      obtain ⟨a, u⟩ := x
      rw [hp] at h
      simp only at h
      obtain ⟨y, hy, hx⟩ := Option.map_eq_some_iff.1 h
      simp only [Prod.mk.injEq] at hx
      rw [← hx.1, List.length_cons, pMany_len p n u y.2 y.1 hy]

theorem eMany_p {α : Type} (f : α → List UInt8) (p : List UInt8 → Option (α × List UInt8)) (hp : ∀ s a t, p s = some (a, t) → s = f a ++ t) :
    ∀ (n : Nat) (s t : List UInt8) (l : List α), pMany p n s = some (l, t) → s = eMany f l ++ t
  | 0, s, t, l, h => by
    simp only [pMany, Option.some.injEq, Prod.mk.injEq] at h
    rw [← h.1, ← h.2]; rfl
  | n + 1, s, t, l, h => by
    simp only [pMany] at h
    cases hq : p s with
    | none => rw [hq] at h; cases h
    | some x =>
      obtain ⟨a, u⟩ := x
      rw [hq] at h
      simp only at h
      obtain ⟨y, hy, hx⟩ := Option.map_eq_some_iff.1 h
      simp only [Prod.mk.injEq] at hx
      obtain ⟨hx1, hx2⟩ := hx
      subst hx1; subst hx2
      rw [hp s a u hq, eMany_p f p hp n u y.2 y.1 hy]
      simp [eMany]

theorem eList_p {α : Type} (f : α → List UInt8) (p : List UInt8 → Option (α × List UInt8)) (hp : ∀ s a t, p s = some (a, t) → s = f a ++ t) {s t : List UInt8} {l : List α}
    (h : pList p s = some (l, t)) : s = eList f l ++ t := by
  unfold pList at h
  cases hq : pNum 91 s with
  | none => rw [hq] at h; cases h
  | some x =>
    obtain ⟨n, u⟩ := x
    rw [hq] at h
    simp only at h
    obtain ⟨h1, _, h2⟩ := pNum_some hq
    cases hm : pMany p n.toNat u with
    | none => rw [hm] at h; cases h
    | some y =>
      obtain ⟨l', v⟩ := y
      rw [hm] at h
      simp only at h
      obtain ⟨z, hz, hx⟩ := Option.map_eq_some_iff.1 h
      simp only [Prod.mk.injEq] at hx
      obtain ⟨rfl, rfl⟩ := hx
      have h4 := skip_some hz
      have hl := pMany_len p _ _ _ _ hm
      have he := eMany_p f p hp _ _ _ _ hm
      unfold eList
      have hn : (l'.length : Int) = n := by rw [hl]; omega
      rw [hn, h1, he, h4]
      simp

/-- What is read takes at least two bytes. -/
theorem pInt_less {e : UInt8} {s t : List UInt8} {n : Int} (h : pInt e s = some (n, t)) : t.length < s.length := by
  rw [(pInt_some h).1]; simp; omega
theorem pText_less {s t b : List UInt8} (h : pText s = some (b, t)) : t.length < s.length := by
  rw [eText_p h]; simp [eText]; omega

end Go.Proofs.YtjbcgahdiolhhaaDoor.Sp
