/- Several texts in one: Spec, Shelf, Base, Write, Read, Read2, Small. -/
import Derived.Lib.AtoiAllCases
import Derived.Lib.ItoaMem
import Derived.Lib.ItoaLen
import Derived.Lib.IndexLaws
import Derived.Shelf.Strings.Builder1
import Derived.Shelf.Small.Strs
import Derived.Shelf.Strconv.Itoa3
import Derived.Shelf.Strconv.Clone
import Derived.Shelf.Strconv.ErrVarAll
import Derived.Ground.Names2Prog
import Derived.Ground.SlgnProg
import Derived.Test.YtjbcgahdiolhhaaGreatDoorProg
import Derived.Lib.Hide
import Derived.Lib.Builder
import Derived.Lib.AppendStr
import Derived.Lib.AppendIntMem
import Derived.Lib.Strings
import Derived.Lib.IfaceNeq
import Derived.WalkKit
import Derived.WalkSpells
import Derived.WalkSmall
import Derived.Deep.QuietTactic
import Derived.BigQuiet
import Derived.Deep.DeepFit
import Derived.Outline
import Derived.Deep.RegionHeld3
namespace Go.Proofs.YtjbcgahdiolhhaaGreatDoor.Sp
open Go

/-- The ints of Go. -/
def I64 (n : Int) : Prop := -9223372036854775808 ≤ n ∧ n ≤ 9223372036854775807

/-- The int of which a list of bytes is the decimal form. -/
def canon (l : List UInt8) : Option Int :=
  match Lib.atoiAll l with
  | .ok n => if Lib.itoa n = l then some n else none
  | _ => none

theorem decDigits_small {u : Nat} (h : u < 10) : Lib.decDigits u = [UInt8.ofNat (48 + u)] := by rw [Lib.decDigits, dif_pos h]
theorem decDigits_big {u : Nat} (h : ¬ u < 10) : Lib.decDigits u = Lib.decDigits (u / 10) ++ [UInt8.ofNat (48 + u % 10)] := by rw [Lib.decDigits, dif_neg h]

theorem digit_toNat (d : Nat) (h : d < 10) : (UInt8.ofNat (48 + d)).toNat = 48 + d := by
  rw [UInt8.toNat_ofNat']; omega

theorem digits_range (u : Nat) : ∀ b ∈ Lib.decDigits u, 48 ≤ b.toNat ∧ b.toNat ≤ 57 := by
  induction u using Nat.strongRecOn with
  | _ u ih =>
    intro b hb
    by_cases h : u < 10
    · rw [decDigits_small h] at hb
      simp only [List.mem_singleton] at hb
      subst hb
      rw [digit_toNat u h]; omega
    · rw [decDigits_big h] at hb
      rcases List.mem_append.1 hb with h1 | h1
      · exact ih (u / 10) (by omega) b h1
      · simp only [List.mem_singleton] at h1
        subst h1
        rw [digit_toNat _ (by omega)]; omega

theorem digits_ne (u : Nat) : Lib.decDigits u ≠ [] := by
  by_cases h : u < 10
  · rw [decDigits_small h]; simp
  · rw [decDigits_big h]; simp

theorem parse_snoc : ∀ (l : List UInt8) (acc a : Nat) (c : UInt8), Lib.parseUint10 acc l = .ok a → 48 ≤ c.toNat → c.toNat ≤ 57 →
    a < 1844674407370955162 → a * 10 + (c.toNat - 48) < 18446744073709551616 → Lib.parseUint10 acc (l ++ [c]) = .ok (a * 10 + (c.toNat - 48))
  | [], acc, a, c, h, h1, h2, h3, h4 => by
    simp only [Lib.parseUint10, Lib.NumEnd.ok.injEq] at h
    subst h
    simp only [List.nil_append, Lib.parseUint10]
    rw [if_pos ⟨h1, h2⟩, if_neg (by omega), if_neg (by omega)]
  | x :: l, acc, a, c, h, h1, h2, h3, h4 => by
    simp only [Lib.parseUint10] at h
    split at h
    · rename_i hx
      split at h
      · cases h
      · rename_i h5
        split at h
        · cases h
        · rename_i h6
          simp only [List.cons_append, Lib.parseUint10]
          rw [if_pos hx, if_neg h5, if_neg h6]
          exact parse_snoc l _ a c h h1 h2 h3 h4
    · cases h

theorem parse_digits (u : Nat) (hu : u < 18446744073709551616) : Lib.parseUint10 0 (Lib.decDigits u) = .ok u := by
  induction u using Nat.strongRecOn with
  | _ u ih =>
    by_cases h : u < 10
    · have e := parse_snoc [] 0 0 (UInt8.ofNat (48 + u)) rfl (by rw [digit_toNat u h]; omega) (by rw [digit_toNat u h]; omega) (by omega) (by rw [digit_toNat u h]; omega)
      rw [decDigits_small h]
      rw [digit_toNat u h] at e
      simpa using e
    · have hd : (UInt8.ofNat (48 + u % 10)).toNat = 48 + u % 10 := digit_toNat _ (by omega)
      have e := parse_snoc _ 0 (u / 10) (UInt8.ofNat (48 + u % 10)) (ih (u / 10) (by omega) (by omega)) (by rw [hd]; omega) (by rw [hd]; omega) (by omega) (by rw [hd]; omega)
      rw [decDigits_big h, e, hd]
      congr 1
      omega

theorem parseMag_digits (u : Nat) (hu : u < 18446744073709551616) : Lib.parseMag (Lib.decDigits u) = .ok u := by
  unfold Lib.parseMag
  rw [if_neg (digits_ne u)]
  exact parse_digits u hu

theorem atoi_itoa (n : Int) (h : I64 n) : Lib.atoiAll (Lib.itoa n) = .ok n := by
  obtain ⟨h1, h2⟩ := h
  unfold Lib.itoa
  by_cases h0 : n < 0
  · rw [if_pos h0, Lib.atoiAll_minus, parseMag_digits _ (by omega)]
    simp only [Lib.signed]
    rw [if_neg (by omega)]
    congr 1
    omega
  · rw [if_neg h0]
    obtain ⟨c, r, hc⟩ : ∃ c r, Lib.decDigits n.toNat = c :: r := List.exists_cons_of_ne_nil (digits_ne _)
    have hr := digits_range n.toNat c (by rw [hc]; simp)
    have hp := parseMag_digits n.toNat (by omega)
    rw [hc] at hp ⊢
    rw [Lib.atoiAll_plain c r (by omega) (by omega), hp]
    simp only [Lib.signless]
    rw [if_neg (by omega)]
    congr 1
    omega

theorem canon_itoa (n : Int) (h : I64 n) : canon (Lib.itoa n) = some n := by
  unfold canon
  rw [atoi_itoa n h]
  simp

theorem canon_some {l : List UInt8} {n : Int} (h : canon l = some n) : Lib.itoa n = l ∧ I64 n := by
  unfold canon at h
  split at h
  · rename_i m hm
    split at h
    · rename_i e
      simp only [Option.some.injEq] at h
      subst h
      exact ⟨e, Lib.atoiAll_bounds hm⟩
    · cases h
  · cases h

theorem itoa_inj {m n : Int} (hm : I64 m) (hn : I64 n) (h : Lib.itoa m = Lib.itoa n) : m = n := by
  have e := canon_itoa m hm
  rw [h, canon_itoa n hn] at e
  exact (Option.some.inj e).symm

theorem itoa_bytes (n : Int) : ∀ b ∈ Lib.itoa n, b.toNat = 45 ∨ (48 ≤ b.toNat ∧ b.toNat ≤ 57) := by
  intro b hb
  unfold Lib.itoa at hb
  split at hb
  · rcases List.mem_cons.1 hb with h | h
    · subst h; exact .inl rfl
    · exact .inr (digits_range _ b h)
  · exact .inr (digits_range _ b hb)

theorem itoa_not (n : Int) (e : UInt8) (he : e.toNat = 58 ∨ e.toNat = 59 ∨ e.toNat = 91) : e ∉ Lib.itoa n := by
  intro h
  have := itoa_bytes n e h
  omega

/-! ### Reading -/

/-- An int, and the byte behind it. -/
def pInt (e : UInt8) (s : List UInt8) : Option (Int × List UInt8) :=
  if Lib.indexByte s e < 0 then none
  else (canon (s.take (Lib.indexByte s e).toNat)).map fun n => (n, s.drop ((Lib.indexByte s e).toNat + 1))

theorem index_app : ∀ (l t : List UInt8) (e : UInt8), e ∉ l → Lib.indexByte (l ++ e :: t) e = l.length
  | [], t, e, _ => by simp [Lib.indexByte]
  | b :: l, t, e, h => by
    simp only [List.mem_cons, not_or] at h
    have ih := index_app l t e h.2
    simp only [List.cons_append, Lib.indexByte]
    rw [if_neg (by simpa using fun x => h.1 x.symm), ih, if_neg (by simp)]
    simp

theorem pInt_app (n : Int) (h : I64 n) (e : UInt8) (he : e.toNat = 58 ∨ e.toNat = 59 ∨ e.toNat = 91) (t : List UInt8) : pInt e (Lib.itoa n ++ e :: t) = some (n, t) := by
  have hi := index_app (Lib.itoa n) t e (itoa_not n e he)
  unfold pInt
  rw [hi, if_neg (by omega)]
  simp [canon_itoa n h]

theorem pInt_some {e : UInt8} {s : List UInt8} {n : Int} {t : List UInt8} (h : pInt e s = some (n, t)) : s = Lib.itoa n ++ e :: t ∧ I64 n := by
  unfold pInt at h
  split at h
  · cases h
  · rename_i h0
    obtain ⟨m, hm, hx⟩ := Option.map_eq_some_iff.1 h
    simp only [Prod.mk.injEq] at hx
    obtain ⟨rfl, rfl⟩ := hx
    obtain ⟨h1, h2⟩ := canon_some hm
    obtain ⟨o, ho⟩ := Int.eq_ofNat_of_zero_le (Int.not_lt.1 h0)
    obtain ⟨h3, _⟩ := Lib.indexByte_some (o := o) ho
    rw [ho, Int.toNat_natCast] at h1 ⊢
    refine ⟨?_, h2⟩
    rw [h1]
    obtain ⟨hlt, hge⟩ := List.getElem?_eq_some_iff.1 h3
    rw [← hge, ← List.drop_eq_getElem_cons hlt, List.take_append_drop]

/-- A number that is not negative, and the byte behind it. -/
def pNum (e : UInt8) (s : List UInt8) : Option (Int × List UInt8) :=
  match pInt e s with
  | none => none
  | some (n, t) => if n < 0 then none else some (n, t)

theorem pNum_app (n : Int) (h : I64 n) (h0 : 0 ≤ n) (e : UInt8) (he : e.toNat = 58 ∨ e.toNat = 59 ∨ e.toNat = 91) (t : List UInt8) : pNum e (Lib.itoa n ++ e :: t) = some (n, t) := by
  unfold pNum
  rw [pInt_app n h e he]
  simp only
  rw [if_neg (by omega)]

theorem pNum_some {e : UInt8} {s : List UInt8} {n : Int} {t : List UInt8} (h : pNum e s = some (n, t)) : s = Lib.itoa n ++ e :: t ∧ I64 n ∧ 0 ≤ n := by
  unfold pNum at h
  cases hp : pInt e s with
  | none => rw [hp] at h; cases h
  | some x =>
    obtain ⟨m, u⟩ := x
    rw [hp] at h
    simp only at h
    split at h
    · cases h
    · simp only [Option.some.injEq, Prod.mk.injEq] at h
      obtain ⟨rfl, rfl⟩ := h
      exact ⟨(pInt_some hp).1, (pInt_some hp).2, by omega⟩

/-- One byte. -/
def skip (c : UInt8) : List UInt8 → Option (List UInt8)
  | [] => none
  | b :: t => if b = c then some t else none

theorem skip_some {c : UInt8} {s t : List UInt8} (h : skip c s = some t) : s = c :: t := by
  cases s with
  | nil => cases h
  | cons b r =>
    simp only [skip] at h
    split at h
    · rename_i e
      simp only [Option.some.injEq] at h
      rw [e, h]
    · cases h

/-- A string. -/
def pText (s : List UInt8) : Option (List UInt8 × List UInt8) :=
  match pNum 58 s with
  | none => none
  | some (n, t) => if (t.length : Int) < n then none else (skip 44 (t.drop n.toNat)).map fun u => (t.take n.toNat, u)

/-- So many values. -/
def pMany {α : Type} (p : List UInt8 → Option (α × List UInt8)) : Nat → List UInt8 → Option (List α × List UInt8)
  | 0, s => some ([], s)
  | n + 1, s =>
    match p s with
    | none => none
    | some (a, t) => (pMany p n t).map fun x => (a :: x.1, x.2)

/-- A list. -/
def pList {α : Type} (p : List UInt8 → Option (α × List UInt8)) (s : List UInt8) : Option (List α × List UInt8) :=
  match pNum 91 s with
  | none => none
  | some (n, t) =>
    match pMany p n.toNat t with
    | none => none
    | some (l, u) => (skip 93 u).map fun v => (l, v)

/-! ### Writing -/
def eInt (n : Int) : List UInt8 := Lib.itoa n ++ [59]
def eNum (n : Int) : List UInt8 := if n < 0 then [] else eInt n
def eText (b : List UInt8) : List UInt8 := Lib.itoa b.length ++ 58 :: (b ++ [44])
def eMany {α : Type} (f : α → List UInt8) : List α → List UInt8
  | [] => []
  | a :: l => f a ++ eMany f l
def eList {α : Type} (f : α → List UInt8) (l : List α) : List UInt8 := Lib.itoa l.length ++ 91 :: (eMany f l ++ [93])

theorem eMany_append {α : Type} (f : α → List UInt8) : ∀ (l m : List α), eMany f (l ++ m) = eMany f l ++ eMany f m
  | [], m => rfl
  | a :: l, m => by simp [eMany, eMany_append f l m]

/-! ### Reading inverts writing -/
theorem pInt_e (n : Int) (h : I64 n) (t : List UInt8) : pInt 59 (eInt n ++ t) = some (n, t) := by
  unfold eInt
  rw [List.append_assoc]
  exact pInt_app n h 59 (.inr (.inl rfl)) t

theorem pNum_e (n : Int) (h : I64 n) (h0 : 0 ≤ n) (t : List UInt8) : pNum 59 (eNum n ++ t) = some (n, t) := by
  unfold eNum eInt
  rw [if_neg (by omega), List.append_assoc]
  exact pNum_app n h h0 59 (.inr (.inl rfl)) t

theorem pText_e (b : List UInt8) (h : b.length ≤ 9223372036854775807) (t : List UInt8) : pText (eText b ++ t) = some (b, t) := by
  unfold pText eText
  have e : Lib.itoa (b.length : Int) ++ 58 :: (b ++ [44]) ++ t = Lib.itoa (b.length : Int) ++ 58 :: (b ++ 44 :: t) := by simp
  rw [e, pNum_app (b.length : Int) ⟨by omega, by omega⟩ (by omega) 58 (.inl rfl)]
  simp only
  rw [if_neg (by simp; omega)]
  simp [skip]

theorem pMany_e {α : Type} (f : α → List UInt8) (p : List UInt8 → Option (α × List UInt8)) : ∀ (l : List α), (∀ a ∈ l, ∀ t, p (f a ++ t) = some (a, t)) → ∀ t, pMany p l.length (eMany f l ++ t) = some (l, t)
  | [], _, t => rfl
  | a :: l, h, t => by
    have ih := pMany_e f p l (fun b hb => h b (List.mem_cons_of_mem _ hb)) t
    simp only [List.length_cons, pMany, eMany, List.append_assoc]
    rw [h a (by simp)]
    simp only
    rw [ih]
    rfl

theorem pList_e {α : Type} (f : α → List UInt8) (p : List UInt8 → Option (α × List UInt8)) (l : List α) (hl : l.length ≤ 9223372036854775807) (h : ∀ a ∈ l, ∀ t, p (f a ++ t) = some (a, t)) (t : List UInt8) :
    pList p (eList f l ++ t) = some (l, t) := by
  unfold pList eList
  have e : Lib.itoa (l.length : Int) ++ 91 :: (eMany f l ++ [93]) ++ t = Lib.itoa (l.length : Int) ++ 91 :: (eMany f l ++ 93 :: t) := by simp
  rw [e, pNum_app (l.length : Int) ⟨by omega, by omega⟩ (by omega) 91 (.inr (.inr rfl))]
  simp only [Int.toNat_natCast]
  rw [pMany_e f p l h]
  simp [skip]

/-! ### What is read was written so -/
theorem eInt_p {s t : List UInt8} {n : Int} (h : pInt 59 s = some (n, t)) : s = eInt n ++ t := by
  unfold eInt
  rw [List.append_assoc]
  exact (pInt_some h).1

theorem eNum_p {s t : List UInt8} {n : Int} (h : pNum 59 s = some (n, t)) : s = eNum n ++ t := by
  obtain ⟨h1, _, h2⟩ := pNum_some h
  unfold eNum eInt
  rw [if_neg (by omega), List.append_assoc]
  exact h1

theorem eText_p {s t b : List UInt8} (h : pText s = some (b, t)) : s = eText b ++ t := by
  unfold pText at h
  cases hp : pNum 58 s with
  | none => rw [hp] at h; cases h
  | some x =>
    obtain ⟨n, u⟩ := x
    rw [hp] at h
    simp only at h
    obtain ⟨h1, _, h2⟩ := pNum_some hp
    split at h
    · cases h
    · rename_i h3
      obtain ⟨v, hv, hx⟩ := Option.map_eq_some_iff.1 h
      simp only [Prod.mk.injEq] at hx
      obtain ⟨rfl, rfl⟩ := hx
      have h4 := skip_some hv
      unfold eText
      have hl : ((u.take n.toNat).length : Int) = n := by rw [List.length_take, Nat.min_eq_left (by omega)]; omega
      rw [hl, h1]
      have e : u = u.take n.toNat ++ 44 :: v := by rw [← h4, List.take_append_drop]
      simp only [List.append_assoc, List.cons_append, List.nil_append]
      rw [← e]

theorem pMany_len {α : Type} (p : List UInt8 → Option (α × List UInt8)) : ∀ (n : Nat) (s t : List UInt8) (l : List α), pMany p n s = some (l, t) → l.length = n
  | 0, s, t, l, h => by
    simp only [pMany, Option.some.injEq, Prod.mk.injEq] at h
    rw [← h.1]; rfl
  | n + 1, s, t, l, h => by
    simp only [pMany] at h
    cases hp : p s with
    | none => rw [hp] at h; cases h
    | some x =>
      obtain ⟨a, u⟩ := x
      rw [hp] at h
      simp only at h
      obtain ⟨y, hy, hx⟩ := Option.map_eq_some_iff.1 h
      simp only [Prod.mk.injEq] at hx
      rw [← hx.1, List.length_cons, pMany_len p n u y.2 y.1 hy]

theorem eMany_p {α : Type} (f : α → List UInt8) (p : List UInt8 → Option (α × List UInt8)) (hp : ∀ s a t, p s = some (a, t) → s = f a ++ t) :
    ∀ (n : Nat) (s t : List UInt8) (l : List α), pMany p n s = some (l, t) → s = eMany f l ++ t
  | 0, s, t, l, h => by
    simp only [pMany, Option.some.injEq, Prod.mk.injEq] at h
    rw [← h.1, ← h.2]; rfl
  | n + 1, s, t, l, h => by
    simp only [pMany] at h
    cases hq : p s with
    | none => rw [hq] at h; cases h
    | some x =>
      obtain ⟨a, u⟩ := x
      rw [hq] at h
      simp only at h
      obtain ⟨y, hy, hx⟩ := Option.map_eq_some_iff.1 h
      simp only [Prod.mk.injEq] at hx
      obtain ⟨hx1, hx2⟩ := hx
      subst hx1; subst hx2
      rw [hp s a u hq, eMany_p f p hp n u y.2 y.1 hy]
      simp [eMany]

theorem eList_p {α : Type} (f : α → List UInt8) (p : List UInt8 → Option (α × List UInt8)) (hp : ∀ s a t, p s = some (a, t) → s = f a ++ t) {s t : List UInt8} {l : List α}
    (h : pList p s = some (l, t)) : s = eList f l ++ t := by
  unfold pList at h
  cases hq : pNum 91 s with
  | none => rw [hq] at h; cases h
  | some x =>
    obtain ⟨n, u⟩ := x
    rw [hq] at h
    simp only at h
    obtain ⟨h1, _, h2⟩ := pNum_some hq
    cases hm : pMany p n.toNat u with
    | none => rw [hm] at h; cases h
    | some y =>
      obtain ⟨l', v⟩ := y
      rw [hm] at h
      simp only at h
      obtain ⟨z, hz, hx⟩ := Option.map_eq_some_iff.1 h
      simp only [Prod.mk.injEq] at hx
      obtain ⟨rfl, rfl⟩ := hx
      have h4 := skip_some hz
      have hl := pMany_len p _ _ _ _ hm
      have he := eMany_p f p hp _ _ _ _ hm
      unfold eList
      have hn : (l'.length : Int) = n := by rw [hl]; omega
      rw [hn, h1, he, h4]
      simp

/-- What is read takes at least two bytes. -/
theorem pInt_less {e : UInt8} {s t : List UInt8} {n : Int} (h : pInt e s = some (n, t)) : t.length < s.length := by
  rw [(pInt_some h).1]; simp; omega
theorem pText_less {s t b : List UInt8} (h : pText s = some (b, t)) : t.length < s.length := by
  rw [eText_p h]; simp [eText]; omega

end Go.Proofs.YtjbcgahdiolhhaaGreatDoor.Sp
namespace Go.Proofs
open Go.Shelf
def Tryz.lays137_ren : Go.Shelf.Ren := ⟨fun | 137 => 89 | 217 => 93 | 266 => 100 | n => n, fun | 9 => 9 | 5 => 5 | 3 => 3 | n => n, fun | n => n⟩
theorem Tryz.lays137 : Go.Proofs.Lays.n137 Tryz.prog Tryz.lays137_ren := {
  mixed := by kernel_rfl
  f137 := Tryz.func89.trans (congrArg some (by kernel_rfl))
  f217 := Tryz.func93.trans (congrArg some (by kernel_rfl))
  f266 := Tryz.func100.trans (congrArg some (by kernel_rfl))
  t3 := Tryz.underlying3
  a3 := Tryz.isAgg3
  z3 := Tryz.sizeOf3
  v3 := Tryz.zeroValue3
  t5 := Tryz.underlying5
  a5 := Tryz.isAgg5
  z5 := Tryz.sizeOf5
  v5 := Tryz.zeroValue5
  t9 := Tryz.underlying9
  a9 := Tryz.isAgg9
  z9 := Tryz.sizeOf9
  v9 := Tryz.zeroValue9 }
open Go.RowKit in
theorem Tryz.strings_IndexByte (s : ByteArray) (c : Int) (w : World) :
    Calls Tryz.prog 89 #[.string s, .int .u8 c] w fun e w' => e = .returned (.int .i64 (Lib.indexByte s.data.toList c.toNat.toUInt8)) ∧ w' = w := Any.strings_IndexByte Tryz.lays137 s c w
def Tryz.laysM171_ren : Go.Shelf.Ren := ⟨fun | 171 => 80 | 243 => 88 | 246 => 92 | 283 => 96 | 284 => 97 | 285 => 98 | 286 => 99 | 129 => 107 | 317 => 106 | 318 => 108 | 319 => 109 | 320 => 110 | 337 => 113 | 338 => 114 | n => n, fun | 3 => 3 | 9 => 9 | 2 => 2 | 4 => 4 | 171 => 117 | 0 => 0 | 53 => 118 | 37 => 62 | 5 => 5 | 173 => 121 | 212 => 130 | 51 => 131 | 20 => 20 | 213 => 132 | 46 => 134 | 232 => 147 | 233 => 148 | n => n, fun | 17 => 0 | 18 => 4 | 19 => 5 | n => n⟩
theorem Tryz.laysM171 : Go.Proofs.LaysM.n171 Tryz.prog Tryz.laysM171_ren := {
  mixed := by kernel_rfl
  f129 := Tryz.func107.trans (congrArg some (by kernel_rfl))
  f171 := Tryz.func80.trans (congrArg some (by kernel_rfl))
  f243 := Tryz.func88.trans (congrArg some (by kernel_rfl))
  f246 := Tryz.func92.trans (congrArg some (by kernel_rfl))
  f283 := Tryz.func96.trans (congrArg some (by kernel_rfl))
  f284 := Tryz.func97.trans (congrArg some (by kernel_rfl))
  f285 := Tryz.func98.trans (congrArg some (by kernel_rfl))
  f286 := Tryz.func99.trans (congrArg some (by kernel_rfl))
  f317 := Tryz.func106.trans (congrArg some (by kernel_rfl))
  f318 := Tryz.func108.trans (congrArg some (by kernel_rfl))
  f319 := Tryz.func109.trans (congrArg some (by kernel_rfl))
  f320 := Tryz.func110.trans (congrArg some (by kernel_rfl))
  f337 := Tryz.func113.trans (congrArg some (by kernel_rfl))
  f338 := Tryz.func114.trans (congrArg some (by kernel_rfl))
  t0 := Tryz.underlying0
  a0 := Tryz.isAgg0
  z0 := Tryz.sizeOf0
  v0 := Tryz.zeroValue0
  t2 := Tryz.underlying2
  a2 := Tryz.isAgg2
  z2 := Tryz.sizeOf2
  v2 := Tryz.zeroValue2
  t3 := Tryz.underlying3
  a3 := Tryz.isAgg3
  z3 := Tryz.sizeOf3
  v3 := Tryz.zeroValue3
  t4 := Tryz.underlying4
  a4 := Tryz.isAgg4
  z4 := Tryz.sizeOf4
  v4 := Tryz.zeroValue4
  t5 := Tryz.underlying5
  a5 := Tryz.isAgg5
  z5 := Tryz.sizeOf5
  v5 := Tryz.zeroValue5
  t9 := Tryz.underlying9
  a9 := Tryz.isAgg9
  z9 := Tryz.sizeOf9
  v9 := Tryz.zeroValue9
  t20 := Tryz.underlying20
  a20 := Tryz.isAgg20
  z20 := Tryz.sizeOf20
  v20 := Tryz.zeroValue20
  t37 := Tryz.underlying62
  a37 := Tryz.isAgg62
  z37 := Tryz.sizeOf62
  v37 := Tryz.zeroValue62
  t46 := Tryz.underlying134
  a46 := Tryz.isAgg134
  z46 := Tryz.sizeOf134
  v46 := Tryz.zeroValue134
  t51 := Tryz.underlying131
  a51 := Tryz.isAgg131
  z51 := Tryz.sizeOf131
  v51 := Tryz.zeroValue131
  t53 := Tryz.underlying118
  a53 := Tryz.isAgg118
  z53 := Tryz.sizeOf118
  v53 := Tryz.zeroValue118
  t171 := Tryz.underlying117
  a171 := Tryz.isAgg117
  z171 := Tryz.sizeOf117
  v171 := Tryz.zeroValue117
  t173 := Tryz.underlying121
  a173 := Tryz.isAgg121
  z173 := Tryz.sizeOf121
  v173 := Tryz.zeroValue121
  t212 := Tryz.underlying130
  a212 := Tryz.isAgg130
  z212 := Tryz.sizeOf130
  v212 := Tryz.zeroValue130
  t213 := Tryz.underlying132
  a213 := Tryz.isAgg132
  z213 := Tryz.sizeOf132
  t232 := Tryz.underlying147
  a232 := Tryz.isAgg147
  z232 := Tryz.sizeOf147
  v232 := Tryz.zeroValue147
  t233 := Tryz.underlying148
  a233 := Tryz.isAgg148
  z233 := Tryz.sizeOf148
  v233 := Tryz.zeroValue148
  g17 := by kernel_rfl
  g18 := by kernel_rfl
  g19 := by kernel_rfl
  i0 := by kernel_rfl
  i2 := by kernel_rfl
  i3 := by kernel_rfl
  i4 := by kernel_rfl
  i5 := by kernel_rfl
  i9 := by kernel_rfl
  i20 := by kernel_rfl
  i37 := by kernel_rfl
  i46 := by kernel_rfl
  i51 := by kernel_rfl
  i53 := by kernel_rfl
  i171 := by kernel_rfl
  i173 := by kernel_rfl
  i212 := by kernel_rfl
  i232 := by kernel_rfl
  i233 := by kernel_rfl
  m17 := by kernel_rfl
  m18 := by kernel_rfl
  m19 := by kernel_rfl }
open Go.RowKit Go.Sort Go.Lib in
theorem Tryz.strconv_Itoa (n : Int) (h0 : -9223372036854775808 ≤ n) (h1 : n ≤ 9223372036854775807) (w : World) (htab : Lib.TabIs Tryz.prog w "internal/strconv.uint64pow10" .u64 Lib.pow10Tab) :
    Calls Tryz.prog 80 #[.int .i64 n] w fun e w' => e = .returned (.string ⟨(Lib.itoa n).toArray⟩) ∧ ∃ k os, w' = grow (w.drewN k) os := Any.strconv_Itoa Tryz.laysM171 n h0 h1 w htab
def Tryz.laysM316_ren : Go.Shelf.Ren := ⟨fun | 316 => 86 | n => n, fun | 9 => 9 | 3 => 3 | 4 => 4 | 37 => 62 | 0 => 0 | 127 => 112 | 5 => 5 | n => n, fun | n => n⟩
theorem Tryz.laysM316 : Go.Proofs.LaysM.n316 Tryz.prog Tryz.laysM316_ren := {
  mixed := by kernel_rfl
  f316 := Tryz.func86.trans (congrArg some (by kernel_rfl))
  t0 := Tryz.underlying0
  a0 := Tryz.isAgg0
  z0 := Tryz.sizeOf0
  v0 := Tryz.zeroValue0
  t3 := Tryz.underlying3
  a3 := Tryz.isAgg3
  z3 := Tryz.sizeOf3
  v3 := Tryz.zeroValue3
  t4 := Tryz.underlying4
  a4 := Tryz.isAgg4
  z4 := Tryz.sizeOf4
  v4 := Tryz.zeroValue4
  t9 := Tryz.underlying9
  a9 := Tryz.isAgg9
  z9 := Tryz.sizeOf9
  v9 := Tryz.zeroValue9
  t37 := Tryz.underlying62
  a37 := Tryz.isAgg62
  z37 := Tryz.sizeOf62
  v37 := Tryz.zeroValue62
  t127 := Tryz.underlying112
  a127 := Tryz.isAgg112
  z127 := Tryz.sizeOf112
  v127 := Tryz.zeroValue112
  t5 := Tryz.underlying5
  a5 := Tryz.isAgg5
  z5 := Tryz.sizeOf5
  v5 := Tryz.zeroValue5
  i0 := by kernel_rfl
  i3 := by kernel_rfl
  i4 := by kernel_rfl
  i5 := by kernel_rfl
  i9 := by kernel_rfl
  i37 := by kernel_rfl
  i127 := by kernel_rfl }
open Go.RowKit in
theorem Tryz.stringslite_Clone (s : ByteArray) (w : World) (hlim : s.size ≤ 281474976710656) :
    Calls Tryz.prog 86 #[.string s] w fun e w' => e = .returned (.string s) ∧ Below w.heap.size w w' := Any.stringslite_Clone Tryz.laysM316 s w hlim
def Tryz.laysC172_ren : Go.Shelf.Ren := ⟨fun | 172 => 90 | 244 => 94 | 245 => 95 | 247 => 101 | 279 => 102 | 280 => 103 | 281 => 104 | 282 => 105 | 287 => 111 | 316 => 86 | 171 => 80 | 205 => 112 | 321 => 115 | 322 => 116 | 243 => 88 | 246 => 92 | 283 => 96 | 284 => 97 | 285 => 98 | 286 => 99 | 129 => 107 | 317 => 106 | 318 => 108 | 319 => 109 | 320 => 110 | 337 => 113 | 338 => 114 | n => n, fun | 9 => 9 | 3 => 3 | 75 => 109 | 76 => 110 | 4 => 4 | 5 => 5 | 167 => 123 | 37 => 62 | 0 => 0 | 85 => 124 | 2 => 2 | 168 => 126 | 53 => 118 | 175 => 136 | 46 => 134 | 210 => 139 | 127 => 112 | 145 => 146 | 143 => 144 | 21 => 21 | 171 => 117 | 173 => 121 | 212 => 130 | 51 => 131 | 20 => 20 | 213 => 132 | 232 => 147 | 233 => 148 | 80 => 91 | n => n, fun | 15 => 2 | 16 => 3 | 17 => 0 | 18 => 4 | 19 => 5 | n => n⟩
theorem Tryz.laysC172 : Go.Proofs.LaysC.n172 Tryz.prog Tryz.laysC172_ren := {
  mixed := by kernel_rfl
  f129 := Tryz.func107.trans (congrArg some (by kernel_rfl))
  f171 := Tryz.func80.trans (congrArg some (by kernel_rfl))
  f172 := Tryz.func90.trans (congrArg some (by kernel_rfl))
  f205 := Tryz.func112.trans (congrArg some (by kernel_rfl))
  f243 := Tryz.func88.trans (congrArg some (by kernel_rfl))
  f244 := Tryz.func94.trans (congrArg some (by kernel_rfl))
  f245 := Tryz.func95.trans (congrArg some (by kernel_rfl))
  f246 := Tryz.func92.trans (congrArg some (by kernel_rfl))
  f247 := Tryz.func101.trans (congrArg some (by kernel_rfl))
  f279 := Tryz.func102.trans (congrArg some (by kernel_rfl))
  f280 := Tryz.func103.trans (congrArg some (by kernel_rfl))
  f281 := Tryz.func104.trans (congrArg some (by kernel_rfl))
  f282 := Tryz.func105.trans (congrArg some (by kernel_rfl))
  f283 := Tryz.func96.trans (congrArg some (by kernel_rfl))
  f284 := Tryz.func97.trans (congrArg some (by kernel_rfl))
  f285 := Tryz.func98.trans (congrArg some (by kernel_rfl))
  f286 := Tryz.func99.trans (congrArg some (by kernel_rfl))
  f287 := Tryz.func111.trans (congrArg some (by kernel_rfl))
  f316 := Tryz.func86.trans (congrArg some (by kernel_rfl))
  f317 := Tryz.func106.trans (congrArg some (by kernel_rfl))
  f318 := Tryz.func108.trans (congrArg some (by kernel_rfl))
  f319 := Tryz.func109.trans (congrArg some (by kernel_rfl))
  f320 := Tryz.func110.trans (congrArg some (by kernel_rfl))
  f321 := Tryz.func115.trans (congrArg some (by kernel_rfl))
  f322 := Tryz.func116.trans (congrArg some (by kernel_rfl))
  f337 := Tryz.func113.trans (congrArg some (by kernel_rfl))
  f338 := Tryz.func114.trans (congrArg some (by kernel_rfl))
  t0 := Tryz.underlying0
  a0 := Tryz.isAgg0
  z0 := Tryz.sizeOf0
  v0 := Tryz.zeroValue0
  t2 := Tryz.underlying2
  a2 := Tryz.isAgg2
  z2 := Tryz.sizeOf2
  v2 := Tryz.zeroValue2
  t3 := Tryz.underlying3
  a3 := Tryz.isAgg3
  z3 := Tryz.sizeOf3
  v3 := Tryz.zeroValue3
  t4 := Tryz.underlying4
  a4 := Tryz.isAgg4
  z4 := Tryz.sizeOf4
  v4 := Tryz.zeroValue4
  t5 := Tryz.underlying5
  a5 := Tryz.isAgg5
  z5 := Tryz.sizeOf5
  v5 := Tryz.zeroValue5
  t9 := Tryz.underlying9
  a9 := Tryz.isAgg9
  z9 := Tryz.sizeOf9
  v9 := Tryz.zeroValue9
  t20 := Tryz.underlying20
  a20 := Tryz.isAgg20
  z20 := Tryz.sizeOf20
  v20 := Tryz.zeroValue20
  t21 := Tryz.underlying21
  a21 := Tryz.isAgg21
  z21 := Tryz.sizeOf21
  v21 := Tryz.zeroValue21
  t37 := Tryz.underlying62
  a37 := Tryz.isAgg62
  z37 := Tryz.sizeOf62
  v37 := Tryz.zeroValue62
  t46 := Tryz.underlying134
  a46 := Tryz.isAgg134
  z46 := Tryz.sizeOf134
  v46 := Tryz.zeroValue134
  t51 := Tryz.underlying131
  a51 := Tryz.isAgg131
  z51 := Tryz.sizeOf131
  v51 := Tryz.zeroValue131
  t53 := Tryz.underlying118
  a53 := Tryz.isAgg118
  z53 := Tryz.sizeOf118
  v53 := Tryz.zeroValue118
  t75 := Tryz.underlying109
  a75 := Tryz.isAgg109
  z75 := Tryz.sizeOf109
  v75 := Tryz.zeroValue109
  t76 := Tryz.underlying110
  a76 := Tryz.isAgg110
  z76 := Tryz.sizeOf110
  v76 := Tryz.zeroValue110
  t85 := Tryz.underlying124
  a85 := Tryz.isAgg124
  z85 := Tryz.sizeOf124
  v85 := Tryz.zeroValue124
  t127 := Tryz.underlying112
  a127 := Tryz.isAgg112
  z127 := Tryz.sizeOf112
  v127 := Tryz.zeroValue112
  t143 := Tryz.underlying144
  a143 := Tryz.isAgg144
  z143 := Tryz.sizeOf144
  v143 := Tryz.zeroValue144
  t145 := Tryz.underlying146
  a145 := Tryz.isAgg146
  z145 := Tryz.sizeOf146
  v145 := Tryz.zeroValue146
  t167 := Tryz.underlying123
  a167 := Tryz.isAgg123
  z167 := Tryz.sizeOf123
  v167 := Tryz.zeroValue123
  t168 := Tryz.underlying126
  a168 := Tryz.isAgg126
  z168 := Tryz.sizeOf126
  v168 := Tryz.zeroValue126
  t171 := Tryz.underlying117
  a171 := Tryz.isAgg117
  z171 := Tryz.sizeOf117
  v171 := Tryz.zeroValue117
  t173 := Tryz.underlying121
  a173 := Tryz.isAgg121
  z173 := Tryz.sizeOf121
  v173 := Tryz.zeroValue121
  t175 := Tryz.underlying136
  a175 := Tryz.isAgg136
  z175 := Tryz.sizeOf136
  v175 := Tryz.zeroValue136
  t210 := Tryz.underlying139
  a210 := Tryz.isAgg139
  z210 := Tryz.sizeOf139
  v210 := Tryz.zeroValue139
  t212 := Tryz.underlying130
  a212 := Tryz.isAgg130
  z212 := Tryz.sizeOf130
  v212 := Tryz.zeroValue130
  t213 := Tryz.underlying132
  a213 := Tryz.isAgg132
  z213 := Tryz.sizeOf132
  t232 := Tryz.underlying147
  a232 := Tryz.isAgg147
  z232 := Tryz.sizeOf147
  v232 := Tryz.zeroValue147
  t233 := Tryz.underlying148
  a233 := Tryz.isAgg148
  z233 := Tryz.sizeOf148
  v233 := Tryz.zeroValue148
  g15 := by kernel_rfl
  g16 := by kernel_rfl
  g17 := by kernel_rfl
  g18 := by kernel_rfl
  g19 := by kernel_rfl
  t80 := Tryz.underlying91
  a80 := Tryz.isAgg91
  z80 := Tryz.sizeOf91
  v80 := Tryz.zeroValue91
  i0 := by kernel_rfl
  i2 := by kernel_rfl
  i3 := by kernel_rfl
  i4 := by kernel_rfl
  i5 := by kernel_rfl
  i9 := by kernel_rfl
  i20 := by kernel_rfl
  i21 := by kernel_rfl
  i37 := by kernel_rfl
  i46 := by kernel_rfl
  i51 := by kernel_rfl
  i53 := by kernel_rfl
  i75 := by kernel_rfl
  i76 := by kernel_rfl
  i80 := by kernel_rfl
  i85 := by kernel_rfl
  i127 := by kernel_rfl
  i143 := by kernel_rfl
  i145 := by kernel_rfl
  i167 := by kernel_rfl
  i168 := by kernel_rfl
  i171 := by kernel_rfl
  i173 := by kernel_rfl
  i175 := by kernel_rfl
  i210 := by kernel_rfl
  i212 := by kernel_rfl
  i232 := by kernel_rfl
  i233 := by kernel_rfl
  m15 := by kernel_rfl
  m16 := by kernel_rfl
  m17 := by kernel_rfl
  m18 := by kernel_rfl
  m19 := by kernel_rfl
  c0 := by kernel_rfl
  c2 := by kernel_rfl
  c3 := by kernel_rfl
  c4 := by kernel_rfl
  c5 := by kernel_rfl
  c9 := by kernel_rfl
  c20 := by kernel_rfl
  c21 := by kernel_rfl
  c37 := by kernel_rfl
  c46 := by kernel_rfl
  c51 := by kernel_rfl
  c53 := by kernel_rfl
  c75 := by kernel_rfl
  c76 := by kernel_rfl
  c80 := by kernel_rfl
  c85 := by kernel_rfl
  c127 := by kernel_rfl
  c143 := by kernel_rfl
  c145 := by kernel_rfl
  c167 := by kernel_rfl
  c168 := by kernel_rfl
  c171 := by kernel_rfl
  c173 := by kernel_rfl
  c175 := by kernel_rfl
  c210 := by kernel_rfl
  c212 := by kernel_rfl
  c213 := by kernel_rfl
  c232 := by kernel_rfl
  c233 := by kernel_rfl }
open Go.RowKit in
theorem Tryz.strconv_Atoi_ok (s : ByteArray) (hmax : s.size ≤ 9223372036854775806) (v : Int) (h : Lib.atoiAll s.data.toList = .ok v) (w : World) :
    Calls Tryz.prog 90 #[.string s] w fun e w' => e = .returned (.tuple #[.int .i64 v, .nilIface]) ∧ (w' = w ∨ ∃ t, w' = Lib.bytesWorld w 5 t) := Any.strconv_Atoi_ok Tryz.laysC172 s hmax v h w
open Go.RowKit in
theorem Tryz.strconv_Atoi_syntax_var (s : ByteArray) (hlim : s.size ≤ 281474976710656) (h : Lib.atoiAll s.data.toList = Lib.atoiAll []) (tp : TypeId) (p : Value) (w : World) (hvar : w.var? Tryz.prog "strconv.ErrSyntax" = some #[.iface tp p]) :
    Calls Tryz.prog 90 #[.string s] w fun e w' => ∃ N, e = .returned (.tuple #[.int .i64 0, .iface 126 (.pointer (some ⟨N, 0, none⟩))]) ∧ w.heap.size ≤ N ∧ w'.heap[N]? = some (.cells #[.string ⟨#[65, 116, 111, 105]⟩, .string s, .iface tp p] 139 (0, 0)) ∧ Below w.heap.size w w' := Any.strconv_Atoi_syntax_var Tryz.laysC172 s hlim h tp p w hvar
open Go.RowKit in
theorem Tryz.strconv_Atoi_range_var (s : ByteArray) (hlim : s.size ≤ 281474976710656) (h : Lib.atoiAll s.data.toList = .range) (tp : TypeId) (p : Value) (w : World) (hvar : w.var? Tryz.prog "strconv.ErrRange" = some #[.iface tp p]) :
    Calls Tryz.prog 90 #[.string s] w fun e w' => ∃ N, e = .returned (.tuple #[.int .i64 (Lib.atoiSat s.data.toList), .iface 126 (.pointer (some ⟨N, 0, none⟩))]) ∧ w.heap.size ≤ N ∧ w'.heap[N]? = some (.cells #[.string ⟨#[65, 116, 111, 105]⟩, .string s, .iface tp p] 139 (0, 0)) ∧ Below w.heap.size w w' := Any.strconv_Atoi_range_var Tryz.laysC172 s hlim h tp p w hvar
end Go.Proofs
namespace Go.Proofs.YtjbcgahdiolhhaaGreatDoor
open Go.RowKit Go.Shelf

/-! ### Frames: nothing that was there has changed, but for one block -/
theorem gb_drewN {a w : World} {row : Option Nat} (h : a.grownBy w row) (n : Nat) : a.grownBy (w.drewN n) row := ⟨h.os, h.tape, h.output, h.size, h.block⟩
theorem gb_refl (w : World) (row : Option Nat) : w.grownBy w row := ⟨rfl, rfl, rfl, Nat.le_refl _, fun _ _ _ => rfl⟩
theorem gb_trans {a b c : World} {row : Option Nat} (h : a.grownBy b row) (k : b.grownBy c row) : a.grownBy c row :=
  ⟨k.os.trans h.os, k.tape.trans h.tape, k.output.trans h.output, Nat.le_trans h.size k.size, fun i hi hne => (k.block i (Nat.lt_of_lt_of_le hi h.size) hne).trans (h.block i hi hne)⟩
theorem gb_below {a b c : World} {row : Option Nat} (h : a.grownBy b row) (k : Below b.heap.size b c) : a.grownBy c row :=
  ⟨k.os.trans h.os, k.tape.trans h.tape, k.output.trans h.output, Nat.le_trans h.size k.size, fun i hi hne => (k.block i (Nat.lt_of_lt_of_le hi h.size)).trans (h.block i hi hne)⟩
theorem gb_of_below {a w : World} (h : Below a.heap.size a w) (row : Option Nat) : a.grownBy w row := ⟨h.os, h.tape, h.output, h.size, fun i hi _ => h.block i hi⟩
theorem gb_none {a w : World} (h : a.grownBy w none) : Below a.heap.size a w := ⟨h.os, h.tape, h.output, h.size, fun i hi => h.block i hi (by simp)⟩
theorem gb_alloc {a w : World} {row : Option Nat} (h : a.grownBy w row) (o : Obj) : a.grownBy (w.alloc o) row :=
  ⟨h.os, h.tape, h.output, Nat.le_trans h.size (by simp), fun i hi hne => (Below.heap_alloc w o i (Nat.lt_of_lt_of_le hi h.size)).trans (h.block i hi hne)⟩
theorem gb_set {a w : World} {g : Nat} (h : a.grownBy w (some g)) {p : Addr} (hp : p.block = g ∨ a.heap.size ≤ p.block) (u : Value) : a.grownBy (w.setCell p u) (some g) :=
  ⟨h.os, h.tape, h.output, by simpa [World.setCell] using h.size, fun i hi hne => (Below.heap_setCell w p u i (by
    rintro rfl
    rcases hp with hp | hp
    · exact hne (by rw [hp])
    · omega)).trans (h.block i hi hne)⟩
/-- A block that lies from B on: what lies below B stands. -/
theorem below_gb {a w : World} {g B : Nat} (h : a.grownBy w (some g)) (hB : B ≤ g) (hs : B ≤ a.heap.size) : Below B a w :=
  ⟨h.os, h.tape, h.output, h.size, fun i hi => h.block i (by omega) (by intro e; injection e; omega)⟩
/-- Two blocks of the call's own. -/
theorem below_trans_gb {a b c : World} {g B : Nat} (h : Below B a b) (k : b.grownBy c (some g)) (hB : B ≤ g) (hs : B ≤ a.heap.size) : Below B a c :=
  h.trans (below_gb k hB (Nat.le_trans hs h.size))

/-! ### The package-level variables of the library that are read -/
/-- Their blocks lie below this one. -/
def G0 : Nat := 0 + 2 + 3 + 1
structure Env (w : World) : Prop where
  tab : Lib.TabIs Tryz.prog w "internal/strconv.uint64pow10" .u64 Lib.pow10Tab
  syn : ∃ tp p, w.var? Tryz.prog "strconv.ErrSyntax" = some #[.iface tp p]
  rng : ∃ tp p, w.var? Tryz.prog "strconv.ErrRange" = some #[.iface tp p]
  size : G0 ≤ w.heap.size

theorem gTab : Tryz.prog.globalNamed "internal/strconv.uint64pow10" = some 0 := by kernel_rfl
theorem gSyn : Tryz.prog.globalNamed "strconv.ErrSyntax" = some 2 := by kernel_rfl
theorem gRng : Tryz.prog.globalNamed "strconv.ErrRange" = some 3 := by kernel_rfl

theorem Env.below {w w' : World} {B : Nat} (h : Env w) (hb : Below B w w') (hB : G0 ≤ B) : Env w' := by
  obtain ⟨tp, p, h1⟩ := h.syn
  obtain ⟨tq, q, h2⟩ := h.rng
  exact ⟨var?_below hb gTab (by unfold G0 at hB; omega) h.tab, ⟨tp, p, var?_below hb gSyn (by unfold G0 at hB; omega) h1⟩, ⟨tq, q, var?_below hb gRng (by unfold G0 at hB; omega) h2⟩, Nat.le_trans h.size hb.size⟩
theorem Env.gb {w w' : World} {g : Nat} (h : Env w) (hb : w.grownBy w' (some g)) (hg : G0 ≤ g) : Env w' := h.below (below_gb hb hg h.size) (Nat.le_refl _)
theorem Env.fresh {w w' : World} (h : Env w) (hb : Below w.heap.size w w') : Env w' := h.below hb h.size
theorem Env.alloc {w : World} (h : Env w) (o : Obj) : Env (w.alloc o) := h.fresh ((Below.refl _ _).alloc (Nat.le_refl _) o)

/-! ### A string of bytes -/
def bs (l : List UInt8) : ByteArray := ⟨l.toArray⟩
theorem bs_size (l : List UInt8) : (bs l).size = l.length := by rw [Lib.size_eq]; rfl
theorem bs_list (l : List UInt8) : (bs l).data.toList = l := rfl
theorem bs_toList (l : List UInt8) : (bs l).toList = l := Lib.toList_data _
theorem bs_of (s : ByteArray) : bs s.data.toList = s := Lib.mk_data s

theorem bs_extract (l : List UInt8) (a b : Nat) : (bs l).extract a b = bs ((l.drop a).take (b - a)) := Lib.extract_eq _ a b

/-! ### strconv.Itoa, strings.Clone -/
theorem itoa_any (n : Int) (hn : Sp.I64 n) (w : World) (he : Env w) :
    Calls Tryz.prog 80 #[.int .i64 n] w fun e w' => e = .returned (.string (bs (Lib.itoa n))) ∧ Below w.heap.size w w' :=
  (Tryz.strconv_Itoa n hn.1 hn.2 w he.tab).mono fun _ _ ⟨h1, k, os, h2⟩ => ⟨h1, by rw [h2]; exact Lib.below_grow _ w (Nat.le_refl _) k os⟩

theorem clone_any (s : ByteArray) (hs : s.size ≤ 281474976710656) (w : World) :
    Calls Tryz.prog 76 #[.string s] w fun e w' => e = .returned (.string s) ∧ Below w.heap.size w w' := by
  go_enter Tryz.func76, Tryz.ntmps76
  go_wp2_with (go_at_call 86; refine (Tryz.stringslite_Clone s _ hs).mono ?_; rintro e w' ⟨rfl, hb⟩)
  go_ret
  exact ⟨rfl, hb⟩

/-! ### strings.Builder, as it lies in this translation -/
theorem byte_info : (Tryz.prog.info? 5).map (fun i => (i.zero, i.size, i.bytes)) = some (some (.int .u8 0), 1, 1) := by kernel_rfl

end Go.Proofs.YtjbcgahdiolhhaaGreatDoor
namespace Go.Proofs.YtjbcgahdiolhhaaGreatDoor
open Go.RowKit Go.Shelf

theorem bs_append (a b : List UInt8) : bs a ++ bs b = bs (a ++ b) := ByteArray.mk_append_mk a b
theorem bs_snoc (a : List UInt8) (c : UInt8) : bs a ++ (⟨#[c]⟩ : ByteArray) = bs (a ++ [c]) := ByteArray.mk_append_mk a [c]
theorem ret_string {a b : ByteArray} (h : a = b) : Ending.returned (.string a) = .returned (.string b) := by rw [h]

/-- A builder stays one while what was there stands. -/
theorem builder_old {T e : TypeId} {B b : Nat} {xs : List Value} {w w' : World} (h : Lib.IsBuilder T e B b xs w) (hb : Below w.heap.size w w') : Lib.IsBuilder T e B b xs w' := by
  have one : ∀ p, Lib.BuilderAt T e B b p xs w → Lib.BuilderAt T e B b p xs w' := by
    rintro p ⟨h1, v, h2, h3, h4⟩
    have hlt : b < w.heap.size := (Array.getElem?_eq_some_iff.1 h2).1
    exact ⟨h1, v, (hb.block b hlt).trans h2, h3.kept (gb_of_below hb none) (by
      cases hv : v.ownBlock with
      | none => exact .inl rfl
      | some g => exact .inr (by simp)), h4⟩
  rcases h with h | h
  · exact .inl (one _ h)
  · exact .inr (one _ h)

theorem strCells_eq (s : ByteArray) : Lib.strCells s = Lib.byteCells s.data.toList := rfl

set_option maxHeartbeats 400000 in
theorem wInt_any (n : Int) (hn : Sp.I64 n) (w : World) (he : Env w) :
    Calls Tryz.prog 81 #[.int .i64 n] w fun e w' => e = .returned (.string (bs (Sp.eInt n))) ∧ Below w.heap.size w w' := by
  have hl : (bs (Lib.itoa n)).size ≤ 21 := by rw [bs_size]; exact Lib.itoa_length_le n hn.1 hn.2
  go_enter Tryz.func81, Tryz.ntmps81
  go_wp2_with (go_at_call 80; refine (itoa_any n hn _ he).mono ?_; rintro e w' ⟨rfl, hb⟩)
  go_ret
  exact ⟨ret_string (bs_snoc _ _), hb⟩

theorem wNum_neg (n : Int) (h : n < 0) (w : World) : Calls Tryz.prog 65 #[.int .i64 n] w fun e w' => e = .returned (.string (bs (Sp.eNum n))) ∧ Below w.heap.size w w' := by
  go_enter Tryz.func65, Tryz.ntmps65
  go_wp2
  go_ret
  exact ⟨ret_string (by unfold Sp.eNum; rw [if_pos h]; rfl), Below.refl _ _⟩
theorem wNum_pos (n : Int) (h : 0 ≤ n) (hn : Sp.I64 n) (w : World) (he : Env w) : Calls Tryz.prog 65 #[.int .i64 n] w fun e w' => e = .returned (.string (bs (Sp.eNum n))) ∧ Below w.heap.size w w' := by
  go_enter Tryz.func65, Tryz.ntmps65
  go_wp2_with (go_at_call 81; refine (wInt_any n hn _ he).mono ?_; rintro e w' ⟨rfl, hb⟩)
  go_ret
  exact ⟨ret_string (by unfold Sp.eNum; rw [if_neg (by omega)]), hb⟩
theorem wNum_any (n : Int) (hn : Sp.I64 n) (w : World) (he : Env w) : Calls Tryz.prog 65 #[.int .i64 n] w fun e w' => e = .returned (.string (bs (Sp.eNum n))) ∧ Below w.heap.size w w' := by
  by_cases h : n < 0
  · exact wNum_neg n h w
  · exact wNum_pos n (by omega) hn w he

set_option maxHeartbeats 400000 in
theorem wText_any (l : List UInt8) (hl : l.length ≤ 281474976710656) (w : World) (he : Env w) :
    Calls Tryz.prog 64 #[.string (bs l)] w fun e w' => e = .returned (.string (bs (Sp.eText l))) ∧ Below w.heap.size w w' := by
  have hi : (bs (Lib.itoa (l.length : Int))).size ≤ 21 := by rw [bs_size]; exact Lib.itoa_length_le _ (by omega) (by omega)
  have hs : (bs l).size ≤ 281474976710656 := by rw [bs_size]; exact hl
  have HS := Lib.hid (bs_size l)
  go_enter Tryz.func64, Tryz.ntmps64
  go_wp2_with (go_at_call 80; rw [HS.out]; refine (itoa_any _ ⟨by omega, by omega⟩ _ he).mono ?_; rintro e w' ⟨rfl, hb⟩)
  go_ret
  exact ⟨ret_string (by rw [bs_snoc, bs_append, bs_snoc]; unfold Sp.eText; simp), hb⟩

/-! ### Lists -/
/-- A slice that reads as a list of ints. -/
def IntsAt (w : World) (v : Value) (zs : List Int) : Prop :=
  ∃ a cap, v = .slice a zs.length cap ∧ (zs = [] ∨ ∃ b off, a = some ⟨b, off, none⟩ ∧ b < w.heap.size ∧ ∀ k, k < zs.length → w.cell? ⟨b, off + k, none⟩ = some (.int .i64 (zs.getD k 0)))

theorem eMany_take {α : Type} (f : α → List UInt8) (zs : List α) (k : Nat) (h : k < zs.length) : Sp.eMany f (zs.take (k + 1)) = Sp.eMany f (zs.take k) ++ f zs[k] := by
  rw [List.take_succ_eq_append_getElem h, Sp.eMany_append]
  simp [Sp.eMany]
theorem eMany_le {α : Type} (f : α → List UInt8) (zs : List α) (k : Nat) : (Sp.eMany f (zs.take k)).length ≤ (Sp.eMany f zs).length := by
  conv => rhs; rw [← List.take_append_drop k zs, Sp.eMany_append]
  simp
theorem eList_length {α : Type} (f : α → List UInt8) (zs : List α) : (Sp.eList f zs).length = (Lib.itoa zs.length).length + 1 + (Sp.eMany f zs).length + 1 := by
  simp [Sp.eList]; omega
theorem cells_snoc (l : List UInt8) (c : UInt8) (z : Int) (hz : z = c.toNat) : Lib.byteCells l ++ [Value.int .u8 z] = Lib.byteCells (l ++ [c]) := by subst hz; simp [Lib.byteCells]
theorem cells_app (a b : List UInt8) : Lib.byteCells a ++ Lib.strCells (bs b) = Lib.byteCells (a ++ b) := by rw [strCells_eq, bs_list, ← Lib.byteCells_append]

/-- A slice that reads as a list of strings. -/
def TextsAt (w : World) (v : Value) (ts : List (List UInt8)) : Prop :=
  ∃ a cap, v = .slice a ts.length cap ∧ (ts = [] ∨ ∃ b off, a = some ⟨b, off, none⟩ ∧ b < w.heap.size ∧ ∀ k, k < ts.length → w.cell? ⟨b, off + k, none⟩ = some (.string (bs (ts.getD k []))))

end Go.Proofs.YtjbcgahdiolhhaaGreatDoor
namespace Go.Proofs.YtjbcgahdiolhhaaGreatDoor
open Go.RowKit Go.Shelf

/-- A reader in block b: what is left, or that it has failed. -/
def RdAt (T : TypeId) (b : Nat) (st : Option (List UInt8)) (w : World) : Prop := w.heap[b]? = some (.cells #[.string (bs (st.getD [])), .bool st.isNone] T (0, 0))

theorem RdAt.lt {T : TypeId} {b : Nat} {st : Option (List UInt8)} {w : World} (h : RdAt T b st w) : b < w.heap.size := (Array.getElem?_eq_some_iff.1 h).1
theorem RdAt.c0 {T : TypeId} {b : Nat} {st : Option (List UInt8)} {w : World} (h : RdAt T b st w) : w.cell? ⟨b, 0, none⟩ = some (.string (bs (st.getD []))) := by rw [Lib.cell_of_heap h]; rfl
theorem RdAt.c1 {T : TypeId} {b : Nat} {st : Option (List UInt8)} {w : World} (h : RdAt T b st w) : w.cell? ⟨b, 1, none⟩ = some (.bool st.isNone) := by rw [Lib.cell_of_heap h]; rfl
theorem RdAt.f {T : TypeId} {b : Nat} {st : Option (List UInt8)} {w : World} (h : RdAt T b st w) (j : Nat) : w.frozen? ⟨b, j, none⟩ = false := Lib.frozen_of_heap h j
theorem RdAt.fresh {T : TypeId} {b : Nat} {st : Option (List UInt8)} {w w' : World} (h : RdAt T b st w) (hb : Below w.heap.size w w') : RdAt T b st w' := (hb.block b h.lt).trans h
theorem RdAt.other {T : TypeId} {b g : Nat} {st : Option (List UInt8)} {w w' : World} (h : RdAt T b st w) (hb : w.grownBy w' (some g)) (hne : b ≠ g) : RdAt T b st w' := (hb.block b h.lt (by simpa using hne)).trans h

/-- Storing what is left. -/
theorem heap_set (w : World) (b j : Nat) (x : Value) {cs : Array Value} {T : TypeId} {fr : Nat × Nat} (h : w.heap[b]? = some (.cells cs T fr)) : (w.setCell ⟨b, j, none⟩ x).heap[b]? = some (.cells (cs.setIfInBounds j x) T fr) := by
  simp only [World.setCell, Array.getElem?_modify]
  simp [h]
theorem RdAt.set {T : TypeId} {b : Nat} {s t : List UInt8} {w : World} (h : RdAt T b (some s) w) : RdAt T b (some t) (w.setCell ⟨b, 0, none⟩ (.string (bs t))) := by
  unfold RdAt
  rw [heap_set w b 0 _ h]
  rfl
theorem RdAt.failed {T : TypeId} {b : Nat} {st : Option (List UInt8)} {w : World} (h : RdAt T b st w) : RdAt T b none ((w.setCell ⟨b, 0, none⟩ (.string ⟨#[]⟩)).setCell ⟨b, 1, none⟩ (.bool true)) := by
  unfold RdAt
  rw [heap_set _ b 1 _ (heap_set w b 0 _ h)]
  rfl

theorem fail_any (b : Nat) (st : Option (List UInt8)) (w : World) (h : RdAt 103 b st w) :
    Calls Tryz.prog 74 #[.pointer (some ⟨b, 0, none⟩)] w fun e w' => e = .returned (.tuple #[]) ∧ RdAt 103 b none w' ∧ w.grownBy w' (some b) := by
  have c0 := h.c0
  have c1 := h.c1
  have f0 := h.f 0
  have f1 := h.f 1
  go_enter Tryz.func74, Tryz.ntmps74
  go_wp2
  go_end0
  refine ⟨rfl, ?_, ?_⟩
  · exact h.failed
  · refine gb_set (p := ⟨b, 1, none⟩) ?_ (.inl rfl) _
    exact gb_set (p := ⟨b, 0, none⟩) (gb_refl _ _) (.inl rfl) _

theorem skip_nil (b : Nat) (c : Int) (st : Option (List UInt8)) (hs : st.getD [] = []) (w : World) (h : RdAt 103 b st w) :
    Calls Tryz.prog 75 #[.pointer (some ⟨b, 0, none⟩), .int .u8 c] w fun e w' => e = .returned (.bool false) ∧ RdAt 103 b none w' ∧ w.grownBy w' (some b) := by
  have c0 := h.c0
  rw [hs] at c0
  have hl : (bs []).toList = [] := bs_toList []
  clear hs
  go_enter Tryz.func75, Tryz.ntmps75
  go_wp2_with (go_at_call 74; refine (fail_any b _ _ h).mono ?_; rintro e w1 ⟨rfl, h1, g1⟩)
  go_ret
  exact ⟨rfl, h1, g1⟩

theorem bs_zero (x : UInt8) (t : List UInt8) (hz : 0 < (bs (x :: t)).size) : (bs (x :: t))[0]'hz = x := rfl

theorem skip_no (b : Nat) (c x : UInt8) (t : List UInt8) (hx : x ≠ c) (w : World) (h : RdAt 103 b (some (x :: t)) w) :
    Calls Tryz.prog 75 #[.pointer (some ⟨b, 0, none⟩), .int .u8 c.toNat] w fun e w' => e = .returned (.bool false) ∧ RdAt 103 b none w' ∧ w.grownBy w' (some b) := by
  have c0 : w.cell? ⟨b, 0, none⟩ = some (.string (bs (x :: t))) := h.c0
  have hl : (!(bs (x :: t)).toList.isEmpty) = true := by rw [bs_toList]; rfl
  have hl2 : ((bs (x :: t)).toList.isEmpty) = false := by rw [bs_toList]; rfl
  have hz : 0 < (bs (x :: t)).size := by rw [bs_size]; simp
  have hd : ((((bs (x :: t))[0]'hz).toNat : Int) != (c.toNat : Int)) = true := by
    rw [bs_zero, bne_iff_ne]
    intro e
    exact hx (UInt8.toNat_inj.1 (by omega))
  go_enter Tryz.func75, Tryz.ntmps75
  go_wp2_with (go_at_call 74; refine (fail_any b _ _ h).mono ?_; rintro e w1 ⟨rfl, h1, g1⟩)
  go_ret
  exact ⟨rfl, h1, g1⟩

theorem skip_yes (b : Nat) (c : UInt8) (t : List UInt8) (w : World) (h : RdAt 103 b (some (c :: t)) w) :
    Calls Tryz.prog 75 #[.pointer (some ⟨b, 0, none⟩), .int .u8 c.toNat] w fun e w' => e = .returned (.bool true) ∧ RdAt 103 b (some t) w' ∧ w.grownBy w' (some b) := by
  have c0 : w.cell? ⟨b, 0, none⟩ = some (.string (bs (c :: t))) := h.c0
  have f0 := h.f 0
  have hl : (!(bs (c :: t)).toList.isEmpty) = true := by rw [bs_toList]; rfl
  have hl2 : ((bs (c :: t)).toList.isEmpty) = false := by rw [bs_toList]; rfl
  have hz : 0 < (bs (c :: t)).size := by rw [bs_size]; simp
  have hz2 : 1 ≤ (bs (c :: t)).size := hz
  have hd : ((((bs (c :: t))[0]'hz).toNat : Int) != (c.toNat : Int)) = false := by
    rw [bs_zero]; simp
  have HE := Lib.hid (bs_extract (c :: t) 1 (bs (c :: t)).size)
  go_enter Tryz.func75, Tryz.ntmps75
  go_wp2
  go_ret
  refine ⟨rfl, ?_, gb_set (gb_refl _ _) (.inl rfl) _⟩
  rw [HE.out, bs_size]
  have := RdAt.set (t := t) h
  simpa using this

/-! ### integer, number -/
def rInt (e : UInt8) : Option (List UInt8) → Int × Option (List UInt8)
  | none => (0, none)
  | some s => match Sp.pInt e s with
    | none => (0, none)
    | some (n, t) => (n, some t)
def rNum (e : UInt8) : Option (List UInt8) → Int × Option (List UInt8)
  | none => (0, none)
  | some s => match Sp.pNum e s with
    | none => (0, none)
    | some (n, t) => (n, some t)

/-- What a method of a reader leaves. -/
def Left (T : TypeId) (b : Nat) (v : Value) (st : Option (List UInt8)) (w : World) (x : Ending) (w' : World) : Prop := x = .returned v ∧ RdAt T b st w' ∧ w.grownBy w' (some b)

theorem index_any (l : List UInt8) (e : UInt8) (w : World) : Calls Tryz.prog 89 #[.string (bs l), .int .u8 e.toNat] w fun x w' => x = .returned (.int .i64 (Lib.indexByte l e)) ∧ w = w' :=
  (Tryz.strings_IndexByte (bs l) e.toNat w).mono fun x w' ⟨h1, h2⟩ => ⟨by rw [h1, bs_list]; simp, h2.symm⟩

theorem integer_none (b : Nat) (e : UInt8) (st : Option (List UInt8)) (hi : Lib.indexByte (st.getD []) e < 0) (w : World) (h : RdAt 103 b st w) :
    Calls Tryz.prog 85 #[.pointer (some ⟨b, 0, none⟩), .int .u8 e.toNat] w (Left 103 b (.int .i64 0) none w) := by
  have c0 := h.c0
  go_enter Tryz.func85, Tryz.ntmps85
  go_wp2_with (first | (go_at_call 89; refine (index_any _ _ _).mono ?_; rintro x w1 ⟨rfl, rfl⟩) | (go_at_call 74; refine (fail_any b _ _ h).mono ?_; rintro x w1 ⟨rfl, h1, g1⟩))
  go_ret
  exact ⟨rfl, h1, g1⟩

theorem atoi_ok (t : List UInt8) (ht : t.length ≤ 281474976710656) (n : Int) (h : Lib.atoiAll t = .ok n) (w : World) :
    Calls Tryz.prog 90 #[.string (bs t)] w fun x w' => x = .returned (.tuple #[.int .i64 n, .nilIface]) ∧ Below w.heap.size w w' :=
  (Tryz.strconv_Atoi_ok (bs t) (by rw [bs_size]; omega) n h w).mono fun x w' ⟨h1, h2⟩ => ⟨h1, by
    rcases h2 with rfl | ⟨u, rfl⟩
    · exact Below.refl _ _
    · exact Lib.bytesWorld_below _ _ _⟩
theorem atoi_no (t : List UInt8) (ht : t.length ≤ 281474976710656) (h : ∀ n, Lib.atoiAll t ≠ .ok n) (w : World) (he : Env w) :
    Calls Tryz.prog 90 #[.string (bs t)] w fun x w' => ∃ n N, x = .returned (.tuple #[.int .i64 n, .iface 126 (.pointer (some ⟨N, 0, none⟩))]) ∧ Below w.heap.size w w' := by
  obtain ⟨tp, p, h1⟩ := he.syn
  obtain ⟨tq, q, h2⟩ := he.rng
  have hl : (bs t).size ≤ 281474976710656 := by rw [bs_size]; exact ht
  rcases hh : Lib.atoiAll t with n | _ | _
  · exact absurd hh (h n)
  · exact (Tryz.strconv_Atoi_syntax_var (bs t) hl hh tp p w h1).mono fun x w' ⟨N, a, _, _, d⟩ => ⟨_, N, a, d⟩
  · exact (Tryz.strconv_Atoi_range_var (bs t) hl hh tq q w h2).mono fun x w' ⟨N, a, _, _, d⟩ => ⟨_, N, a, d⟩

/-- The world w' is w1, with nothing that was there changed. -/
structure Same (w1 w' : World) : Prop where
  env : Env w'
  below : Below w1.heap.size w1 w'
theorem Same.start {w1 : World} (h : Env w1) : Same w1 w1.drew := ⟨h.fresh (Below.drew (Below.refl _ _)), Below.drew (Below.refl _ _)⟩
theorem held_fresh {b : Nat} {v : Value} {w1 W w2 : World} (h : W.cell? ⟨b, 0, none⟩ = some v ∧ Same w1 W) (hb : Below W.heap.size W w2) : w2.cell? ⟨b, 0, none⟩ = some v ∧ Same w1 w2 :=
  ⟨(hb.cell (p := ⟨b, 0, none⟩) (Lib.lt_of_cell h.1)).trans h.1, h.2.env.fresh hb, h.2.below.trans (hb.mono h.2.below.size)⟩
theorem Same.fresh {w1 w2 w3 : World} (h : Same w1 w2) (hb : Below w2.heap.size w2 w3) : Same w1 w3 := ⟨h.env.fresh hb, h.below.trans (hb.mono h.below.size)⟩

set_option maxHeartbeats 1000000 in
theorem integer_bad (b : Nat) (e : UInt8) (s : List UInt8) (hs : s.length ≤ 281474976710656) (o : Nat) (hi : Lib.indexByte s e = o) (ho : o < s.length) (hno : ∀ n, Lib.atoiAll (s.take o) ≠ .ok n) (w : World) (he : Env w) (h : RdAt 103 b (some s) w) :
    Calls Tryz.prog 85 #[.pointer (some ⟨b, 0, none⟩), .int .u8 e.toNat] w (Left 103 b (.int .i64 0) none w) := by
  have c0 : w.cell? ⟨b, 0, none⟩ = some (.string (bs s)) := h.c0
  have HI := Lib.hid hi
  have HE := Lib.hid (show (bs s).extract 0 o = bs (s.take o) by rw [bs_extract]; simp)
  have hsz : o ≤ (bs s).size := by rw [bs_size]; omega
  have hno' := hno
  have HN := Lib.hid hno
  clear hi hno hno'
  have hto : (s.take o).length ≤ 281474976710656 := by rw [List.length_take]; omega
  go_enter Tryz.func85, Tryz.ntmps85
  go_wp2_with (go_at_call 89; refine (index_any _ _ _).mono ?_; rintro x w1 ⟨rfl, rfl⟩; rw [HI.out]; refine Hid.out ?_)
  refine Lib.hid ?_
  go_wp2_with (go_at_call 90; rw [HE.out]; refine (atoi_no _ hto HN.out _ he).mono ?_; rintro x w1 ⟨n, N, rfl, hb1⟩; refine Hid.out ?_)
  refine Lib.hid ?_
  have h1 := h.fresh hb1
  have g1 := gb_of_below hb1 (some b)
  clear hb1
  go_wp2
  go_quiet (fail)
  have h2 : RdAt 103 b (some s) (w1.drewN nq) := h1
  have g2 := gb_drewN g1 nq
  clear h1 g1
  go_wp2_with (go_at_call 74; refine (fail_any b _ _ h2).mono ?_; rintro x w3 ⟨rfl, h3, g3⟩)
  go_ret
  exact ⟨rfl, h3, gb_trans g2 g3⟩

set_option maxHeartbeats 1000000 in
theorem integer_odd (b : Nat) (e : UInt8) (s : List UInt8) (hs : s.length ≤ 281474976710656) (o : Nat) (hi : Lib.indexByte s e = o) (ho : o < s.length) (n : Int) (hn : Lib.atoiAll (s.take o) = .ok n) (hd : Lib.itoa n ≠ s.take o) (w : World) (he : Env w) (h : RdAt 103 b (some s) w) :
    Calls Tryz.prog 85 #[.pointer (some ⟨b, 0, none⟩), .int .u8 e.toNat] w (Left 103 b (.int .i64 0) none w) := by
  have c0 : w.cell? ⟨b, 0, none⟩ = some (.string (bs s)) := h.c0
  have HI := Lib.hid hi
  have HE := Lib.hid (show (bs s).extract 0 o = bs (s.take o) by rw [bs_extract]; simp)
  have hsz : o ≤ (bs s).size := by rw [bs_size]; omega
  have hsz1 : o + 1 ≤ (bs s).size := by rw [bs_size]; omega
  have hto : (s.take o).length ≤ 281474976710656 := by rw [List.length_take]; omega
  have HN := Lib.hid hn
  have hn2 := Lib.atoiAll_bounds hn
  have hne : (!((bs (Lib.itoa n)).toList == ((bs s).extract 0 o).toList)) = true := by rw [bs_extract, bs_toList, bs_toList]; simpa using hd
  have HX := Lib.hid hne
  clear hi hn hd hne
  go_enter Tryz.func85, Tryz.ntmps85
  go_wp2_with (go_at_call 89; refine (index_any _ _ _).mono ?_; rintro x w1 ⟨rfl, rfl⟩; rw [HI.out]; refine Hid.out ?_)
  refine Lib.hid ?_
  go_wp2_with (go_at_call 90; rw [HE.out]; refine (atoi_ok _ hto _ HN.out _).mono ?_; rintro x w1 ⟨rfl, hb1⟩; refine Hid.out ?_)
  refine Lib.hid ?_
  have h1 := h.fresh hb1
  have e1 := he.fresh hb1
  have g1 := gb_of_below hb1 (some b)
  have c1 : w1.cell? ⟨b, 0, none⟩ = some (.string (bs s)) := h1.c0
  clear hb1
  go_wp2
  have s1 := Same.start e1
  go_region_held3 (fun w' => w'.cell? ⟨b, 0, none⟩ = some (.string (bs s)) ∧ Same w1 w') (first | exact ⟨c1, s1⟩ | assumption)
    (first | (go_at_call 80; refine (itoa_any n hn2 _ (Same.env (And.right (by assumption)))).mono ?_; rintro x w2 ⟨rfl, hb2⟩; have hS2 := held_fresh (by assumption) hb2))
  have h2 := h1.fresh hS2.2.below
  have g2 := gb_below g1 hS2.2.below
  have hx := HX.out
  simp only [hx]
  clear h1 e1 g1 c1 s1 hS2 hb2 c0 he h
  go_wp2_with (go_at_call 74; refine (fail_any b _ _ h2).mono ?_; rintro x w3 ⟨rfl, h3, g3⟩)
  go_ret
  exact ⟨rfl, h3, gb_trans g2 g3⟩

set_option maxHeartbeats 1000000 in
theorem integer_good (b : Nat) (e : UInt8) (s : List UInt8) (hs : s.length ≤ 281474976710656) (o : Nat) (hi : Lib.indexByte s e = o) (ho : o < s.length) (n : Int) (hn : Lib.atoiAll (s.take o) = .ok n) (hd : Lib.itoa n = s.take o) (w : World) (he : Env w) (h : RdAt 103 b (some s) w) :
    Calls Tryz.prog 85 #[.pointer (some ⟨b, 0, none⟩), .int .u8 e.toNat] w (Left 103 b (.int .i64 n) (some (s.drop (o + 1))) w) := by
  have c0 : w.cell? ⟨b, 0, none⟩ = some (.string (bs s)) := h.c0
  have HI := Lib.hid hi
  have HE := Lib.hid (show (bs s).extract 0 o = bs (s.take o) by rw [bs_extract]; simp)
  have hsz : o ≤ (bs s).size := by rw [bs_size]; omega
  have hsz1 : o + 1 ≤ (bs s).size := by rw [bs_size]; omega
  have hto : (s.take o).length ≤ 281474976710656 := by rw [List.length_take]; omega
  have HN := Lib.hid hn
  have hn2 := Lib.atoiAll_bounds hn
  have hne : (!((bs (Lib.itoa n)).toList == ((bs s).extract 0 o).toList)) = false := by rw [bs_extract, bs_toList, bs_toList]; simpa using hd
  have HX := Lib.hid hne
  clear hi hn hd hne
  go_enter Tryz.func85, Tryz.ntmps85
  go_wp2_with (go_at_call 89; refine (index_any _ _ _).mono ?_; rintro x w1 ⟨rfl, rfl⟩; rw [HI.out]; refine Hid.out ?_)
  refine Lib.hid ?_
  go_wp2_with (go_at_call 90; rw [HE.out]; refine (atoi_ok _ hto _ HN.out _).mono ?_; rintro x w1 ⟨rfl, hb1⟩; refine Hid.out ?_)
  refine Lib.hid ?_
  have h1 := h.fresh hb1
  have e1 := he.fresh hb1
  have g1 := gb_of_below hb1 (some b)
  have c1 : w1.cell? ⟨b, 0, none⟩ = some (.string (bs s)) := h1.c0
  clear hb1
  go_wp2
  have s1 := Same.start e1
  go_region_held3 (fun w' => w'.cell? ⟨b, 0, none⟩ = some (.string (bs s)) ∧ Same w1 w') (first | exact ⟨c1, s1⟩ | assumption)
    (first | (go_at_call 80; refine (itoa_any n hn2 _ (Same.env (And.right (by assumption)))).mono ?_; rintro x w2 ⟨rfl, hb2⟩; have hS2 := held_fresh (by assumption) hb2))
  have h2 := h1.fresh hS2.2.below
  have g2 := gb_below g1 hS2.2.below
  have hx := HX.out
  simp only [hx]
  have f2 := h2.f 0
  have c2 := hS2.1
  have HE2 := Lib.hid (bs_extract s (o + 1) (bs s).size)
  clear h1 e1 g1 c1 s1 hS2 hb2 c0 he h
  go_wp2
  go_ret
  refine ⟨rfl, ?_, gb_set (p := ⟨b, 0, none⟩) g2 (.inl rfl) _⟩
  rw [HE2.out, bs_size, List.take_of_length_le (by simp)]
  exact RdAt.set h2

theorem integer_any (b : Nat) (e : UInt8) (st : Option (List UInt8)) (hs : (st.getD []).length ≤ 281474976710656) (w : World) (he : Env w) (h : RdAt 103 b st w) :
    Calls Tryz.prog 85 #[.pointer (some ⟨b, 0, none⟩), .int .u8 e.toNat] w (Left 103 b (.int .i64 (rInt e st).1) (rInt e st).2 w) := by
  cases st with
  | none => exact integer_none b e none (by show Lib.indexByte [] e < 0; simp [Lib.indexByte]) w h
  | some s =>
    by_cases hi : Lib.indexByte s e < 0
    · have hr : rInt e (some s) = (0, none) := by simp only [rInt, Sp.pInt]; rw [if_pos hi]
      rw [hr]
      exact integer_none b e (some s) hi w h
    · obtain ⟨o, ho⟩ := Int.eq_ofNat_of_zero_le (Int.not_lt.1 hi)
      have hlt : o < s.length := (List.getElem?_eq_some_iff.1 (Lib.indexByte_some (o := o) ho).1).1
      have hp : Sp.pInt e s = (Sp.canon (s.take o)).map fun n => (n, s.drop (o + 1)) := by
        unfold Sp.pInt
        rw [if_neg hi, ho, Int.toNat_natCast]
      by_cases hok : ∃ n, Lib.atoiAll (s.take o) = .ok n
      · obtain ⟨n, hn⟩ := hok
        by_cases hd : Lib.itoa n = s.take o
        · have hr : rInt e (some s) = (n, some (s.drop (o + 1))) := by
            simp only [rInt, hp, Sp.canon, hn]
            rw [if_pos hd]; rfl
          rw [hr]
          exact integer_good b e s hs o ho hlt n hn hd w he h
        · have hr : rInt e (some s) = (0, none) := by
            simp only [rInt, hp, Sp.canon, hn]
            rw [if_neg hd]; rfl
          rw [hr]
          exact integer_odd b e s hs o ho hlt n hn hd w he h
      · have hr : rInt e (some s) = (0, none) := by
          have hc : Sp.canon (s.take o) = none := by
            unfold Sp.canon
            split
            · rename_i n hn
              exact absurd ⟨n, hn⟩ hok
            · rfl
          simp only [rInt, hp, hc]; rfl
        rw [hr]
        exact integer_bad b e s hs o ho hlt (fun n hn => hok ⟨n, hn⟩) w he h

theorem rNum_eq (e : UInt8) (st : Option (List UInt8)) : rNum e st = if (rInt e st).1 < 0 then (0, none) else rInt e st := by
  cases st with
  | none => rfl
  | some s =>
    rcases h : Sp.pInt e s with _ | ⟨n, t⟩
    · simp [rNum, rInt, Sp.pNum, h]
    · by_cases hn : n < 0 <;> simp [rNum, rInt, Sp.pNum, h, hn]

theorem number_any (b : Nat) (e : UInt8) (st : Option (List UInt8)) (hs : (st.getD []).length ≤ 281474976710656) (w : World) (he : Env w) (h : RdAt 103 b st w) :
    Calls Tryz.prog 73 #[.pointer (some ⟨b, 0, none⟩), .int .u8 e.toNat] w (Left 103 b (.int .i64 (rNum e st).1) (rNum e st).2 w) := by
  have HR := Lib.hid (rNum_eq e st)
  by_cases hn : (rInt e st).1 < 0
  · rw [HR.out, if_pos hn]
    go_enter Tryz.func73, Tryz.ntmps73
    go_wp2_with (go_at_call 85; refine (integer_any b e st hs _ he h).mono ?_; rintro x w1 ⟨rfl, h1, g1⟩; refine Hid.out ?_)
    refine Lib.hid ?_
    go_wp2_with (go_at_call 74; refine (fail_any b _ _ h1).mono ?_; rintro x w2 ⟨rfl, h2, g2⟩)
    go_ret
    exact ⟨rfl, h2, gb_trans g1 g2⟩
  · rw [HR.out, if_neg hn]
    go_enter Tryz.func73, Tryz.ntmps73
    go_wp2_with (go_at_call 85; refine (integer_any b e st hs _ he h).mono ?_; rintro x w1 ⟨rfl, h1, g1⟩)
    go_ret
    exact ⟨rfl, h1, g1⟩

theorem num_any (b : Nat) (st : Option (List UInt8)) (hs : (st.getD []).length ≤ 281474976710656) (w : World) (he : Env w) (h : RdAt 103 b st w) :
    Calls Tryz.prog 55 #[.pointer (some ⟨b, 0, none⟩)] w (Left 103 b (.int .i64 (rNum 59 st).1) (rNum 59 st).2 w) := by
  go_enter Tryz.func55, Tryz.ntmps55
  go_wp2_with (go_at_call 73; refine (number_any b 59 st hs _ he h).mono ?_; rintro x w1 ⟨rfl, h1, g1⟩)
  go_ret
  exact ⟨rfl, h1, g1⟩
/-! ### skip, Text -/
def rSkip (c : UInt8) : Option (List UInt8) → Bool × Option (List UInt8)
  | none => (false, none)
  | some s => match Sp.skip c s with
    | none => (false, none)
    | some t => (true, some t)
theorem skip_any (b : Nat) (c : UInt8) (st : Option (List UInt8)) (w : World) (h : RdAt 103 b st w) :
    Calls Tryz.prog 75 #[.pointer (some ⟨b, 0, none⟩), .int .u8 c.toNat] w (Left 103 b (.bool (rSkip c st).1) (rSkip c st).2 w) := by
  cases st with
  | none => exact skip_nil b c.toNat none rfl w h
  | some s =>
    cases s with
    | nil => exact skip_nil b c.toNat (some []) rfl w h
    | cons x t =>
      by_cases hx : x = c
      · subst hx
        have hr : rSkip x (some (x :: t)) = (true, some t) := by simp [rSkip, Sp.skip]
        rw [hr]
        exact skip_yes b x t w h
      · have hr : rSkip c (some (x :: t)) = (false, none) := by simp [rSkip, Sp.skip, hx]
        rw [hr]
        exact skip_no b c x t hx w h

def rText : Option (List UInt8) → List UInt8 × Option (List UInt8)
  | none => ([], none)
  | some s => match Sp.pText s with
    | none => ([], none)
    | some (l, t) => (l, some t)

theorem RdAt.set_none {T : TypeId} {b : Nat} {w : World} (h : RdAt T b none w) : RdAt T b none (w.setCell ⟨b, 0, none⟩ (.string (bs []))) := by
  unfold RdAt
  rw [heap_set w b 0 _ h]
  rfl

/-- The number in front was none. -/
theorem text_none (b : Nat) (st : Option (List UInt8)) (hs : (st.getD []).length ≤ 281474976710656) (hr : rNum 58 st = (0, none)) (w : World) (he : Env w) (h : RdAt 103 b st w) :
    Calls Tryz.prog 54 #[.pointer (some ⟨b, 0, none⟩)] w (Left 103 b (.string (bs [])) none w) := by
  have hl : (bs []).size = 0 := bs_size []
  have HL := Lib.hid hl
  have HE := Lib.hid (show (bs []).extract 0 0 = bs [] by rw [bs_extract]; rfl)
  have HR := Lib.hid hr
  have HN := number_any b 58 st hs
  rw [hr] at HN
  have HN' := Lib.hid HN
  clear hl hr HN
  go_enter Tryz.func54, Tryz.ntmps54
  go_wp2_with (go_at_call 73; refine (HN'.out _ he h).mono ?_; rintro x w1 ⟨rfl, h1, g1⟩; refine Hid.out ?_)
  refine Lib.hid ?_
  have c1 : w1.cell? ⟨b, 0, none⟩ = some (.string (bs [])) := h1.c0
  have f1 := h1.f 0
  have h2 := h1.set_none
  have g2 := gb_set (p := ⟨b, 0, none⟩) g1 (.inl rfl) (.string (bs []))
  have hz : (bs []).size ≤ 0 := by rw [HL.out]; exact Nat.le_refl _
  clear h1 g1
  go_wp2_with (go_at_call 75; refine (skip_nil b 44 none rfl _ h2).mono ?_; rintro x w3 ⟨rfl, h3, g3⟩)
  go_ret
  exact ⟨rfl, h3, gb_trans g2 g3⟩

/-- The string would be longer than what is left. -/
theorem text_long (b : Nat) (st : Option (List UInt8)) (hs : (st.getD []).length ≤ 281474976710656) (n : Int) (t : List UInt8) (hr : rNum 58 st = (n, some t)) (hn : (t.length : Int) < n) (w : World) (he : Env w) (h : RdAt 103 b st w) :
    Calls Tryz.prog 54 #[.pointer (some ⟨b, 0, none⟩)] w (Left 103 b (.string (bs [])) none w) := by
  have HN := number_any b 58 st hs
  rw [hr] at HN
  have HN' := Lib.hid HN
  have hz : ((bs t).size : Int) < n := by rw [bs_size]; exact hn
  clear hr HN
  go_enter Tryz.func54, Tryz.ntmps54
  go_wp2_with (go_at_call 73; refine (HN'.out _ he h).mono ?_; rintro x w1 ⟨rfl, h1, g1⟩; refine Hid.out ?_)
  refine Lib.hid ?_
  have c1 : w1.cell? ⟨b, 0, none⟩ = some (.string (bs t)) := h1.c0
  go_wp2_with (go_at_call 74; refine (fail_any b _ _ h1).mono ?_; rintro x w2 ⟨rfl, h2, g2⟩)
  go_ret
  exact ⟨rfl, h2, gb_trans g1 g2⟩

set_option maxHeartbeats 400000 in
theorem text_tail (b : Nat) (st : Option (List UInt8)) (hs : (st.getD []).length ≤ 281474976710656) (n : Nat) (t : List UInt8) (hr : rNum 58 st = ((n : Int), some t)) (hn : n ≤ t.length) (ht : t.length ≤ 281474976710656) (q : Bool) (st' : Option (List UInt8)) (hk : rSkip 44 (some (t.drop n)) = (q, st')) (w : World) (he : Env w) (h : RdAt 103 b st w) :
    Calls Tryz.prog 54 #[.pointer (some ⟨b, 0, none⟩)] w (Left 103 b (.string (bs (if q then t.take n else []))) st' w) := by
  have HN := number_any b 58 st hs
  rw [hr] at HN
  have HN' := Lib.hid HN
  have HK := skip_any b 44 (some (t.drop n))
  rw [hk] at HK
  have HK' := Lib.hid HK
  have hz : n ≤ (bs t).size := by rw [bs_size]; exact hn
  have HT := Lib.hid (show (bs t).extract 0 n = bs (t.take n) by rw [bs_extract]; simp)
  have HD := Lib.hid (show (bs t).extract n (bs t).size = bs (t.drop n) by rw [bs_extract, bs_size, List.take_of_length_le (by simp)])
  have hc : (bs (t.take n)).size ≤ 281474976710656 := by rw [bs_size, List.length_take]; omega
  clear hr HN hk HK
  cases q
  all_goals
    go_enter Tryz.func54, Tryz.ntmps54
    go_wp2_with (go_at_call 73; refine (HN'.out _ he h).mono ?_; rintro x w1 ⟨rfl, h1, g1⟩; refine Hid.out ?_)
    refine Lib.hid ?_
    have c1 : w1.cell? ⟨b, 0, none⟩ = some (.string (bs t)) := h1.c0
    have f1 := h1.f 0
    have h2 := RdAt.set (t := t.drop n) h1
    have g2 := gb_set (p := ⟨b, 0, none⟩) g1 (.inl rfl) (.string (bs (t.drop n)))
    go_wp2_with (go_at_call 75; rw [HD.out]; refine (HK'.out _ h2).mono ?_; rintro x w3 ⟨rfl, h3, g3⟩; refine Hid.out ?_)
    refine Lib.hid ?_
    have g4 := gb_trans g2 g3
    clear h1 g1 c1 f1 h2 g2 g3
  · go_wp2
    go_ret
    exact ⟨rfl, h3, g4⟩
  · go_wp2_with (go_at_call 76; rw [HT.out]; refine (clone_any _ hc _).mono ?_; rintro x w5 ⟨rfl, hb5⟩)
    go_ret
    exact ⟨rfl, h3.fresh hb5, gb_below g4 hb5⟩
end Go.Proofs.YtjbcgahdiolhhaaGreatDoor
namespace Go.Proofs.YtjbcgahdiolhhaaGreatDoor
open Go.RowKit Go.Shelf

theorem text_any (b : Nat) (st : Option (List UInt8)) (hs : (st.getD []).length ≤ 281474976710656) (w : World) (he : Env w) (h : RdAt 103 b st w) :
    Calls Tryz.prog 54 #[.pointer (some ⟨b, 0, none⟩)] w (Left 103 b (.string (bs (rText st).1)) (rText st).2 w) := by
  cases st with
  | none => exact text_none b none hs rfl w he h
  | some s =>
    rcases hp : Sp.pNum 58 s with _ | ⟨n, t⟩
    · have hr : rText (some s) = ([], none) := by simp [rText, Sp.pText, hp]
      rw [hr]
      exact text_none b (some s) hs (by simp [rNum, hp]) w he h
    · obtain ⟨h1, _, h2⟩ := Sp.pNum_some hp
      have hr0 : rNum 58 (some s) = (n, some t) := by simp [rNum, hp]
      by_cases hn : (t.length : Int) < n
      · have hr : rText (some s) = ([], none) := by simp [rText, Sp.pText, hp, hn]
        rw [hr]
        exact text_long b (some s) hs n t hr0 hn w he h
      · obtain ⟨k, rfl⟩ := Int.eq_ofNat_of_zero_le h2
        have ht : t.length ≤ 281474976710656 := by
          have : t.length ≤ s.length := by rw [h1]; simp; omega
          simp at hs; omega
        have hlen : k ≤ t.length := by omega
        rcases hk : Sp.skip 44 (t.drop k) with _ | u
        · have hr : rText (some s) = ([], none) := by simp [rText, Sp.pText, hp, hn, hk]
          rw [hr]
          exact text_tail b (some s) hs k t hr0 hlen ht false none (by simp [rSkip, hk]) w he h
        · have hr : rText (some s) = (t.take k, some u) := by simp [rText, Sp.pText, hp, hn, hk]
          rw [hr]
          exact text_tail b (some s) hs k t hr0 hlen ht true (some u) (by simp [rSkip, hk]) w he h

/-! ### Left, Done, Rest -/
theorem left_any (T : TypeId) (hT : T = 103) (b : Nat) (st : Option (List UInt8)) (w : World) (h : RdAt T b st w) :
    Calls Tryz.prog 57 #[.pointer (some ⟨b, 0, none⟩)] w fun x w' => x = .returned (.int .i64 (st.getD []).length) ∧ w = w' := by
  subst hT
  have c0 := h.c0
  go_enter Tryz.func57, Tryz.ntmps57
  go_wp2
  go_ret
  exact ⟨rfl, rfl⟩

def rDone : Option (List UInt8) → Bool
  | none => false
  | some s => s.isEmpty

theorem done_any (b : Nat) (st : Option (List UInt8)) (w : World) (h : RdAt 103 b st w) :
    Calls Tryz.prog 56 #[.pointer (some ⟨b, 0, none⟩)] w fun x w' => x = .returned (.bool (rDone st)) ∧ w = w' := by
  cases st with
  | none =>
    have c1 : w.cell? ⟨b, 1, none⟩ = some (.bool true) := h.c1
    go_enter Tryz.func56, Tryz.ntmps56
    go_wp2
    go_ret
    exact ⟨rfl, rfl⟩
  | some s =>
    have c0 : w.cell? ⟨b, 0, none⟩ = some (.string (bs s)) := h.c0
    have c1 : w.cell? ⟨b, 1, none⟩ = some (.bool false) := h.c1
    have HL := Lib.hid (bs_toList s)
    cases hb : s.isEmpty
    · have hl : (bs s).toList.isEmpty = false := by rw [HL.out]; exact hb
      go_enter Tryz.func56, Tryz.ntmps56
      go_wp2
      go_ret
      exact ⟨by simp [rDone, hb], rfl⟩
    · have hl : (bs s).toList.isEmpty = true := by rw [HL.out]; exact hb
      have hl2 : (bs s).toList = [] := by rw [HL.out]; simpa using hb
      go_enter Tryz.func56, Tryz.ntmps56
      go_wp2
      go_ret
      exact ⟨by simp [rDone, hb], rfl⟩

def rRest (st : Option (List UInt8)) : List UInt8 × Option (List UInt8) := (st.getD [], st.map fun _ => [])

theorem RdAt.set_rest {T : TypeId} {b : Nat} {st : Option (List UInt8)} {w : World} (h : RdAt T b st w) : RdAt T b (st.map fun _ => []) (w.setCell ⟨b, 0, none⟩ (.string ⟨#[]⟩)) := by
  unfold RdAt
  rw [heap_set w b 0 _ h]
  cases st <;> rfl

/-! ### Lists -/
def rList {α : Type} (p : List UInt8 → Option (α × List UInt8)) : Option (List UInt8) → List α × Option (List UInt8)
  | none => ([], none)
  | some s => match Sp.pList p s with
    | none => ([], none)
    | some (l, t) => (l, some t)

/-- What holds after k rounds: xs is what has been read, st is where the reader stands. -/
def Prog {α : Type} (p : List UInt8 → Option (α × List UInt8)) (n : Nat) (t : List UInt8) (xs : List α) : Option (List UInt8) → Prop
  | none => Sp.pMany p n t = none
  | some u => xs.length ≤ n ∧ xs.length + u.length ≤ t.length ∧ Sp.pMany p n t = (Sp.pMany p (n - xs.length) u).map fun x => (xs ++ x.1, x.2)

theorem Prog.start {α : Type} (p : List UInt8 → Option (α × List UInt8)) (n : Nat) (t : List UInt8) : Prog p n t [] (some t) :=
  ⟨Nat.zero_le _, by simp, by simp⟩

theorem Prog.bad {α : Type} {p : List UInt8 → Option (α × List UInt8)} {n : Nat} {t u : List UInt8} {xs : List α} (h : Prog p n t xs (some u)) (hlt : xs.length < n) (hp : p u = none) (ys : List α) : Prog p n t ys none := by
  obtain ⟨_, _, h3⟩ := h
  unfold Prog
  rw [h3, show n - xs.length = (n - xs.length - 1) + 1 by omega]
  simp [Sp.pMany, hp]

theorem Prog.good {α : Type} {p : List UInt8 → Option (α × List UInt8)} {n : Nat} {t u v : List UInt8} {xs : List α} {a : α} (h : Prog p n t xs (some u)) (hlt : xs.length < n) (hp : p u = some (a, v)) (hl : v.length < u.length) : Prog p n t (xs ++ [a]) (some v) := by
  obtain ⟨h1, h2, h3⟩ := h
  refine ⟨by simp; omega, by simp; omega, ?_⟩
  rw [h3, show n - xs.length = (n - (xs ++ [a]).length) + 1 by simp; omega]
  simp [Sp.pMany, hp]
  rfl

/-- A list that a call has made: its cells lie from block lo on. -/
def ListFrom {α : Type} (f : α → Value) (lo : Nat) (w : World) (v : Value) (zs : List α) : Prop :=
  ∃ a cap, v = .slice a zs.length cap ∧ (zs = [] ∨ ∃ b, a = some ⟨b, 0, none⟩ ∧ lo ≤ b ∧ b < w.heap.size ∧ ∀ k z, zs[k]? = some z → w.cell? ⟨b, k, none⟩ = some (f z))

theorem listFrom_own {α : Type} {f : α → Value} {lo : Nat} {w : World} {e : TypeId} {v : Value} {zs : List α} (h : w.ownsRow lo e 1 v zs.length (zs.map f)) : ListFrom f lo w v zs := by
  rcases h.2 with ⟨rfl, h0⟩ | ⟨g, cap, cur, rfl, hg, hh, hn, hc, hs, ht⟩
  · have : zs = [] := List.length_eq_zero_iff.1 h0
    subst this
    exact ⟨none, 0, rfl, .inl rfl⟩
  · refine ⟨_, cap, rfl, .inr ⟨g, rfl, hg, (Array.getElem?_eq_some_iff.1 hh).1, fun k z hk => ?_⟩⟩
    have := h.cells (g := g) rfl k (f z) (by rw [List.getElem?_map, hk]; rfl)
    rw [Lib.add_plain] at this
    simpa using this

theorem listFrom_nil {α : Type} (f : α → Value) (lo : Nat) (w : World) : ListFrom f lo w (.slice none 0 0) [] := ⟨none, 0, rfl, .inl rfl⟩

/-- A list stays one where its block stands. -/
theorem ListFrom.keep {α : Type} {f : α → Value} {lo : Nat} {w w' : World} {v : Value} {zs : List α} (h : ListFrom f lo w v zs) (hb : ∀ k, lo ≤ k → k < w.heap.size → w'.heap[k]? = w.heap[k]?) (hs : w.heap.size ≤ w'.heap.size) : ListFrom f lo w' v zs := by
  obtain ⟨a, cap, h1, h2⟩ := h
  refine ⟨a, cap, h1, ?_⟩
  rcases h2 with h2 | ⟨b, h3, h4, h5, h6⟩
  · exact .inl h2
  · exact .inr ⟨b, h3, h4, Nat.lt_of_lt_of_le h5 hs, fun k z hk => (World.cell?_of_block (w := w) (a := ⟨b, k, none⟩) (hb b h4 h5)).trans (h6 k z hk)⟩

/-- What a reader's method leaves that returns a list. -/
def LeftList {α : Type} (f : α → Value) (T : TypeId) (b : Nat) (zs : List α) (st : Option (List UInt8)) (w : World) (x : Ending) (w' : World) : Prop :=
  ∃ v, x = .returned v ∧ ListFrom f w.heap.size w' v zs ∧ RdAt T b st w' ∧ w.grownBy w' (some b)

theorem RdAt.old {T : TypeId} {b : Nat} {st : Option (List UInt8)} {w w' : World} {row : Option Nat} (h : RdAt T b st w) (hb : w.grownBy w' row) (hne : some b ≠ row) : RdAt T b st w' := (hb.block b h.lt hne).trans h

theorem rSkip_false {c : UInt8} {s : List UInt8} {q : Bool} {st2 : Option (List UInt8)} (h : rSkip c (some s) = (q, st2)) (hq : q = false) : st2 = none := by
  unfold rSkip at h
  rcases hk : Sp.skip c s with _ | t <;> simp [hk] at h
  · exact h.2.symm
  · rw [hq] at h; simp at h
theorem gb_own {a w w' : World} {g : Nat} {row : Option Nat} (h : a.grownBy w (some g)) (k : w.grownBy w' row) (hr : ∀ i, row = some i → a.heap.size ≤ i) : a.grownBy w' (some g) :=
  ⟨k.os.trans h.os, k.tape.trans h.tape, k.output.trans h.output, Nat.le_trans h.size k.size, fun i hi hne => (k.block i (Nat.lt_of_lt_of_le hi h.size) (fun e => by have := hr i e.symm; omega)).trans (h.block i hi hne)⟩
theorem own_reader {e : TypeId} {lo b n : Nat} {v : Value} {xs : List Value} {w : World} (h : w.ownsRow lo e 1 v n xs) (hb : b < lo) : v.ownBlock ≠ some b := by
  intro hv
  have := (h.lt b hv).1
  omega

/-! ### Nums -/
theorem int_info : (Tryz.prog.info? 3).map (fun i => (i.zero, i.size, i.bytes)) = some (some (.int .i64 0), 1, 8) := by kernel_rfl

/-! ### Texts -/
theorem string_info : (Tryz.prog.info? 9).map (fun i => (i.zero, i.size, i.bytes)) = some (some (.string ⟨#[]⟩), 1, 16) := by kernel_rfl

end Go.Proofs.YtjbcgahdiolhhaaGreatDoor
namespace Go.Proofs.YtjbcgahdiolhhaaGreatDoor
open Go.RowKit Go.Shelf

theorem open_any (s : List UInt8) (w : World) :
    Calls Tryz.prog 53 #[.string (bs s)] w fun e w' => e = .returned (.pointer (some ⟨w.heap.size, 0, none⟩)) ∧ RdAt 103 w.heap.size (some s) w' ∧ Below w.heap.size w w' := by
  go_enter Tryz.func53, Tryz.ntmps53
  go_wp2
  go_ret
  exact ⟨rfl, heap_alloc_new w _, (Below.refl _ _).alloc (Nat.le_refl _) _⟩

theorem it0 : Lib.itoa 0 = [48] := by unfold Lib.itoa; rw [if_neg (by decide)]; show Lib.decDigits 0 = _; rw [Sp.decDigits_small (by decide)]; rfl
theorem it1 : Lib.itoa 1 = [49] := by unfold Lib.itoa; rw [if_neg (by decide)]; show Lib.decDigits 1 = _; rw [Sp.decDigits_small (by decide)]; rfl
theorem it2 : Lib.itoa 2 = [50] := by unfold Lib.itoa; rw [if_neg (by decide)]; show Lib.decDigits 2 = _; rw [Sp.decDigits_small (by decide)]; rfl
theorem it3 : Lib.itoa 3 = [51] := by unfold Lib.itoa; rw [if_neg (by decide)]; show Lib.decDigits 3 = _; rw [Sp.decDigits_small (by decide)]; rfl
theorem it7 : Lib.itoa 7 = [55] := by unfold Lib.itoa; rw [if_neg (by decide)]; show Lib.decDigits 7 = _; rw [Sp.decDigits_small (by decide)]; rfl
theorem itm1 : Lib.itoa (-1) = [45, 49] := by unfold Lib.itoa; rw [if_pos (by decide)]; show 45 :: Lib.decDigits 1 = _; rw [Sp.decDigits_small (by decide)]; rfl
theorem itm7 : Lib.itoa (-7) = [45, 55] := by unfold Lib.itoa; rw [if_pos (by decide)]; show 45 :: Lib.decDigits 7 = _; rw [Sp.decDigits_small (by decide)]; rfl
theorem it300 : Lib.itoa 300 = [51, 48, 48] := by unfold Lib.itoa; rw [if_neg (by decide)]; show Lib.decDigits 300 = _; rw [Sp.decDigits_big (by decide), Sp.decDigits_big (by decide), Sp.decDigits_small (by decide)]; rfl
theorem odd007 : rNum 59 (some [48, 48, 55, 59]) = (0, none) := by
  have h1 : Lib.indexByte [48, 48, 55, 59] 59 = 3 := by decide
  have h2 : Lib.atoiAll [48, 48, 55] = .ok 7 := by decide
  have h3 : Sp.canon [48, 48, 55] = none := by unfold Sp.canon; rw [h2]; simp only; rw [it7]; decide
  have h4 : Sp.pInt 59 [48, 48, 55, 59] = none := by
    unfold Sp.pInt
    rw [h1, if_neg (by decide)]
    show Option.map _ (Sp.canon [48, 48, 55]) = none
    rw [h3]; rfl
  simp [rNum, Sp.pNum, h4]

theorem ints_two (w : World) : IntsAt (w.alloc (.cells #[.int .i64 1, .int .i64 (-1)] 3)) (.slice (some ⟨w.heap.size, 0, none⟩) 2 2) [1, -1] := by
  refine ⟨_, 2, rfl, .inr ⟨w.heap.size, 0, rfl, by simp, fun k hk => ?_⟩⟩
  have h := Lib.cell_of_heap (heap_alloc_new w (.cells #[.int .i64 1, .int .i64 (-1)] 3)) (0 + k)
  rw [h]
  match k, hk with
  | 0, _ => rfl
  | 1, _ => rfl

end Go.Proofs.YtjbcgahdiolhhaaGreatDoor
