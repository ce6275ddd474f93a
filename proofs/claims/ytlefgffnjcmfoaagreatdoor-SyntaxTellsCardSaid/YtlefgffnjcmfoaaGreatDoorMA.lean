/- Several texts in one: Lx, Ly, Lz, Sy, Sg, Sh, Si, Sj, Sk. -/
import Init
import Derived.Lib.ItoaLen
namespace Go.Proofs.YtlefgffnjcmfoaaGreatDoor
namespace Lx
abbrev S := List UInt8
def blank (c : UInt8) : Bool := c == 9 || c == 10 || c == 32
def letter (c : UInt8) : Bool := decide (97 ≤ c.toNat ∧ c.toNat ≤ 122)
def digit (c : UInt8) : Bool := decide (48 ≤ c.toNat ∧ c.toNat ≤ 57)
def alnum (c : UInt8) : Bool := letter c || digit c
def val (s : S) : Nat := s.foldl (fun n c => 10 * n + (c.toNat - 48)) 0
def numOk (s : S) : Bool := s != [] && s.all digit && (decide (s.length ≤ 1) || s.head? != some 48) && decide (val s ≤ 1099511627776)
def wordOk (s : S) : Bool := decide (s.length ≤ 20) && (match s with | [] => false | c :: r => letter c && r.all alnum)
structure Tk where
  kind : Int
  text : S
  n : Int
  pos : Int
deriving DecidableEq
/-- The token at the beginning of a text that does not begin with a blank. -/
def tok : S → Except Int (Int × S × Int)
  | [] => .error 10
  | c :: r => if letter c = true then (if (c :: r.takeWhile alnum).length ≤ 20 then .ok (0, c :: r.takeWhile alnum, 0) else .error 11)
    else if digit c = true then (if numOk (c :: r.takeWhile digit) = true then .ok (1, c :: r.takeWhile digit, (val (c :: r.takeWhile digit) : Int)) else .error 3)
    else if c = 59 then .ok (2, [59], 0) else .error 10
theorem tok_cons (c : UInt8) (r : S) : tok (c :: r) = if letter c = true then (if (c :: r.takeWhile alnum).length ≤ 20 then .ok (0, c :: r.takeWhile alnum, 0) else .error 11)
    else if digit c = true then (if numOk (c :: r.takeWhile digit) = true then .ok (1, c :: r.takeWhile digit, (val (c :: r.takeWhile digit) : Int)) else .error 3)
    else if c = 59 then .ok (2, [59], 0) else .error 10 := rfl
/-- The tokens from position p on, or where the first error is. -/
def lexF : Nat → S → Int → Except (Int × Int) (List Tk)
  | _, [], p => .ok [⟨3, [], 0, p⟩]
  | 0, _ :: _, p => .error (p, 0)
  | f + 1, c :: r, p => if blank c = true then lexF f r (p + 1) else
    match tok (c :: r) with
    | .error e => .error (p, e)
    | .ok (k, w, n) => match lexF f ((c :: r).drop w.length) (p + w.length) with
      | .ok ts => .ok (⟨k, w, n, p⟩ :: ts)
      | .error e => .error e
def lex (s : S) (p : Int) : Except (Int × Int) (List Tk) := lexF s.length s p
def text : List Tk → S
  | [] => []
  | [t] => t.text
  | t :: u :: l => t.text ++ 32 :: text (u :: l)
theorem blank_not {c : UInt8} (h : blank c = true) : alnum c = false ∧ digit c = false ∧ letter c = false := by
  unfold blank at h
  simp only [Bool.or_eq_true, beq_iff_eq] at h
  rcases h with (rfl | rfl) | rfl <;> decide
theorem tw_pre {q : UInt8 → Bool} (r : S) : ∃ d, r = r.takeWhile q ++ d ∧ ∀ c, d.head? = some c → q c = false := by
  refine ⟨r.dropWhile q, List.takeWhile_append_dropWhile.symm, fun c hc => ?_⟩
  have := List.head?_dropWhile_not q r
  rw [hc] at this
  simpa using this
/-- What a token is. -/
theorem tok_pre {s w : S} {k n : Int} (h : tok s = .ok (k, w, n)) : ∃ d, s = w ++ d ∧ w ≠ [] := by
  cases s with
  | nil => cases h
  | cons c r =>
    rw [tok_cons] at h
    split at h
    · split at h
      · cases h
        obtain ⟨d, hd, _⟩ := tw_pre (q := alnum) r
        exact ⟨d, by rw [List.cons_append, ← hd], by simp⟩
      · cases h
    · split at h
      · split at h
        · cases h
          obtain ⟨d, hd, _⟩ := tw_pre (q := digit) r
          exact ⟨d, by rw [List.cons_append, ← hd], by simp⟩
        · cases h
      · split at h
        · rename_i hc
          cases h
          exact ⟨r, by rw [hc]; rfl, by simp⟩
        · cases h
theorem tok_len {s w : S} {k n : Int} (h : tok s = .ok (k, w, n)) : 0 < w.length ∧ w.length ≤ s.length ∧ w ++ s.drop w.length = s := by
  obtain ⟨d, rfl, hw⟩ := tok_pre h
  exact ⟨List.length_pos_iff.2 hw, by simp, by rw [List.drop_left]⟩
/-- Enough fuel. -/
theorem lexF_enough : ∀ (f g : Nat) (s : S) (p : Int), s.length ≤ f → s.length ≤ g → lexF f s p = lexF g s p
  | _, _, [], _, _, _ => by simp [lexF]
  | 0, _, c :: r, _, h, _ => by simp at h
  | _, 0, c :: r, _, _, h => by simp at h
  | f + 1, g + 1, c :: r, p, hf, hg => by
    simp only [List.length_cons] at hf hg
    unfold lexF
    split
    · exact lexF_enough f g r _ (by omega) (by omega)
    · cases ht : tok (c :: r) with
      | error e => rfl
      | ok v =>
        obtain ⟨k, w, n⟩ := v
        have hl := tok_len ht
        have hd : ((c :: r).drop w.length).length ≤ r.length := by rw [List.length_drop, List.length_cons]; omega
        simp only
        rw [lexF_enough f g _ _ (by omega) (by omega)]
theorem lex_nil (p : Int) : lex [] p = .ok [⟨3, [], 0, p⟩] := rfl
theorem lex_blank {c : UInt8} {r : S} {p : Int} (h : blank c = true) : lex (c :: r) p = lex r (p + 1) := by
  show lexF (r.length + 1) (c :: r) p = _
  unfold lexF
  rw [if_pos h]; rfl
theorem lex_bad {c : UInt8} {r : S} {p e : Int} (h : ¬ blank c = true) (ht : tok (c :: r) = .error e) : lex (c :: r) p = .error (p, e) := by
  show lexF (r.length + 1) (c :: r) p = _
  unfold lexF
  rw [if_neg h, ht]
theorem lex_tok {c : UInt8} {r w : S} {k n p : Int} (h : ¬ blank c = true) (ht : tok (c :: r) = .ok (k, w, n)) :
    lex (c :: r) p = (match lex ((c :: r).drop w.length) (p + w.length) with | .ok ts => .ok (⟨k, w, n, p⟩ :: ts) | .error e => .error e) := by
  have hl := tok_len ht
  have hd : ((c :: r).drop w.length).length ≤ r.length := by rw [List.length_drop, List.length_cons]; omega
  show lexF (r.length + 1) (c :: r) p = _
  unfold lexF
  rw [if_neg h, ht]
  simp only
  rw [lexF_enough r.length ((c :: r).drop w.length).length _ _ hd (Nat.le_refl _)]
  rfl
/-! ### Induction along the tokens -/
theorem lex_ind {P : S → Prop} (h0 : P []) (h1 : ∀ c r, blank c = true → P r → P (c :: r)) (h2 : ∀ c r e, ¬ blank c = true → tok (c :: r) = .error e → P (c :: r))
    (h3 : ∀ c r k w n, ¬ blank c = true → tok (c :: r) = .ok (k, w, n) → P ((c :: r).drop w.length) → P (c :: r)) : ∀ s, P s := by
  have key : ∀ m : Nat, ∀ s : S, s.length ≤ m → P s := by
    intro m
    induction m with
    | zero =>
      intro s hs
      cases s with
      | nil => exact h0
      | cons c r => simp at hs
    | succ m ih =>
      intro s hs
      cases s with
      | nil => exact h0
      | cons c r =>
        simp only [List.length_cons] at hs
        by_cases hb : blank c = true
        · exact h1 c r hb (ih r (by omega))
        · cases ht : tok (c :: r) with
          | error e => exact h2 c r e hb ht
          | ok v =>
            obtain ⟨k, w, n⟩ := v
            have hl := tok_len ht
            exact h3 c r k w n hb ht (ih _ (by rw [List.length_drop, List.length_cons]; omega))
  exact fun s => key s.length s (Nat.le_refl _)
end Lx
end Go.Proofs.YtlefgffnjcmfoaaGreatDoor
namespace Go.Proofs.YtlefgffnjcmfoaaGreatDoor
namespace Lx
theorem tw_append {q : UInt8 → Bool} {y : S} (hy : ∀ d, y.head? = some d → q d = false) : ∀ r : S, (r ++ y).takeWhile q = r.takeWhile q
  | [] => by
    cases y with
    | nil => rfl
    | cons d y => rw [List.nil_append, List.takeWhile_cons_of_neg (by rw [hy d rfl]; simp)]; rfl
  | c :: r => by
    rw [List.cons_append]
    by_cases h : q c = true
    · rw [List.takeWhile_cons_of_pos h, List.takeWhile_cons_of_pos h, tw_append hy r]
    · rw [List.takeWhile_cons_of_neg h, List.takeWhile_cons_of_neg h]
theorem tw_take {q : UInt8 → Bool} : ∀ (r : S) (j : Nat), (r.takeWhile q).length ≤ j → (r.take j).takeWhile q = r.takeWhile q
  | [], j, _ => by simp
  | c :: r, 0, h => by
    by_cases hq : q c = true
    · rw [List.takeWhile_cons_of_pos hq] at h; simp at h
    · rw [List.takeWhile_cons_of_neg hq]; rfl
  | c :: r, j + 1, h => by
    rw [List.take_succ_cons]
    by_cases hq : q c = true
    · rw [List.takeWhile_cons_of_pos hq] at h ⊢
      rw [List.takeWhile_cons_of_pos hq, tw_take r j (by simpa using h)]
    · rw [List.takeWhile_cons_of_neg hq, List.takeWhile_cons_of_neg hq]
theorem not_digit {d : UInt8} (h : alnum d = false) : digit d = false := by
  unfold alnum at h; rw [Bool.or_eq_false_iff] at h; exact h.2
/-- What follows a token does not matter, if no letter and no digit is first. -/
theorem tok_append {c : UInt8} {r y : S} (hy : ∀ d, y.head? = some d → alnum d = false) : tok (c :: (r ++ y)) = tok (c :: r) := by
  rw [tok_cons, tok_cons, tw_append hy, tw_append (q := digit) fun d hd => not_digit (hy d hd)]
theorem tok_take {c : UInt8} {r w : S} {k n : Int} (h : tok (c :: r) = .ok (k, w, n)) (j : Nat) (hj : w.length ≤ j + 1) : tok (c :: r.take j) = .ok (k, w, n) := by
  rw [tok_cons] at h ⊢
  by_cases h1 : letter c = true
  · rw [if_pos h1] at h ⊢
    by_cases h2 : (c :: r.takeWhile alnum).length ≤ 20
    · rw [if_pos h2] at h
      cases h
      rw [tw_take r j (by simpa using hj), if_pos h2]
    · rw [if_neg h2] at h; cases h
  · rw [if_neg h1] at h ⊢
    by_cases h3 : digit c = true
    · rw [if_pos h3] at h ⊢
      by_cases h2 : numOk (c :: r.takeWhile digit) = true
      · rw [if_pos h2] at h
        cases h
        rw [tw_take r j (by simpa using hj), if_pos h2]
      · rw [if_neg h2] at h; cases h
    · rw [if_neg h3] at h ⊢; exact h
/-- A token alone. -/
theorem tok_self {s w : S} {k n : Int} (h : tok s = .ok (k, w, n)) : tok w = .ok (k, w, n) := by
  have hl := tok_len h
  cases s with
  | nil => cases h
  | cons c r =>
    obtain ⟨d, hd, hw⟩ := tok_pre h
    cases w with
    | nil => exact (hw rfl).elim
    | cons x w =>
      rw [List.cons_append] at hd
      obtain ⟨rfl, rfl⟩ := List.cons.inj hd
      have := tok_take h w.length (by simp)
      rwa [List.take_left] at this
theorem tok_head {s w : S} {k n : Int} (h : tok s = .ok (k, w, n)) : ∃ c r, s = c :: r ∧ w.head? = some c := by
  obtain ⟨d, rfl, hw⟩ := tok_pre h
  cases w with
  | nil => exact (hw rfl).elim
  | cons x w => exact ⟨x, w ++ d, rfl, rfl⟩
theorem lex_ne {s : S} : ∀ {p : Int} {ts : List Tk}, lex s p = .ok ts → ts ≠ [] := by
  induction s using lex_ind with
  | h0 => intro p ts h; cases h; simp
  | h1 c r hb ih => intro p ts h; rw [lex_blank hb] at h; exact ih h
  | h2 c r e hb ht => intro p ts h; rw [lex_bad hb ht] at h; cases h
  | h3 c r k w n hb ht ih =>
    intro p ts h
    rw [lex_tok hb ht] at h
    split at h
    · cases h; simp
    · cases h
/-- Two texts with a blank between them. -/
theorem lex_join {b : UInt8} (hb : blank b = true) (y x : S) : ∀ p : Int, lex (x ++ b :: y) p = (match lex x p with
    | .error e => .error e
    | .ok ts => match lex y (p + x.length + 1) with
      | .error e => .error e
      | .ok us => .ok (ts.dropLast ++ us)) := by
  have hy : ∀ d, (b :: y).head? = some d → alnum d = false := fun d hd => by cases hd; exact (blank_not hb).1
  induction x using lex_ind with
  | h0 =>
    intro p
    rw [List.nil_append, lex_blank hb, lex_nil]
    simp only [List.length_nil]
    rw [show p + ((0 : Nat) : Int) + 1 = p + 1 by omega]
    cases lex y (p + 1) <;> rfl
  | h1 c r hc ih =>
    intro p
    rw [List.cons_append, lex_blank hc, lex_blank hc, ih, List.length_cons]
    rw [show p + 1 + (r.length : Int) + 1 = p + ((r.length + 1 : Nat) : Int) + 1 by omega]
  | h2 c r e hc ht =>
    intro p
    rw [List.cons_append, lex_bad hc (by rw [tok_append hy]; exact ht), lex_bad hc ht]
  | h3 c r k w n hc ht ih =>
    intro p
    have hl := tok_len ht
    rw [List.cons_append, lex_tok hc (by rw [tok_append hy]; exact ht), lex_tok hc ht, ← List.cons_append, List.drop_append_of_le_length hl.2.1, ih]
    have e : p + (w.length : Int) + (((c :: r).drop w.length).length : Int) + 1 = p + ((c :: r).length : Int) + 1 := by rw [List.length_drop]; omega
    rw [e]
    cases hd : lex ((c :: r).drop w.length) (p + w.length) with
    | error e => rfl
    | ok ts =>
      simp only
      cases lex y (p + ((c :: r).length : Int) + 1) with
      | error e => rfl
      | ok us =>
        simp only
        rw [List.dropLast_cons_of_ne_nil (lex_ne hd), List.cons_append]
/-- The same, so many bytes later. -/
def later (d : Int) (t : Tk) : Tk := ⟨t.kind, t.text, t.n, t.pos + d⟩
theorem lex_shift (d : Int) (s : S) : ∀ p : Int, lex s (p + d) = (match lex s p with | .error (i, e) => .error (i + d, e) | .ok ts => .ok (ts.map (later d))) := by
  induction s using lex_ind with
  | h0 => intro p; rfl
  | h1 c r hc ih => intro p; rw [lex_blank hc, lex_blank hc, show p + d + 1 = p + 1 + d by omega, ih]
  | h2 c r e hc ht => intro p; rw [lex_bad hc ht, lex_bad hc ht]
  | h3 c r k w n hc ht ih =>
    intro p
    rw [lex_tok hc ht, lex_tok hc ht, show p + d + (w.length : Int) = p + w.length + d by omega, ih]
    cases lex ((c :: r).drop w.length) (p + w.length) with
    | error v => rfl
    | ok ts => rfl
/-- What precedes an error, and what begins there. -/
theorem lex_error {s : S} : ∀ {p i e : Int}, lex s p = .error (i, e) → ∃ m : Nat, i = p + m ∧ m < s.length ∧ (∃ ts, lex (s.take m) p = .ok ts) ∧ (∀ q, lex (s.drop m) q = .error (q, e)) ∧ (e = 10 ∨ e = 11 ∨ e = 3) := by
  induction s using lex_ind with
  | h0 => intro p i e h; cases h
  | h1 c r hc ih =>
    intro p i e h
    rw [lex_blank hc] at h
    obtain ⟨m, h1, h2, ⟨ts, h3⟩, h4⟩ := ih h
    exact ⟨m + 1, by omega, by simpa using h2, ⟨ts, by rw [List.take_succ_cons, lex_blank hc]; exact h3⟩, h4⟩
  | h2 c r e' hc ht =>
    intro p i e h
    rw [lex_bad hc ht] at h
    cases h
    refine ⟨0, by omega, by simp, ⟨_, rfl⟩, fun q => lex_bad hc ht, ?_⟩
    rw [tok_cons] at ht
    split at ht
    · split at ht
      · cases ht
      · cases ht; simp
    · split at ht
      · split at ht
        · cases ht
        · cases ht; simp
      · split at ht
        · cases ht
        · cases ht; simp
  | h3 c r k w n hc ht ih =>
    intro p i e h
    rw [lex_tok hc ht] at h
    have hl := tok_len ht
    cases hd : lex ((c :: r).drop w.length) (p + w.length) with
    | ok ts => rw [hd] at h; cases h
    | error v =>
      obtain ⟨i', e'⟩ := v
      rw [hd] at h
      cases h
      obtain ⟨m, h1, h2, ⟨ts, h3⟩, h4, h5⟩ := ih hd
      rw [List.length_drop] at h2
      refine ⟨w.length + m, by omega, by omega, ?_, fun q => by rw [← List.drop_drop]; exact h4 q, h5⟩
      obtain ⟨j, hj⟩ : ∃ j, w.length + m = j + 1 := ⟨w.length + m - 1, by omega⟩
      have htk : tok (c :: r.take j) = .ok (k, w, n) := tok_take ht j (by omega)
      rw [hj, List.take_succ_cons, lex_tok hc htk, ← List.take_succ_cons, ← hj, List.drop_take, show w.length + m - w.length = m by omega, h3]
      exact ⟨_, rfl⟩
end Lx
end Go.Proofs.YtlefgffnjcmfoaaGreatDoor
namespace Go.Proofs.YtlefgffnjcmfoaaGreatDoor
namespace Lx
/-- The tokens of t from byte e on, one after the other, with blanks between them. -/
inductive Placed (t : S) : Nat → List Tk → Prop
  | last {e : Nat} : e ≤ t.length → (∀ k c, e ≤ k → t[k]? = some c → blank c = true) → Placed t e [⟨3, [], 0, (t.length : Int)⟩]
  | more {e p : Nat} {k n : Int} {w : S} {ts : List Tk} : e ≤ p → w ≠ [] → k ≠ 3 → (k ≠ 1 → n = 0) → (t.drop p).take w.length = w → p + w.length ≤ t.length → (∀ j c, e ≤ j → j < p → t[j]? = some c → blank c = true) →
      Placed t (p + w.length) ts → Placed t e (⟨k, w, n, (p : Int)⟩ :: ts)
theorem tok_kind {s w : S} {k n : Int} (h : tok s = .ok (k, w, n)) : k ≠ 3 ∧ (k ≠ 1 → n = 0) ∧ (0 ≤ k ∧ k ≤ 2) := by
  cases s with
  | nil => cases h
  | cons c r =>
    rw [tok_cons] at h
    split at h
    · split at h
      · cases h; simp
      · cases h
    · split at h
      · split at h
        · cases h; simp
        · cases h
      · split at h
        · cases h; simp
        · cases h
theorem drop_head {t r : S} {c : UInt8} {j : Nat} (h : t.drop j = c :: r) : t[j]? = some c ∧ t.drop (j + 1) = r ∧ j < t.length := by
  have h1 : t[j]? = some c := by
    have : (t.drop j)[0]? = some c := by rw [h]; rfl
    rwa [List.getElem?_drop, Nat.add_zero] at this
  refine ⟨h1, ?_, (List.getElem?_eq_some_iff.1 h1).1⟩
  rw [← List.drop_drop, h]; rfl
theorem placed_of {t : S} : ∀ (s : S) (e j : Nat) (ts : List Tk), t.drop j = s → e ≤ j → j ≤ t.length → (∀ i c, e ≤ i → i < j → t[i]? = some c → blank c = true) → lex s (j : Int) = .ok ts → Placed t e ts := by
  intro s
  induction s using lex_ind with
  | h0 =>
    intro e j ts hs hej hj hb h
    have hjl : j = t.length := by
      have := congrArg List.length hs
      rw [List.length_drop, List.length_nil] at this
      omega
    cases h
    subst hjl
    exact .last hej fun k c hk hc => hb k c hk (List.getElem?_eq_some_iff.1 hc).1 hc
  | h1 c r hc ih =>
    intro e j ts hs hej hj hb h
    obtain ⟨h1, h2, h3⟩ := drop_head hs
    rw [lex_blank hc] at h
    refine ih e (j + 1) ts h2 (by omega) (by omega) (fun i d hi hij hd => ?_) (by rw [← h]; congr 1)
    by_cases he : i = j
    · subst he; rw [h1] at hd; cases hd; exact hc
    · exact hb i d hi (by omega) hd
  | h2 c r e' hc ht =>
    intro e j ts hs hej hj hb h
    rw [lex_bad hc ht] at h; cases h
  | h3 c r k w n hc ht ih =>
    intro e j ts hs hej hj hb h
    rw [lex_tok hc ht] at h
    have hl := tok_len ht
    have hk := tok_kind ht
    have hlen : (c :: r).length = t.length - j := by rw [← hs, List.length_drop]
    cases hd : lex ((c :: r).drop w.length) ((j : Int) + w.length) with
    | error v => rw [hd] at h; cases h
    | ok us =>
      rw [hd] at h
      cases h
      refine .more hej (fun q => by rw [q] at hl; simp at hl) hk.1 hk.2.1 ?_ (by omega) hb (ih (j + w.length) (j + w.length) us (by rw [← List.drop_drop, hs]) (Nat.le_refl _) (by omega) (fun i c h1 h2 => by omega) (by rw [← hd]; congr 1))
      rw [hs]
      have := hl.2.2
      conv => lhs; rw [← this]
      exact List.take_left
/-! ### The text of tokens -/
def glue : List S → S
  | [] => []
  | [w] => w
  | w :: v :: l => w ++ 32 :: glue (v :: l)
def textOf (l : List Tk) : S := glue ((l.filter fun t => t.kind != 3).map (·.text))
theorem glue_cons {w : S} {l : List S} (h : l ≠ []) : glue (w :: l) = w ++ 32 :: glue l := by
  cases l with
  | nil => exact (h rfl).elim
  | cons v l => rfl
/-- Equal apart from positions. -/
def like (a b : Tk) : Prop := a.kind = b.kind ∧ a.text = b.text ∧ a.n = b.n
inductive Likes : List Tk → List Tk → Prop
  | nil : Likes [] []
  | cons {a b : Tk} {l m : List Tk} : like a b → Likes l m → Likes (a :: l) (b :: m)
theorem tok_nb {s w : S} {k n : Int} (h : tok s = .ok (k, w, n)) : ∃ c r, w = c :: r ∧ ¬ blank c = true := by
  have hs := tok_self h
  cases w with
  | nil => have q := (tok_len h).1; simp at q
  | cons c r =>
    refine ⟨c, r, rfl, fun hb => ?_⟩
    have hn := blank_not hb
    rw [tok_cons, if_neg (by rw [hn.2.2]; simp), if_neg (by rw [hn.2.1]; simp)] at hs
    have : ¬ c = 59 := fun e => by rw [e] at hb; revert hb; decide
    rw [if_neg this] at hs; cases hs
/-- A token alone, and the end. -/
theorem lex_self {s w : S} {k n : Int} (h : tok s = .ok (k, w, n)) (p : Int) : lex w p = .ok [⟨k, w, n, p⟩, ⟨3, [], 0, p + w.length⟩] := by
  obtain ⟨c, r, rfl, hb⟩ := tok_nb h
  rw [lex_tok hb (tok_self h), List.drop_length, lex_nil]
/-- What lexing gives: tokens, each by itself one, and the end. -/
theorem lex_toks {s : S} : ∀ {p : Int} {ts : List Tk}, lex s p = .ok ts → ∃ us, ts = us ++ [⟨3, [], 0, p + s.length⟩] ∧ ∀ t ∈ us, tok t.text = .ok (t.kind, t.text, t.n) := by
  induction s using lex_ind with
  | h0 => intro p ts h; cases h; exact ⟨[], by simp, fun t ht => by cases ht⟩
  | h1 c r hb ih =>
    intro p ts h
    rw [lex_blank hb] at h
    obtain ⟨us, h1, h2⟩ := ih h
    refine ⟨us, ?_, h2⟩
    rw [h1, List.length_cons, show p + 1 + (r.length : Int) = p + ((r.length + 1 : Nat) : Int) by omega]
  | h2 c r e hb ht => intro p ts h; rw [lex_bad hb ht] at h; cases h
  | h3 c r k w n hb ht ih =>
    intro p ts h
    rw [lex_tok hb ht] at h
    have hl := tok_len ht
    cases hd : lex ((c :: r).drop w.length) (p + w.length) with
    | error v => rw [hd] at h; cases h
    | ok vs =>
      rw [hd] at h
      cases h
      obtain ⟨us, h1, h2⟩ := ih hd
      refine ⟨⟨k, w, n, p⟩ :: us, ?_, fun t ht' => ?_⟩
      · rw [h1, List.cons_append, List.length_drop, show p + (w.length : Int) + (((c :: r).length - w.length : Nat) : Int) = p + ((c :: r).length : Int) by omega]
      · rcases List.mem_cons.1 ht' with rfl | q
        · exact tok_self ht
        · exact h2 t q
theorem text_end {us : List Tk} {q : Int} (h : ∀ t ∈ us, tok t.text = .ok (t.kind, t.text, t.n)) : textOf (us ++ [⟨3, [], 0, q⟩]) = glue (us.map (·.text)) := by
  unfold textOf
  have e : (us ++ [(⟨3, [], 0, q⟩ : Tk)]).filter (fun t => t.kind != 3) = us := by
    rw [List.filter_append, List.filter_eq_self.2 fun t ht => by
      have := (tok_kind (h t ht)).1
      simpa using this]
    simp
  rw [e]
theorem lex_glue : ∀ {us : List Tk}, (∀ t ∈ us, tok t.text = .ok (t.kind, t.text, t.n)) → ∀ p : Int, ∃ vs, lex (glue (us.map (·.text))) p = .ok (vs ++ [⟨3, [], 0, p + (glue (us.map (·.text))).length⟩]) ∧ Likes us vs
  | [], _, p => ⟨[], by show lex [] p = _; rw [lex_nil]; simp [glue], .nil⟩
  | [u], h, p => ⟨[⟨u.kind, u.text, u.n, p⟩], by show lex u.text p = _; rw [lex_self (h u (by simp)) p]; rfl, .cons ⟨rfl, rfl, rfl⟩ .nil⟩
  | u :: v :: us, h, p => by
    have hu := lex_self (h u (by simp)) p
    obtain ⟨vs, h1, h2⟩ := @lex_glue (v :: us) (fun t ht => h t (by simp [List.mem_cons] at ht ⊢; exact .inr ht)) (p + u.text.length + 1)
    have e : glue ((u :: v :: us).map (·.text)) = u.text ++ 32 :: glue ((v :: us).map (·.text)) := rfl
    refine ⟨⟨u.kind, u.text, u.n, p⟩ :: vs, ?_, .cons ⟨rfl, rfl, rfl⟩ h2⟩
    rw [e, lex_join (by decide), hu]
    simp only
    rw [h1]
    simp only [List.dropLast_cons_cons, List.dropLast_singleton, List.cons_append, List.nil_append, List.length_append, List.length_cons]
    congr 5
    omega
theorem likes_text {l m : List Tk} (h : Likes l m) : l.map (·.text) = m.map (·.text) ∧ l.length = m.length := by
  induction h with
  | nil => exact ⟨rfl, rfl⟩
  | cons hl _ ih => exact ⟨by rw [List.map_cons, List.map_cons, ih.1, hl.2.1], by simp [ih.2]⟩
theorem likes_tok {l m : List Tk} (h : Likes l m) (ht : ∀ t ∈ l, tok t.text = .ok (t.kind, t.text, t.n)) : ∀ t ∈ m, tok t.text = .ok (t.kind, t.text, t.n) := by
  induction h with
  | nil => exact fun t h => by cases h
  | cons hl _ ih =>
    intro t hm
    rcases List.mem_cons.1 hm with rfl | q
    · have := ht _ (List.mem_cons_self ..)
      rw [hl.1, hl.2.1, hl.2.2] at this; exact this
    · exact ih (fun t h => ht t (List.mem_cons_of_mem _ h)) t q
theorem likes_snoc {l m : List Tk} {a b : Tk} (h : Likes l m) (k : like a b) : Likes (l ++ [a]) (m ++ [b]) := by
  induction h with
  | nil => exact .cons k .nil
  | cons hl _ ih => exact .cons hl ih
/-- The text of the tokens has the same tokens, and is its own text. -/
theorem lex_back {s : S} {ts : List Tk} {p : Int} (h : lex s p = .ok ts) : ∃ us, lex (textOf ts) 0 = .ok us ∧ Likes ts us ∧ textOf us = textOf ts := by
  obtain ⟨us, rfl, ht⟩ := lex_toks h
  obtain ⟨vs, h1, h2⟩ := lex_glue ht 0
  rw [text_end ht]
  refine ⟨_, h1, likes_snoc h2 ⟨rfl, rfl, rfl⟩, ?_⟩
  rw [text_end (likes_tok h2 ht), (likes_text h2).1]
/-! ### Words and numbers -/
theorem tw_all {q : UInt8 → Bool} {r : S} (h : r.all q = true) : r.takeWhile q = r := by
  induction r with
  | nil => rfl
  | cons c r ih =>
    simp only [List.all_cons, Bool.and_eq_true] at h
    rw [List.takeWhile_cons_of_pos h.1, ih h.2]
theorem all_tw {q : UInt8 → Bool} (r : S) : (r.takeWhile q).all q = true := by
  induction r with
  | nil => rfl
  | cons c r ih =>
    by_cases h : q c = true
    · rw [List.takeWhile_cons_of_pos h, List.all_cons, h, ih]; rfl
    · rw [List.takeWhile_cons_of_neg h]; rfl
theorem letter_not {c : UInt8} (h : letter c = true) : digit c = false := by
  unfold letter at h; unfold digit
  have := of_decide_eq_true h
  exact decide_eq_false (by omega)
theorem word_tok {s : S} (h : wordOk s = true) : tok s = .ok (0, s, 0) := by
  cases s with
  | nil => simp [wordOk] at h
  | cons c r =>
    simp only [wordOk, Bool.and_eq_true, decide_eq_true_eq] at h
    rw [tok_cons, if_pos h.2.1, tw_all h.2.2, if_pos h.1]
theorem num_tok {s : S} (h : numOk s = true) : tok s = .ok (1, s, (val s : Int)) := by
  cases s with
  | nil => simp [numOk] at h
  | cons c r =>
    have hn := h
    simp only [numOk, Bool.and_eq_true, List.all_cons] at h
    have hd : digit c = true := h.1.1.2.1
    have hl : ¬ letter c = true := fun q => by rw [letter_not q] at hd; cases hd
    rw [tok_cons, if_neg hl, if_pos hd, tw_all h.1.1.2.2, if_pos hn]
theorem tok_word {s w : S} {n : Int} (h : tok s = .ok (0, w, n)) : wordOk w = true := by
  cases s with
  | nil => cases h
  | cons c r =>
    rw [tok_cons] at h
    split at h
    · rename_i hl
      split at h
      · rename_i h2
        cases h
        simp only [wordOk, Bool.and_eq_true, decide_eq_true_eq]
        exact ⟨h2, hl, all_tw r⟩
      · cases h
    · split at h
      · split at h
        · simp at h
        · cases h
      · split at h
        · simp at h
        · cases h
theorem tok_num {s w : S} {n : Int} (h : tok s = .ok (1, w, n)) : numOk w = true ∧ n = (val w : Int) := by
  cases s with
  | nil => cases h
  | cons c r =>
    rw [tok_cons] at h
    split at h
    · split at h
      · simp at h
      · cases h
    · split at h
      · split at h
        · rename_i h2
          cases h
          exact ⟨h2, rfl⟩
        · cases h
      · split at h
        · simp at h
        · cases h
end Lx
end Go.Proofs.YtlefgffnjcmfoaaGreatDoor
namespace Go.Proofs.YtlefgffnjcmfoaaGreatDoor
namespace Sy
open Lx
variable {α β : Type}
/-- What is left to read, or the tokens from the first error on, and its number. -/
abbrev R := Except (List Tk × Int) (List Tk)
abbrev B := Int × S × Int
def br (t : Tk) : B := (t.kind, t.text, t.n)
def hd (l : List Tk) : Option B := l.head?.map br
def hdR : R → Option B
  | .ok l => hd l
  | .error _ => none
/-- A reader of one token. -/
def tokR (f : B → Except Int α) (z : α) : R → α × R
  | .ok (t :: l) => match f (br t) with
    | .ok a => (a, .ok l)
    | .error e => (z, .error (t :: l, e))
  | .ok [] => (z, .error ([], 12))
  | .error e => (z, .error e)
def bindR (f : R → α × R) (g : α → R → β × R) (r : R) : β × R := g (f r).1 (f r).2
def retR (a : α) (r : R) : α × R := (a, r)
def failR (z : α) (e : Int) : R → α × R
  | .ok l => (z, .error (l, e))
  | .error x => (z, .error x)
def iffR (q : Option B → Bool) (f g : R → α × R) (r : R) : α × R := if q (hdR r) then f r else g r
/-- A reader looks at what it reads and at the next token alone, and reads no end. -/
def Loc (f : R → α × R) : Prop := (∀ e, (f (.error e)).2 = .error e) ∧ ∀ l, ∃ pre r, l = pre ++ r ∧ (∀ t ∈ pre, t.kind ≠ 3) ∧
  ((∃ a, f (.ok l) = (a, .ok r) ∧ ∀ pre' r', pre'.map br = pre.map br → hd r' = hd r → f (.ok (pre' ++ r')) = (a, .ok r')) ∨
   (∃ a e, f (.ok l) = (a, .error (r, e)) ∧ ∀ pre' r', pre'.map br = pre.map br → hd r' = hd r → ∃ a', f (.ok (pre' ++ r')) = (a', .error (r', e))))
theorem hd_append {pre pre' r r' : List Tk} (h : pre'.map br = pre.map br) (h2 : hd r' = hd r) : hd (pre' ++ r') = hd (pre ++ r) := by
  cases pre with
  | nil => cases pre' with
    | nil => exact h2
    | cons t l => simp at h
  | cons t l => cases pre' with
    | nil => simp at h
    | cons t' l' =>
      rw [List.map_cons, List.map_cons] at h
      simp only [List.cons_append, hd, List.head?_cons, Option.map_some]
      rw [(List.cons.inj h).1]
theorem loc_tok {f : B → Except Int α} {z : α} (hf : ∀ b a, f b = .ok a → b.1 ≠ 3) : Loc (tokR f z) := by
  refine ⟨fun e => rfl, fun l => ?_⟩
  cases l with
  | nil =>
    refine ⟨[], [], rfl, fun t ht => (by cases ht), .inr ⟨z, 12, rfl, fun pre' r' h h2 => ?_⟩⟩
    have : pre' = [] := List.map_eq_nil_iff.1 h
    subst this
    cases r' with
    | nil => exact ⟨z, rfl⟩
    | cons t l => simp [hd] at h2
  | cons t l =>
    cases ht : f (br t) with
    | ok a =>
      refine ⟨[t], l, rfl, fun u hu => ?_, .inl ⟨a, by simp only [tokR, ht], fun pre' r' h h2 => ?_⟩⟩
      · simp at hu; subst hu; exact hf _ _ ht
      · cases pre' with
        | nil => simp at h
        | cons u k =>
          rw [List.map_cons, List.map_cons] at h
          obtain ⟨h3, h4⟩ := List.cons.inj h
          have : k = [] := List.map_eq_nil_iff.1 h4
          subst this
          simp only [List.cons_append, List.nil_append, tokR, h3, ht]
    | error e =>
      refine ⟨[], t :: l, rfl, fun u hu => (by cases hu), .inr ⟨z, e, by simp only [tokR, ht], fun pre' r' h h2 => ?_⟩⟩
      have : pre' = [] := List.map_eq_nil_iff.1 h
      subst this
      cases r' with
      | nil => simp [hd] at h2
      | cons u k =>
        simp only [hd, List.head?_cons, Option.map_some, Option.some.injEq] at h2
        exact ⟨z, by simp only [List.nil_append, tokR, h2, ht]⟩
theorem loc_ret (a : α) : Loc (retR a) := ⟨fun _ => rfl, fun l => ⟨[], l, rfl, fun t ht => (by cases ht), .inl ⟨a, rfl, fun pre' r' h _ => by
  have : pre' = [] := List.map_eq_nil_iff.1 h
  subst this; rfl⟩⟩⟩
theorem loc_fail (z : α) (e : Int) : Loc (failR z e) := ⟨fun _ => rfl, fun l => ⟨[], l, rfl, fun t ht => (by cases ht), .inr ⟨z, e, rfl, fun pre' r' h _ => by
  have : pre' = [] := List.map_eq_nil_iff.1 h
  subst this; exact ⟨z, rfl⟩⟩⟩⟩
theorem loc_bind {f : R → α × R} {g : α → R → β × R} (hf : Loc f) (hg : ∀ a, Loc (g a)) : Loc (bindR f g) := by
  refine ⟨fun e => by unfold bindR; rw [hf.1 e]; exact (hg _).1 e, fun l => ?_⟩
  obtain ⟨pre, r, rfl, h1, ⟨a, h2, h3⟩ | ⟨a, e, h2, h3⟩⟩ := hf.2 l
  · obtain ⟨pre2, r2, rfl, k1, ⟨b, k2, k3⟩ | ⟨b, e, k2, k3⟩⟩ := (hg a).2 r
    · refine ⟨pre ++ pre2, r2, by rw [List.append_assoc], fun t ht => (List.mem_append.1 ht).elim (h1 t) (k1 t), .inl ⟨b, ?_, fun pre' r' h hr => ?_⟩⟩
      · unfold bindR; rw [h2]; exact k2
      · rw [List.map_append] at h
        obtain ⟨p1, p2, rfl, q1, q2⟩ := List.map_eq_append_iff.1 h
        unfold bindR
        rw [List.append_assoc, h3 p1 (p2 ++ r') q1 (hd_append q2 hr)]
        exact k3 p2 r' q2 hr
    · refine ⟨pre ++ pre2, r2, by rw [List.append_assoc], fun t ht => (List.mem_append.1 ht).elim (h1 t) (k1 t), .inr ⟨b, e, ?_, fun pre' r' h hr => ?_⟩⟩
      · unfold bindR; rw [h2]; exact k2
      · rw [List.map_append] at h
        obtain ⟨p1, p2, rfl, q1, q2⟩ := List.map_eq_append_iff.1 h
        unfold bindR
        rw [List.append_assoc, h3 p1 (p2 ++ r') q1 (hd_append q2 hr)]
        exact k3 p2 r' q2 hr
  · refine ⟨pre, r, rfl, h1, .inr ⟨(bindR f g (.ok (pre ++ r))).1, e, ?_, fun pre' r' h hr => ?_⟩⟩
    · refine Prod.ext rfl ?_
      unfold bindR; rw [h2]; exact (hg a).1 _
    · obtain ⟨a', h4⟩ := h3 pre' r' h hr
      refine ⟨(bindR f g (.ok (pre' ++ r'))).1, Prod.ext rfl ?_⟩
      unfold bindR; rw [h4]; exact (hg a').1 _
theorem loc_iff {q : Option B → Bool} {f g : R → α × R} (hf : Loc f) (hg : Loc g) : Loc (iffR q f g) := by
  refine ⟨fun e => ?_, fun l => ?_⟩
  · unfold iffR; split
    · exact hf.1 e
    · exact hg.1 e
  have key : ∀ k : R → α × R, Loc k → (∀ l', hd l' = hd l → iffR q f g (.ok l') = k (.ok l')) → ∃ pre r, l = pre ++ r ∧ (∀ t ∈ pre, t.kind ≠ 3) ∧
      ((∃ a, iffR q f g (.ok l) = (a, .ok r) ∧ ∀ pre' r', pre'.map br = pre.map br → hd r' = hd r → iffR q f g (.ok (pre' ++ r')) = (a, .ok r')) ∨
       (∃ a e, iffR q f g (.ok l) = (a, .error (r, e)) ∧ ∀ pre' r', pre'.map br = pre.map br → hd r' = hd r → ∃ a', iffR q f g (.ok (pre' ++ r')) = (a', .error (r', e)))) := by
    intro k hk he
    obtain ⟨pre, r, rfl, h1, ⟨a, h2, h3⟩ | ⟨a, e, h2, h3⟩⟩ := hk.2 l
    · exact ⟨pre, r, rfl, h1, .inl ⟨a, by rw [he _ rfl]; exact h2, fun pre' r' h hr => by rw [he _ (hd_append h hr)]; exact h3 pre' r' h hr⟩⟩
    · exact ⟨pre, r, rfl, h1, .inr ⟨a, e, by rw [he _ rfl]; exact h2, fun pre' r' h hr => by rw [he _ (hd_append h hr)]; exact h3 pre' r' h hr⟩⟩
  cases hq : q (hd l) with
  | true => exact key f hf fun l' h => by show (if q (hd l') = true then f (.ok l') else g (.ok l')) = _; rw [h, hq]; rfl
  | false => exact key g hg fun l' h => by show (if q (hd l') = true then f (.ok l') else g (.ok l')) = _; rw [h, hq]; rfl
/-! ### The readers of the grammar -/
def isB (s : S) (b : B) : Bool := b.1 != 3 && b.1 != 1 && b.2.1 == s
def isO (s : S) : Option B → Bool
  | some b => isB s b
  | none => false
def wordO : Option B → Bool
  | some b => b.1 == 0
  | none => false
def endO : Option B → Bool
  | some b => b.1 == 3
  | none => false
def want (s : S) : R → Unit × R := tokR (fun b => if isB s b then .ok () else .error 12) ()
def find (ws : List S) (b : B) : Option Nat := ws.findIdx? (fun s => isB s b)
def one (ws : List S) : R → Int × R := tokR (fun b => match find ws b with | some i => .ok (i : Int) | none => .error 12) 0
def name : R → S × R := tokR (fun b => if b.1 = 0 then .ok b.2.1 else .error 12) []
def number (least : Int) : R → Int × R := tokR (fun b => if b.1 = 1 then (if least ≤ b.2.2 ∧ b.2.2 ≤ 1073741824 then .ok b.2.2 else .error 3) else .error 12) 0
def opt (s : S) (f : R → α × R) (d : α) : R → α × R := iffR (isO s) (bindR (want s) fun _ => f) (retR d)
def part (w : S) (ws : List S) : R → Int × R := bindR (want w) fun _ => bindR (one ws) fun n => bindR (want [59]) fun _ => retR n
def types : Nat → R → List S × R
  | 0 => iffR wordO (failR [] 6) (retR [])
  | n + 1 => iffR wordO (bindR name fun x => bindR (types n) fun xs => retR (x :: xs)) (retR [])
def fin : R → Unit × R := iffR endO (retR ()) (failR () 12)
theorem loc_want (s : S) : Loc (want s) := loc_tok fun b a h => by
  split at h
  · rename_i q
    unfold isB at q
    simp only [Bool.and_eq_true, bne_iff_ne] at q
    exact q.1.1
  · cases h
theorem find_kind {ws : List S} {b : B} {i : Nat} (h : find ws b = some i) : b.1 ≠ 3 := by
  obtain ⟨_, h2, _⟩ := List.findIdx?_eq_some_iff_getElem.1 h
  unfold isB at h2
  simp only [Bool.and_eq_true, bne_iff_ne] at h2
  exact h2.1.1
theorem loc_one (ws : List S) : Loc (one ws) := loc_tok fun b a h => by
  split at h
  · rename_i i q
    exact find_kind q
  · cases h
theorem loc_name : Loc name := loc_tok fun b a h => by
  split at h
  · rename_i q; rw [q]; decide
  · cases h
theorem loc_number (least : Int) : Loc (number least) := loc_tok fun b a h => by
  split at h
  · rename_i q; rw [q]; decide
  · cases h
theorem loc_opt {s : S} {f : R → α × R} {d : α} (hf : Loc f) : Loc (opt s f d) := loc_iff (loc_bind (loc_want s) fun _ => hf) (loc_ret d)
theorem loc_part (w : S) (ws : List S) : Loc (part w ws) := loc_bind (loc_want w) fun _ => loc_bind (loc_one ws) fun n => loc_bind (loc_want _) fun _ => loc_ret n
theorem loc_types : ∀ n, Loc (types n)
  | 0 => loc_iff (loc_fail _ _) (loc_ret _)
  | n + 1 => loc_iff (loc_bind loc_name fun _ => loc_bind (loc_types n) fun _ => loc_ret _) (loc_ret _)
theorem loc_fin : Loc fin := loc_iff (loc_ret _) (loc_fail _ _)
end Sy
end Go.Proofs.YtlefgffnjcmfoaaGreatDoor
namespace Go.Proofs.YtlefgffnjcmfoaaGreatDoor
namespace Sy
open Lx
structure Pf where
  name : S
  edit : Int
  within : Int
  delete : Int
  react : Bool
  thread : Int
  quote : Bool
  mention : Bool
  size : Int
  parts : Int
  files : Int
  bytes : Int
  types : List S
  join : Int
  history : Int
  remove : Int
  level : Int
  batch : Bool
  rate : Int
  down : Int
  window : Int
  keep : Int
deriving DecidableEq
def zero : Pf := ⟨[], 0, 0, 0, false, 0, false, false, 0, 0, 0, 0, [], 0, 0, 0, 0, false, 0, 0, 0, 0⟩
def yn : List S := [[110, 111], [121, 101, 115]]
def deW : List S := [[110, 111], [109, 97, 114, 107], [121, 101, 115]]
def thW : List S := [[110, 111, 110, 101], [102, 108, 97, 116], [116, 114, 101, 101]]
def joW : List S := [[105, 110, 118, 105, 116, 101], [108, 105, 110, 107], [114, 111, 108, 101]]
def hiW : List S := [[115, 105, 110, 99, 101], [97, 108, 108]]
def reW : List S := [[110, 111, 119], [107, 101, 121]]
def leW : List S := [[110, 111, 110, 101], [115, 101, 110, 116], [104, 101, 108, 100], [115, 104, 111, 119, 110], [114, 101, 97, 100]]
/-! ### Reading -/
def sName : R → S × R := bindR (want [110, 101, 116, 119, 111, 114, 107]) fun _ => bindR name fun n => bindR (want [59]) fun _ => retR n
def sEdit : R → (Int × Int) × R := bindR (want [101, 100, 105, 116]) fun _ => bindR (one yn) fun e => bindR (if e = 1 then opt [119, 105, 116, 104, 105, 110] (number 1) 0 else retR 0) fun wi => bindR (want [59]) fun _ => retR (if e = 1 then 2 else 0, wi)
def sSize : R → (Int × Int) × R := bindR (want [115, 105, 122, 101]) fun _ => bindR (number 0) fun a => bindR (want [112, 97, 114, 116, 115]) fun _ => bindR (number 0) fun b => bindR (want [59]) fun _ => retR (a, b)
def sFiles : R → (Int × Int × List S) × R := opt [102, 105, 108, 101, 115] (bindR (number 1) fun f => bindR (want [98, 121, 116, 101, 115]) fun _ => bindR (number 0) fun b => bindR (want [116, 121, 112, 101, 115]) fun _ => bindR name fun x => bindR (types 19) fun xs => bindR (want [59]) fun _ => retR (f, b, x :: xs)) (0, 0, [])
def sLevel : R → (Int × Bool) × R := bindR (want [114, 101, 99, 101, 105, 112, 116, 115]) fun _ => bindR (one leW) fun n => bindR (opt [98, 97, 116, 99, 104] (retR true) false) fun b => bindR (want [59]) fun _ => retR (n, b)
def sRate : R → (Int × Int × Int) × R := bindR (want [114, 97, 116, 101]) fun _ => bindR (number 0) fun a => bindR (want [100, 111, 119, 110]) fun _ => bindR (number 0) fun b => bindR (want [111, 102]) fun _ => bindR (number 0) fun c => bindR (want [59]) fun _ => retR (a, b, c)
def sKeep : R → Int × R := opt [107, 101, 101, 112] (bindR (number 1) fun k => bindR (want [59]) fun _ => retR k) 0
def parse : R → Pf × R :=
  bindR sName fun nm => bindR sEdit fun ed => bindR (part [100, 101, 108, 101, 116, 101] deW) fun de => bindR (part [114, 101, 97, 99, 116] yn) fun re => bindR (part [116, 104, 114, 101, 97, 100] thW) fun th =>
  bindR (part [113, 117, 111, 116, 101] yn) fun qu => bindR (part [109, 101, 110, 116, 105, 111, 110] yn) fun me => bindR sSize fun si => bindR sFiles fun fi => bindR (part [106, 111, 105, 110] joW) fun jo =>
  bindR (part [104, 105, 115, 116, 111, 114, 121] hiW) fun hi => bindR (part [114, 101, 109, 111, 118, 101] reW) fun rm => bindR sLevel fun le => bindR sRate fun ra => bindR sKeep fun ke => bindR fin fun _ =>
  retR ⟨nm, ed.1, ed.2, de, re == 1, th, qu == 1, me == 1, si.1, si.2, fi.1, fi.2.1, fi.2.2, jo, hi, rm, le.1, le.2, ra.1, ra.2.1, ra.2.2, ke⟩
theorem loc_parse : Loc parse := by
  have lif : ∀ e : Int, Loc (if e = 1 then opt [119, 105, 116, 104, 105, 110] (number 1) 0 else retR (0 : Int)) := fun e => by
    split
    · exact loc_opt (loc_number _)
    · exact loc_ret _
  refine loc_bind (loc_bind (loc_want _) fun _ => loc_bind loc_name fun _ => loc_bind (loc_want _) fun _ => loc_ret _) fun _ => ?_
  refine loc_bind (loc_bind (loc_want _) fun _ => loc_bind (loc_one _) fun e => loc_bind (lif e) fun _ => loc_bind (loc_want _) fun _ => loc_ret _) fun _ => ?_
  refine loc_bind (loc_part _ _) fun _ => loc_bind (loc_part _ _) fun _ => loc_bind (loc_part _ _) fun _ => loc_bind (loc_part _ _) fun _ => loc_bind (loc_part _ _) fun _ => ?_
  refine loc_bind (loc_bind (loc_want _) fun _ => loc_bind (loc_number _) fun _ => loc_bind (loc_want _) fun _ => loc_bind (loc_number _) fun _ => loc_bind (loc_want _) fun _ => loc_ret _) fun _ => ?_
  refine loc_bind (loc_opt (loc_bind (loc_number _) fun _ => loc_bind (loc_want _) fun _ => loc_bind (loc_number _) fun _ => loc_bind (loc_want _) fun _ => loc_bind loc_name fun _ => loc_bind (loc_types _) fun _ => loc_bind (loc_want _) fun _ => loc_ret _)) fun _ => ?_
  refine loc_bind (loc_part _ _) fun _ => loc_bind (loc_part _ _) fun _ => loc_bind (loc_part _ _) fun _ => ?_
  refine loc_bind (loc_bind (loc_want _) fun _ => loc_bind (loc_one _) fun _ => loc_bind (loc_opt (loc_ret _)) fun _ => loc_bind (loc_want _) fun _ => loc_ret _) fun _ => ?_
  refine loc_bind (loc_bind (loc_want _) fun _ => loc_bind (loc_number _) fun _ => loc_bind (loc_want _) fun _ => loc_bind (loc_number _) fun _ => loc_bind (loc_want _) fun _ => loc_bind (loc_number _) fun _ => loc_bind (loc_want _) fun _ => loc_ret _) fun _ => ?_
  refine loc_bind (loc_opt (loc_bind (loc_number _) fun _ => loc_bind (loc_want _) fun _ => loc_ret _)) fun _ => ?_
  exact loc_bind loc_fin fun _ => loc_ret _
/-! ### Writing -/
def kw (s : S) : B := (0, s, 0)
def semi : B := (2, [59], 0)
def nu (n : Int) : B := (1, Lib.decDigits n.toNat, n)
def ynw (b : Bool) : S := if b then [121, 101, 115] else [110, 111]
def bEdit (p : Pf) : List B := if p.edit = 2 then (if p.within = 0 then [kw [101, 100, 105, 116], kw [121, 101, 115], semi] else [kw [101, 100, 105, 116], kw [121, 101, 115], kw [119, 105, 116, 104, 105, 110], nu p.within, semi]) else [kw [101, 100, 105, 116], kw [110, 111], semi]
def bPart (w v : S) : List B := [kw w, kw v, semi]
def bFiles (p : Pf) : List B := if p.files = 0 then [] else kw [102, 105, 108, 101, 115] :: nu p.files :: kw [98, 121, 116, 101, 115] :: nu p.bytes :: kw [116, 121, 112, 101, 115] :: (p.types.map kw ++ [semi])
def bLevel (p : Pf) : List B := kw [114, 101, 99, 101, 105, 112, 116, 115] :: kw (leW.getD p.level.toNat []) :: ((if p.batch then [kw [98, 97, 116, 99, 104]] else []) ++ [semi])
def bKeep (p : Pf) : List B := if p.keep = 0 then [] else [kw [107, 101, 101, 112], nu p.keep, semi]
def pb (p : Pf) : List B :=
  [kw [110, 101, 116, 119, 111, 114, 107], kw p.name, semi] ++ (bEdit p ++ (bPart [100, 101, 108, 101, 116, 101] (deW.getD p.delete.toNat []) ++ (bPart [114, 101, 97, 99, 116] (ynw p.react) ++ (bPart [116, 104, 114, 101, 97, 100] (thW.getD p.thread.toNat []) ++ (bPart [113, 117, 111, 116, 101] (ynw p.quote) ++ (bPart [109, 101, 110, 116, 105, 111, 110] (ynw p.mention) ++
  ([kw [115, 105, 122, 101], nu p.size, kw [112, 97, 114, 116, 115], nu p.parts, semi] ++ (bFiles p ++ (bPart [106, 111, 105, 110] (joW.getD p.join.toNat []) ++ (bPart [104, 105, 115, 116, 111, 114, 121] (hiW.getD p.history.toNat []) ++ (bPart [114, 101, 109, 111, 118, 101] (reW.getD p.remove.toNat []) ++
  (bLevel p ++ ([kw [114, 97, 116, 101], nu p.rate, kw [100, 111, 119, 110], nu p.down, kw [111, 102], nu p.window, semi] ++ bKeep p)))))))))))))
def flat (l : List B) : S := l.flatMap fun b => b.2.1 ++ [if b.1 = 2 then 10 else 32]
def text (p : Pf) : S := flat (pb p)
/-! ### What is right -/
def within (n a b : Int) : Prop := a ≤ n ∧ n ≤ b
instance (n a b : Int) : Decidable (within n a b) := by unfold within; infer_instance
def kinds (p : Pf) : Prop := (p.edit = 0 ∨ p.edit = 2) ∧ within p.delete 0 2 ∧ within p.thread 0 2 ∧ within p.join 0 2 ∧ within p.history 0 1 ∧ within p.remove 0 1 ∧ within p.level 0 4
def numbers (p : Pf) : Prop := within p.within 0 1073741824 ∧ within p.size 0 1073741824 ∧ within p.parts 0 1073741824 ∧ within p.files 0 1073741824 ∧ within p.bytes 0 1073741824 ∧ within p.rate 0 1073741824 ∧ within p.down 0 1073741824 ∧ within p.window 0 1073741824 ∧ within p.keep 0 1073741824
def filesOk (p : Pf) : Prop := (p.files = 0 → p.bytes = 0 ∧ p.types = []) ∧ (p.files ≠ 0 → (1 ≤ p.types.length ∧ p.types.length ≤ 20) ∧ ∀ x ∈ p.types, wordOk x = true)
def Rt (p : Pf) : Prop := kinds p ∧ numbers p ∧ wordOk p.name = true ∧ (p.edit = 0 → p.within = 0) ∧ filesOk p
instance (p : Pf) : Decidable (kinds p) := by unfold kinds; infer_instance
instance (p : Pf) : Decidable (numbers p) := by unfold numbers; infer_instance
instance (p : Pf) : Decidable (filesOk p) := by unfold filesOk; infer_instance
instance (p : Pf) : Decidable (Rt p) := by unfold Rt; infer_instance
/-! ### What is written is read -/
def mk (b : B) : Tk := ⟨b.1, b.2.1, b.2.2, 0⟩
theorem br_mk (b : B) : br (mk b) = b := rfl
section
variable {α : Type} {l : List Tk}
theorem want_kw (s : S) : want s (.ok (mk (kw s) :: l)) = ((), .ok l) := by
  simp [want, tokR, br_mk, isB, kw]
theorem want_semi : want [59] (.ok (mk semi :: l)) = ((), .ok l) := want_ok
where want_ok := by simp [want, tokR, br_mk, isB, semi]
theorem name_kw (x : S) : name (.ok (mk (kw x) :: l)) = (x, .ok l) := by simp [name, tokR, br_mk, kw]
theorem number_nu {k n : Int} (h : k ≤ n ∧ n ≤ 1073741824) : number k (.ok (mk (nu n) :: l)) = (n, .ok l) := by simp [number, tokR, br_mk, nu, h.1, h.2]
theorem one_kw {ws : List S} {i : Nat} {x : S} (h : find ws (kw x) = some i) : one ws (.ok (mk (kw x) :: l)) = ((i : Int), .ok l) := by simp [one, tokR, br_mk, h]
theorem opt_yes {s : S} {f : R → α × R} {d : α} : opt s f d (.ok (mk (kw s) :: l)) = f (.ok l) := by
  have : isO s (hdR (.ok (mk (kw s) :: l))) = true := by simp [isO, hdR, hd, br_mk, isB, kw]
  unfold opt iffR
  rw [if_pos this]
  unfold bindR
  rw [want_kw]
theorem opt_no {s : S} {f : R → α × R} {d : α} (h : isO s (hd l) = false) : opt s f d (.ok l) = (d, .ok l) := by
  unfold opt iffR
  rw [if_neg (by show ¬ isO s (hd l) = true; rw [h]; simp)]; rfl
theorem bind_step {β : Type} {f : R → α × R} {g : α → R → β × R} {r r' : R} {a : α} (h : f r = (a, r')) : bindR f g r = g a r' := by unfold bindR; rw [h]
theorem part_ok {w : S} {ws : List S} {i : Nat} (h : find ws (kw (ws.getD i [])) = some i) : part w ws (.ok ((bPart w (ws.getD i [])).map mk ++ l)) = ((i : Int), .ok l) := by
  simp only [bPart, List.map_cons, List.map_nil, List.cons_append, List.nil_append]
  simp only [part, bindR, want_kw, one_kw h, want_semi, retR]
theorem part_in {w : S} {ws : List S} {n : Int} {m : Nat} (h0 : 0 ≤ n ∧ n < m) (h : ∀ i, i < m → find ws (kw (ws.getD i [])) = some i) : part w ws (.ok ((bPart w (ws.getD n.toNat [])).map mk ++ l)) = (n, .ok l) := by
  rw [part_ok (h n.toNat (by omega)), Int.toNat_of_nonneg h0.1]
theorem part_yn {w : S} (b : Bool) : part w yn (.ok ((bPart w (ynw b)).map mk ++ l)) = ((if b then 1 else 0), .ok l) := by
  cases b
  · exact part_ok (ws := yn) (i := 0) (by decide)
  · exact part_ok (ws := yn) (i := 1) (by decide)
theorem types_ok : ∀ (n : Nat) (xs : List S), xs.length ≤ n → wordO (hd l) = false → types n (.ok ((xs.map kw).map mk ++ l)) = (xs, .ok l)
  | 0, [], _, h => by
    show (if wordO (hd l) = true then _ else _) = _
    rw [h]; rfl
  | 0, _ :: _, h, _ => by simp at h
  | n + 1, [], _, h => by
    show (if wordO (hd l) = true then _ else _) = _
    rw [h]; rfl
  | n + 1, x :: xs, hx, h => by
    have ih := types_ok n xs (by simpa using hx) h
    show iffR wordO (bindR name fun x => bindR (types n) fun xs => retR (x :: xs)) (retR []) (.ok (mk (kw x) :: ((xs.map kw).map mk ++ l))) = _
    unfold iffR
    rw [if_pos (by rfl)]
    simp only [bindR, name_kw, ih, retR]
theorem sName_ok (p : Pf) : sName (.ok (([kw [110, 101, 116, 119, 111, 114, 107], kw p.name, semi]).map mk ++ l)) = (p.name, .ok l) := by
  simp only [List.map_cons, List.map_nil, List.cons_append, List.nil_append]
  simp only [sName, bindR, want_kw, name_kw, want_semi, retR]
theorem isO_kw {s x : S} (h : s ≠ x) (k : List Tk) : isO s (hd (mk (kw x) :: k)) = false := by
  show isB s (kw x) = false
  simp [isB, kw]; exact fun q => h q.symm
theorem isO_semi {s : S} (h : s ≠ [59]) (k : List Tk) : isO s (hd (mk semi :: k)) = false := by
  show isB s semi = false
  simp [isB, semi]; exact fun q => h q.symm
theorem sEdit_ok {p : Pf} (h : Rt p) : sEdit (.ok ((bEdit p).map mk ++ l)) = ((p.edit, p.within), .ok l) := by
  have hn : find yn (kw [110, 111]) = some 0 := by decide
  have hy : find yn (kw [121, 101, 115]) = some 1 := by decide
  have hw := h.2.1.1
  unfold within at hw
  unfold bEdit
  by_cases h2 : p.edit = 2
  · rw [if_pos h2, h2]
    by_cases h0 : p.within = 0
    · rw [if_pos h0, h0]
      simp only [List.map_cons, List.map_nil, List.cons_append, List.nil_append]
      simp only [sEdit, bindR, want_kw, one_kw hy, Int.ofNat_one, if_true, opt_no (isO_semi (s := [119, 105, 116, 104, 105, 110]) (by decide) l), want_semi, retR]
    · rw [if_neg h0]
      simp only [List.map_cons, List.map_nil, List.cons_append, List.nil_append]
      simp only [sEdit, bindR, want_kw, one_kw hy, Int.ofNat_one, if_true, opt_yes, number_nu (show 1 ≤ p.within ∧ p.within ≤ 1073741824 by omega), want_semi, retR]
  · have h1 : p.edit = 0 := h.1.1.resolve_right h2
    rw [if_neg h2, h1, h.2.2.2.1 h1]
    simp only [List.map_cons, List.map_nil, List.cons_append, List.nil_append]
    simp only [sEdit, bindR, want_kw, one_kw hn, retR]
    rfl
theorem sSize_ok {a b : Int} (ha : within a 0 1073741824) (hb : within b 0 1073741824) : sSize (.ok (([kw [115, 105, 122, 101], nu a, kw [112, 97, 114, 116, 115], nu b, semi]).map mk ++ l)) = ((a, b), .ok l) := by
  simp only [List.map_cons, List.map_nil, List.cons_append, List.nil_append]
  simp only [sSize, bindR, want_kw, number_nu ha, number_nu hb, want_semi, retR]
theorem sFiles_ok {p : Pf} (h : Rt p) (hl : isO [102, 105, 108, 101, 115] (hd l) = false) : sFiles (.ok ((bFiles p).map mk ++ l)) = ((p.files, p.bytes, p.types), .ok l) := by
  have hf := h.2.2.2.2
  have hn := h.2.1
  unfold numbers within at hn
  unfold bFiles
  by_cases h0 : p.files = 0
  · rw [if_pos h0, h0, (hf.1 h0).1, (hf.1 h0).2]
    exact opt_no hl
  · rw [if_neg h0]
    have hk := hf.2 h0
    cases ht : p.types with
    | nil => rw [ht] at hk; simp at hk
    | cons x xs =>
      rw [ht] at hk
      simp only [List.map_cons, List.map_append, List.map_nil, List.cons_append, List.nil_append, List.append_assoc]
      have hty := types_ok (l := mk semi :: l) 19 xs (by have := hk.1.2; simp at this; omega) rfl
      simp only [sFiles, opt_yes, bindR, number_nu (show 1 ≤ p.files ∧ p.files ≤ 1073741824 by omega), want_kw, number_nu (show 0 ≤ p.bytes ∧ p.bytes ≤ 1073741824 by omega), name_kw, hty, want_semi, retR]
theorem sLevel_ok {p : Pf} (h : within p.level 0 4) : sLevel (.ok ((bLevel p).map mk ++ l)) = ((p.level, p.batch), .ok l) := by
  have hf : ∀ i, i < 5 → find leW (kw (leW.getD i [])) = some i := by decide
  unfold within at h
  have h1 := hf p.level.toNat (by omega)
  have h2 : ((p.level.toNat : Nat) : Int) = p.level := Int.toNat_of_nonneg h.1
  unfold bLevel
  cases p.batch with
  | true =>
    simp only [if_true, List.map_cons, List.map_nil, List.cons_append, List.nil_append]
    simp only [sLevel, bindR, want_kw, one_kw h1, opt_yes, want_semi, retR, h2]
  | false =>
    simp only [Bool.false_eq_true, if_false, List.map_cons, List.map_nil, List.cons_append, List.nil_append]
    simp only [sLevel, bindR, want_kw, one_kw h1, opt_no (isO_semi (s := [98, 97, 116, 99, 104]) (by decide) l), want_semi, retR, h2]
theorem sRate_ok {a b c : Int} (ha : within a 0 1073741824) (hb : within b 0 1073741824) (hc : within c 0 1073741824) : sRate (.ok (([kw [114, 97, 116, 101], nu a, kw [100, 111, 119, 110], nu b, kw [111, 102], nu c, semi]).map mk ++ l)) = ((a, b, c), .ok l) := by
  simp only [List.map_cons, List.map_nil, List.cons_append, List.nil_append]
  simp only [sRate, bindR, want_kw, number_nu ha, number_nu hb, number_nu hc, want_semi, retR]
theorem sKeep_ok {p : Pf} (h : within p.keep 0 1073741824) (hl : isO [107, 101, 101, 112] (hd l) = false) : sKeep (.ok ((bKeep p).map mk ++ l)) = (p.keep, .ok l) := by
  unfold within at h
  unfold bKeep
  by_cases h0 : p.keep = 0
  · rw [if_pos h0, h0]; exact opt_no hl
  · rw [if_neg h0]
    simp only [List.map_cons, List.map_nil, List.cons_append, List.nil_append]
    simp only [sKeep, opt_yes, bindR, number_nu (show 1 ≤ p.keep ∧ p.keep ≤ 1073741824 by omega), want_semi, retR]
/-- A right profile's tokens say it. -/
theorem parse_pb {p : Pf} (h : Rt p) : parse (.ok ((pb p).map mk ++ [⟨3, [], 0, 0⟩])) = (p, .ok [⟨3, [], 0, 0⟩]) := by
  obtain ⟨⟨k1, k2, k3, k4, k5, k6, k7⟩, ⟨n1, n2, n3, n4, n5, n6, n7, n8, n9⟩, hw, he, hf⟩ := id h
  have d3 : ∀ i, i < 3 → find deW (kw (deW.getD i [])) = some i := by decide
  have t3 : ∀ i, i < 3 → find thW (kw (thW.getD i [])) = some i := by decide
  have j3 : ∀ i, i < 3 → find joW (kw (joW.getD i [])) = some i := by decide
  have h2 : ∀ i, i < 2 → find hiW (kw (hiW.getD i [])) = some i := by decide
  have r2 : ∀ i, i < 2 → find reW (kw (reW.getD i [])) = some i := by decide
  have e1 := fun l => part_in (l := l) (w := [100, 101, 108, 101, 116, 101]) (ws := deW) (n := p.delete) (m := 3) (by unfold within at k2; omega) d3
  have e2 := fun l => part_in (l := l) (w := [116, 104, 114, 101, 97, 100]) (ws := thW) (n := p.thread) (m := 3) (by unfold within at k3; omega) t3
  have e3 := fun l => part_in (l := l) (w := [106, 111, 105, 110]) (ws := joW) (n := p.join) (m := 3) (by unfold within at k4; omega) j3
  have e4 := fun l => part_in (l := l) (w := [104, 105, 115, 116, 111, 114, 121]) (ws := hiW) (n := p.history) (m := 2) (by unfold within at k5; omega) h2
  have e5 := fun l => part_in (l := l) (w := [114, 101, 109, 111, 118, 101]) (ws := reW) (n := p.remove) (m := 2) (by unfold within at k6; omega) r2
  unfold pb
  simp only [List.map_append, List.append_assoc]
  unfold parse
  rw [bind_step (sName_ok p), bind_step (sEdit_ok h), bind_step (e1 _), bind_step (part_yn _), bind_step (e2 _), bind_step (part_yn _), bind_step (part_yn _), bind_step (sSize_ok n2 n3),
    bind_step (sFiles_ok h (show isO [102, 105, 108, 101, 115] (hd (List.map mk (bPart [106, 111, 105, 110] _) ++ _)) = false from isO_kw (x := [106, 111, 105, 110]) (by decide) _)), bind_step (e3 _), bind_step (e4 _), bind_step (e5 _), bind_step (sLevel_ok k7), bind_step (sRate_ok n6 n7 n8), bind_step (sKeep_ok n9 rfl)]
  have hq : ∀ b : Bool, ((if b = true then (1 : Int) else 0) == 1) = b := by decide
  simp only [hq]
  rfl
end
end Sy
end Go.Proofs.YtlefgffnjcmfoaaGreatDoor
namespace Go.Proofs.YtlefgffnjcmfoaaGreatDoor
namespace Sy
open Lx
/-! ### What is read is right -/
def Ws (l : List Tk) : Prop := ∀ t ∈ l, t.kind = 0 → wordOk t.text = true
def Yld {α : Type} (f : R → α × R) (Q : α → Prop) : Prop := (∀ e, (f (.error e)).2 = .error e) ∧ ∀ l a r, Ws l → f (.ok l) = (a, .ok r) → Q a ∧ Ws r
section
variable {α β : Type}
theorem ws_tail {t : Tk} {l : List Tk} (h : Ws (t :: l)) : Ws l := fun u hu => h u (List.mem_cons_of_mem _ hu)
theorem yld_tok {f : B → Except Int α} {z : α} {Q : α → Prop} (h : ∀ t a, (t.kind = 0 → wordOk t.text = true) → f (br t) = .ok a → Q a) : Yld (tokR f z) Q := by
  refine ⟨fun e => rfl, fun l a r hw hf => ?_⟩
  cases l with
  | nil => cases hf
  | cons t l =>
    cases ht : f (br t) with
    | ok b =>
      simp only [tokR, ht] at hf
      cases hf
      exact ⟨h t _ (hw t (List.mem_cons_self ..)) ht, ws_tail hw⟩
    | error e => simp only [tokR, ht] at hf; cases hf
theorem yld_ret {a : α} {Q : α → Prop} (h : Q a) : Yld (retR a) Q := ⟨fun _ => rfl, fun l b r hw hf => by cases hf; exact ⟨h, hw⟩⟩
theorem yld_fail {z : α} {e : Int} {Q : α → Prop} : Yld (failR z e) Q := ⟨fun _ => rfl, fun l b r hw hf => by cases hf⟩
theorem yld_bind {f : R → α × R} {g : α → R → β × R} {Q : α → Prop} {Q' : β → Prop} (hf : Yld f Q) (he : ∀ a e, (g a (.error e)).2 = .error e) (hg : ∀ a, Q a → Yld (g a) Q') : Yld (bindR f g) Q' := by
  refine ⟨fun e => by unfold bindR; rw [hf.1 e]; exact he _ e, fun l b r hw h => ?_⟩
  unfold bindR at h
  cases hr : f (.ok l) with
  | mk a x =>
    rw [hr] at h
    cases x with
    | ok r1 =>
      obtain ⟨q1, q2⟩ := hf.2 l a r1 hw hr
      exact (hg a q1).2 r1 b r q2 h
    | error e =>
      have := he a e
      simp only at h
      rw [h] at this; cases this
theorem yld_iff {q : Option B → Bool} {f g : R → α × R} {Q : α → Prop} (hf : Yld f Q) (hg : Yld g Q) : Yld (iffR q f g) Q := by
  refine ⟨fun e => ?_, fun l a r hw h => ?_⟩
  · unfold iffR; split
    · exact hf.1 e
    · exact hg.1 e
  · unfold iffR at h
    split at h
    · exact hf.2 l a r hw h
    · exact hg.2 l a r hw h
theorem Yld.err {f : R → α × R} {Q : α → Prop} (h : Yld f Q) (e : List Tk × Int) : (f (.error e)).2 = .error e := h.1 e
/-- With readers that look at no more than they may, errors need no word. -/
theorem yld_then {f : R → α × R} {g : α → R → β × R} {Q : α → Prop} {Q' : β → Prop} (hf : Yld f Q) (hl : ∀ a, Loc (g a)) (hg : ∀ a, Q a → Yld (g a) Q') : Yld (bindR f g) Q' := yld_bind hf (fun a => (hl a).1) hg
end
theorem yld_want (s : S) : Yld (want s) fun _ => True := yld_tok fun _ _ _ _ => trivial
theorem yld_one (ws : List S) : Yld (one ws) fun i => 0 ≤ i ∧ i < ws.length := yld_tok fun t a _ h => by
  split at h
  · rename_i i q
    cases h
    obtain ⟨h1, _⟩ := List.findIdx?_eq_some_iff_getElem.1 q
    exact ⟨by omega, by exact_mod_cast h1⟩
  · cases h
theorem yld_name : Yld name fun x => wordOk x = true := yld_tok fun t a hw h => by
  split at h
  · rename_i q; cases h; exact hw q
  · cases h
theorem yld_number (k : Int) : Yld (number k) fun n => k ≤ n ∧ n ≤ 1073741824 := yld_tok fun t a _ h => by
  split at h
  · split at h
    · rename_i q; cases h; exact q
    · cases h
  · cases h
theorem yld_iff_le {α : Type} {f : R → α × R} {Q Q' : α → Prop} (h : Yld f Q) (hq : ∀ a, Q a → Q' a) : Yld f Q' := ⟨h.1, fun l a r hw hf => ⟨hq a (h.2 l a r hw hf).1, (h.2 l a r hw hf).2⟩⟩
theorem yld_opt {α : Type} {s : S} {f : R → α × R} {d : α} {Q : α → Prop} (hf : Yld f Q) (hd : Q d) : Yld (opt s f d) Q := yld_iff (yld_bind (yld_want s) (fun _ => hf.1) fun _ _ => hf) (yld_ret hd)
theorem yld_part (w : S) (ws : List S) : Yld (part w ws) fun i => 0 ≤ i ∧ i < ws.length :=
  yld_then (yld_want w) (fun _ => loc_bind (loc_one ws) fun n => loc_bind (loc_want _) fun _ => loc_ret n) fun _ _ =>
  yld_then (yld_one ws) (fun n => loc_bind (loc_want _) fun _ => loc_ret n) fun n hn => yld_then (yld_want _) (fun _ => loc_ret n) fun _ _ => yld_ret hn
theorem yld_types : ∀ n, Yld (types n) fun xs => xs.length ≤ n ∧ ∀ x ∈ xs, wordOk x = true
  | 0 => yld_iff yld_fail (yld_ret ⟨Nat.le_refl _, fun x hx => by cases hx⟩)
  | n + 1 => yld_iff (yld_then yld_name (fun _ => loc_bind (loc_types n) fun _ => loc_ret _) fun x hx => yld_then (yld_types n) (fun _ => loc_ret _) fun xs hxs => yld_ret ⟨by simp; exact hxs.1, fun y hy => by
      rcases List.mem_cons.1 hy with rfl | q
      · exact hx
      · exact hxs.2 y q⟩) (yld_ret ⟨Nat.zero_le _, fun x hx => by cases hx⟩)
theorem loc_edit_if (e : Int) : Loc (if e = 1 then opt [119, 105, 116, 104, 105, 110] (number 1) 0 else retR (0 : Int)) := by
  split
  · exact loc_opt (loc_number _)
  · exact loc_ret _
theorem loc_sEdit : Loc sEdit := loc_bind (loc_want _) fun _ => loc_bind (loc_one _) fun e => loc_bind (loc_edit_if e) fun _ => loc_bind (loc_want _) fun _ => loc_ret _
theorem loc_sSize : Loc sSize := loc_bind (loc_want _) fun _ => loc_bind (loc_number _) fun _ => loc_bind (loc_want _) fun _ => loc_bind (loc_number _) fun _ => loc_bind (loc_want _) fun _ => loc_ret _
theorem loc_sFiles : Loc sFiles := loc_opt (loc_bind (loc_number _) fun _ => loc_bind (loc_want _) fun _ => loc_bind (loc_number _) fun _ => loc_bind (loc_want _) fun _ => loc_bind loc_name fun _ => loc_bind (loc_types _) fun _ => loc_bind (loc_want _) fun _ => loc_ret _)
theorem loc_sLevel : Loc sLevel := loc_bind (loc_want _) fun _ => loc_bind (loc_one _) fun _ => loc_bind (loc_opt (loc_ret _)) fun _ => loc_bind (loc_want _) fun _ => loc_ret _
theorem loc_sRate : Loc sRate := loc_bind (loc_want _) fun _ => loc_bind (loc_number _) fun _ => loc_bind (loc_want _) fun _ => loc_bind (loc_number _) fun _ => loc_bind (loc_want _) fun _ => loc_bind (loc_number _) fun _ => loc_bind (loc_want _) fun _ => loc_ret _
theorem loc_sKeep : Loc sKeep := loc_opt (loc_bind (loc_number _) fun _ => loc_bind (loc_want _) fun _ => loc_ret _)
theorem yld_sName : Yld sName fun x => wordOk x = true := by
  refine yld_then (yld_want _) (fun _ => ?_) fun _ _ => yld_then yld_name (fun _ => ?_) fun x hx => yld_then (yld_want _) (fun _ => ?_) fun _ _ => yld_ret hx
  all_goals
    repeat' first | exact loc_ret _ | exact loc_want _ | exact loc_name | exact loc_fin | exact loc_sEdit | exact loc_sSize | exact loc_sFiles | exact loc_sLevel | exact loc_sRate | exact loc_sKeep | exact loc_part _ _ | exact loc_one _ | exact loc_number _ | exact loc_types _ | refine loc_opt ?_ | refine loc_bind ?_ fun _ => ?_
theorem yld_sEdit : Yld sEdit fun v => (v.1 = 0 ∨ v.1 = 2) ∧ within v.2 0 1073741824 ∧ (v.1 = 0 → v.2 = 0) := by
  refine yld_then (yld_want _) (fun _ => loc_bind (loc_one _) fun e => loc_bind (loc_edit_if e) fun _ => loc_bind (loc_want _) fun _ => loc_ret _) fun _ _ => yld_then (yld_one _) (fun e => loc_bind (loc_edit_if e) fun _ => loc_bind (loc_want _) fun _ => loc_ret _) fun e he => ?_
  by_cases h1 : e = 1
  · subst h1
    simp only [if_true]
    exact yld_then (yld_opt (Q := fun n => within n 0 1073741824) (yld_iff_le (yld_number 1) fun a h => ⟨by omega, h.2⟩) ⟨by decide, by decide⟩) (fun _ => loc_bind (loc_want _) fun _ => loc_ret _) fun wi hw => yld_then (yld_want _) (fun _ => loc_ret _) fun _ _ => yld_ret ⟨.inr rfl, hw, fun q => by cases q⟩
  · simp only [if_neg h1]
    exact yld_then (yld_ret (Q := fun z => z = 0) rfl) (fun _ => loc_bind (loc_want _) fun _ => loc_ret _) fun wi hw => yld_then (yld_want _) (fun _ => loc_ret _) fun _ _ => yld_ret ⟨.inl rfl, by subst hw; exact ⟨by decide, by decide⟩, fun _ => hw⟩
theorem yld_sSize : Yld sSize fun v => within v.1 0 1073741824 ∧ within v.2 0 1073741824 := by
  refine yld_then (yld_want _) (fun _ => ?_) fun _ _ => yld_then (yld_number 0) (fun _ => ?_) fun a ha => yld_then (yld_want _) (fun _ => ?_) fun _ _ => yld_then (yld_number 0) (fun _ => ?_) fun b hb => yld_then (yld_want _) (fun _ => ?_) fun _ _ => yld_ret ⟨ha, hb⟩
  all_goals
    repeat' first | exact loc_ret _ | exact loc_want _ | exact loc_name | exact loc_fin | exact loc_sEdit | exact loc_sSize | exact loc_sFiles | exact loc_sLevel | exact loc_sRate | exact loc_sKeep | exact loc_part _ _ | exact loc_one _ | exact loc_number _ | exact loc_types _ | refine loc_opt ?_ | refine loc_bind ?_ fun _ => ?_
theorem yld_sFiles : Yld sFiles fun v => within v.1 0 1073741824 ∧ within v.2.1 0 1073741824 ∧ (v.1 = 0 → v.2.1 = 0 ∧ v.2.2 = []) ∧ (v.1 ≠ 0 → (1 ≤ v.2.2.length ∧ v.2.2.length ≤ 20) ∧ ∀ x ∈ v.2.2, wordOk x = true) := by
  refine yld_opt ?_ ⟨⟨by decide, by decide⟩, ⟨by decide, by decide⟩, fun _ => ⟨rfl, rfl⟩, fun q => (q rfl).elim⟩
  refine yld_then (yld_number 1) (fun _ => ?_) fun f hf => yld_then (yld_want _) (fun _ => ?_) fun _ _ => yld_then (yld_number 0) (fun _ => ?_) fun b hb => yld_then (yld_want _) (fun _ => ?_) fun _ _ => yld_then yld_name (fun _ => ?_) fun x hx => yld_then (yld_types 19) (fun _ => ?_) fun xs hxs => yld_then (yld_want _) (fun _ => ?_) fun _ _ =>
    yld_ret ⟨⟨by omega, hf.2⟩, hb, fun q => by simp only at q; omega, fun _ => ⟨⟨by simp, by simp; omega⟩, fun y hy => ?_⟩⟩
  case refine_8 =>
    rcases List.mem_cons.1 hy with rfl | q
    · exact hx
    · exact hxs.2 y q
  all_goals
    repeat' first | exact loc_ret _ | exact loc_want _ | exact loc_name | exact loc_fin | exact loc_sEdit | exact loc_sSize | exact loc_sFiles | exact loc_sLevel | exact loc_sRate | exact loc_sKeep | exact loc_part _ _ | exact loc_one _ | exact loc_number _ | exact loc_types _ | refine loc_opt ?_ | refine loc_bind ?_ fun _ => ?_
theorem yld_sLevel : Yld sLevel fun v => within v.1 0 4 := by
  refine yld_then (yld_want _) (fun _ => ?_) fun _ _ => yld_then (yld_one _) (fun _ => ?_) fun a ha => yld_then (yld_opt (Q := fun _ => True) (yld_ret trivial) trivial) (fun _ => ?_) fun _ _ => yld_then (yld_want _) (fun _ => ?_) fun _ _ => yld_ret ⟨ha.1, by have := ha.2; simp [leW] at this; omega⟩
  all_goals
    repeat' first | exact loc_ret _ | exact loc_want _ | exact loc_name | exact loc_fin | exact loc_sEdit | exact loc_sSize | exact loc_sFiles | exact loc_sLevel | exact loc_sRate | exact loc_sKeep | exact loc_part _ _ | exact loc_one _ | exact loc_number _ | exact loc_types _ | refine loc_opt ?_ | refine loc_bind ?_ fun _ => ?_
theorem yld_sRate : Yld sRate fun v => within v.1 0 1073741824 ∧ within v.2.1 0 1073741824 ∧ within v.2.2 0 1073741824 := by
  refine yld_then (yld_want _) (fun _ => ?_) fun _ _ => yld_then (yld_number 0) (fun _ => ?_) fun a ha => yld_then (yld_want _) (fun _ => ?_) fun _ _ => yld_then (yld_number 0) (fun _ => ?_) fun b hb => yld_then (yld_want _) (fun _ => ?_) fun _ _ => yld_then (yld_number 0) (fun _ => ?_) fun c hc => yld_then (yld_want _) (fun _ => ?_) fun _ _ => yld_ret ⟨ha, hb, hc⟩
  all_goals
    repeat' first | exact loc_ret _ | exact loc_want _ | exact loc_name | exact loc_fin | exact loc_sEdit | exact loc_sSize | exact loc_sFiles | exact loc_sLevel | exact loc_sRate | exact loc_sKeep | exact loc_part _ _ | exact loc_one _ | exact loc_number _ | exact loc_types _ | refine loc_opt ?_ | refine loc_bind ?_ fun _ => ?_
theorem yld_sKeep : Yld sKeep fun k => within k 0 1073741824 := by
  refine yld_opt (yld_then (yld_number 1) (fun _ => ?_) fun k hk => yld_then (yld_want _) (fun _ => ?_) fun _ _ => yld_ret ⟨by omega, hk.2⟩) ⟨by decide, by decide⟩
  all_goals
    repeat' first | exact loc_ret _ | exact loc_want _ | exact loc_name | exact loc_fin | exact loc_sEdit | exact loc_sSize | exact loc_sFiles | exact loc_sLevel | exact loc_sRate | exact loc_sKeep | exact loc_part _ _ | exact loc_one _ | exact loc_number _ | exact loc_types _ | refine loc_opt ?_ | refine loc_bind ?_ fun _ => ?_
theorem yld_fin : Yld fin fun _ => True := yld_iff (yld_ret trivial) yld_fail
set_option maxHeartbeats 1000000 in
/-- What is read is right. -/
theorem yld_parse : Yld parse Rt := by
  refine yld_then yld_sName (fun _ => ?_) fun nm h1 => yld_then yld_sEdit (fun _ => ?_) fun ed h2 => yld_then (yld_part _ _) (fun _ => ?_) fun de h3 => yld_then (yld_part _ _) (fun _ => ?_) fun re h4 => yld_then (yld_part _ _) (fun _ => ?_) fun th h5 => ?_
  case refine_6 =>
    refine yld_then (yld_part _ _) (fun _ => ?_) fun qu h6 => yld_then (yld_part _ _) (fun _ => ?_) fun me h7 => yld_then yld_sSize (fun _ => ?_) fun si h8 => yld_then yld_sFiles (fun _ => ?_) fun fi h9 => yld_then (yld_part _ _) (fun _ => ?_) fun jo h10 => ?_
    case refine_6 =>
      refine yld_then (yld_part _ _) (fun _ => ?_) fun hi h11 => yld_then (yld_part _ _) (fun _ => ?_) fun rm h12 => yld_then yld_sLevel (fun _ => ?_) fun le h13 => yld_then yld_sRate (fun _ => ?_) fun ra h14 => yld_then yld_sKeep (fun _ => ?_) fun ke h15 => yld_then yld_fin (fun _ => ?_) fun _ _ => yld_ret ?_
      case refine_7 =>
        have k3 : within de 0 2 := ⟨h3.1, by have := h3.2; simp [deW] at this; omega⟩
        have k5 : within th 0 2 := ⟨h5.1, by have := h5.2; simp [thW] at this; omega⟩
        have k10 : within jo 0 2 := ⟨h10.1, by have := h10.2; simp [joW] at this; omega⟩
        have k11 : within hi 0 1 := ⟨h11.1, by have := h11.2; simp [hiW] at this; omega⟩
        have k12 : within rm 0 1 := ⟨h12.1, by have := h12.2; simp [reW] at this; omega⟩
        clear h3 h4 h5 h6 h7 h10 h11 h12
        exact ⟨⟨h2.1, k3, k5, k10, k11, k12, h13⟩, ⟨h2.2.1, h8.1, h8.2, h9.1, h9.2.1, h14.1, h14.2.1, h14.2.2, h15⟩, h1, h2.2.2, h9.2.2⟩
      all_goals
        repeat' first | exact loc_ret _ | exact loc_want _ | exact loc_name | exact loc_fin | exact loc_sEdit | exact loc_sSize | exact loc_sFiles | exact loc_sLevel | exact loc_sRate | exact loc_sKeep | exact loc_part _ _ | exact loc_one _ | exact loc_number _ | exact loc_types _ | refine loc_opt ?_ | refine loc_bind ?_ fun _ => ?_
    all_goals
      repeat' first | exact loc_ret _ | exact loc_want _ | exact loc_name | exact loc_fin | exact loc_sEdit | exact loc_sSize | exact loc_sFiles | exact loc_sLevel | exact loc_sRate | exact loc_sKeep | exact loc_part _ _ | exact loc_one _ | exact loc_number _ | exact loc_types _ | refine loc_opt ?_ | refine loc_bind ?_ fun _ => ?_
  all_goals
    repeat' first | exact loc_ret _ | exact loc_want _ | exact loc_name | exact loc_fin | exact loc_sEdit | exact loc_sSize | exact loc_sFiles | exact loc_sLevel | exact loc_sRate | exact loc_sKeep | exact loc_part _ _ | exact loc_one _ | exact loc_number _ | exact loc_types _ | refine loc_opt ?_ | refine loc_bind ?_ fun _ => ?_
end Sy
end Go.Proofs.YtlefgffnjcmfoaaGreatDoor
namespace Go.Proofs.YtlefgffnjcmfoaaGreatDoor
namespace Sy
open Lx
/-! ### The same tokens elsewhere -/
section
variable {α : Type} {f : R → α × R}
theorem split_map {pre r l' : List Tk} (h : l'.map br = (pre ++ r).map br) : ∃ pre' r', l' = pre' ++ r' ∧ pre'.map br = pre.map br ∧ r'.map br = r.map br := by
  rw [List.map_append] at h
  obtain ⟨a, b, rfl, h1, h2⟩ := List.map_eq_append_iff.1 h
  exact ⟨a, b, rfl, h1, h2⟩
theorem hd_map {r r' : List Tk} (h : r'.map br = r.map br) : hd r' = hd r := by
  cases r with
  | nil => rw [List.map_eq_nil_iff.1 h]
  | cons t l => cases r' with
    | nil => simp at h
    | cons u k => simp only [List.map_cons] at h; simp only [hd, List.head?_cons, Option.map_some, (List.cons.inj h).1]
theorem loc_ok (hf : Loc f) {l l' r : List Tk} {a : α} (h : l'.map br = l.map br) (h2 : f (.ok l) = (a, .ok r)) : ∃ r', f (.ok l') = (a, .ok r') ∧ r'.map br = r.map br := by
  obtain ⟨pre, r0, rfl, h1, ⟨b, h3, h4⟩ | ⟨b, e, h3, h4⟩⟩ := hf.2 l
  · rw [h3] at h2; cases h2
    obtain ⟨p', r', rfl, q1, q2⟩ := split_map h
    exact ⟨r', h4 p' r' q1 (hd_map q2), q2⟩
  · rw [h3] at h2; cases h2
theorem loc_err (hf : Loc f) {l l' r : List Tk} {a : α} {e : Int} (h : l'.map br = l.map br) (h2 : f (.ok l) = (a, .error (r, e))) : ∃ a' pre pre' r', l = pre ++ r ∧ l' = pre' ++ r' ∧ f (.ok l') = (a', .error (r', e)) ∧ r'.map br = r.map br ∧ pre'.length = pre.length := by
  obtain ⟨pre, r0, rfl, h1, ⟨b, h3, h4⟩ | ⟨b, e, h3, h4⟩⟩ := hf.2 l
  · rw [h3] at h2; cases h2
  · rw [h3] at h2; cases h2
    obtain ⟨p', r', rfl, q1, q2⟩ := split_map h
    obtain ⟨a', h5⟩ := h4 p' r' q1 (hd_map q2)
    exact ⟨a', pre, p', r', rfl, rfl, h5, q2, by have := congrArg List.length q1; simpa using this⟩
end
/-! ### What Parse and Print answer -/
def posOf : List Tk → Int
  | t :: _ => t.pos
  | [] => 0
def out (l : List Tk) : Pf × Int × Int := match parse (.ok l) with
  | (p, .ok _) => (p, 0, 0)
  | (_, .error (r, e)) => (zero, posOf r, e)
def parseS (s : S) : Pf × Int × Int := if 2000 < s.length then (zero, 0, 6) else match lex s 0 with
  | .ok ts => out ts
  | .error (p, e) => (zero, p, e)
def printS (p : Pf) : S × Int := if Rt p then (if 2000 < (text p).length then ([], 6) else (text p, 0)) else ([], 1)
/-! ### Numbers -/
theorem dec_small {u : Nat} (h : u < 10) : Lib.decDigits u = [UInt8.ofNat (48 + u)] := by rw [Lib.decDigits, dif_pos h]
theorem dec_big {u : Nat} (h : ¬ u < 10) : Lib.decDigits u = Lib.decDigits (u / 10) ++ [UInt8.ofNat (48 + u % 10)] := by rw [Lib.decDigits, dif_neg h]
theorem dec_byte (d : Nat) (h : d < 10) : (UInt8.ofNat (48 + d)).toNat = 48 + d := by rw [UInt8.toNat_ofNat']; omega
theorem dec_digit (d : Nat) (h : d < 10) : digit (UInt8.ofNat (48 + d)) = true := by unfold digit; rw [dec_byte d h]; exact decide_eq_true (by omega)
theorem dec_all (u : Nat) : (Lib.decDigits u).all digit = true ∧ Lib.decDigits u ≠ [] ∧ val (Lib.decDigits u) = u ∧ (0 < u → (Lib.decDigits u).head? ≠ some 48) := by
  induction u using Nat.strongRecOn with
  | _ u ih =>
    by_cases h : u < 10
    · rw [dec_small h]
      have hd := dec_digit u h
      have hb := dec_byte u h
      generalize UInt8.ofNat (48 + u) = c at hd hb ⊢
      refine ⟨by simp [hd], by simp, by simp [val, hb], fun h0 q => ?_⟩
      simp only [List.head?_cons, Option.some.injEq] at q
      have := congrArg UInt8.toNat q
      rw [hb] at this
      have h48 : (48 : UInt8).toNat = 48 := rfl
      omega
    · rw [dec_big h]
      obtain ⟨h1, h2, h3, h4⟩ := ih (u / 10) (by omega)
      have hd := dec_digit (u % 10) (by omega)
      have hb := dec_byte (u % 10) (by omega)
      generalize UInt8.ofNat (48 + u % 10) = c at hd hb ⊢
      refine ⟨by simp [List.all_append, h1, hd], by simp, ?_, fun _ => ?_⟩
      · have : val (Lib.decDigits (u / 10) ++ [c]) = 10 * val (Lib.decDigits (u / 10)) + (c.toNat - 48) := by simp [val]
        rw [this, h3, hb]
        omega
      · have q := h4 (by omega)
        cases hx : Lib.decDigits (u / 10) with
        | nil => exact (h2 hx).elim
        | cons x xs => rw [hx] at q; simpa using q
theorem dec_len : ∀ (k u : Nat), u < 10 ^ (k + 1) → (Lib.decDigits u).length ≤ k + 1
  | 0, u, h => by rw [dec_small (by simpa using h)]; simp
  | k + 1, u, h => by
    by_cases h10 : u < 10
    · rw [dec_small h10]; simp
    · rw [dec_big h10]
      have := dec_len k (u / 10) (by rw [Nat.pow_succ] at h; omega)
      simp; omega
theorem dec_tok {n : Int} (h : 0 ≤ n ∧ n ≤ 1099511627776) : tok (Lib.decDigits n.toNat) = .ok (1, Lib.decDigits n.toNat, n) := by
  obtain ⟨h1, h2, h3, h4⟩ := dec_all n.toNat
  have hn : numOk (Lib.decDigits n.toNat) = true := by
    unfold numOk
    rw [h3]
    simp only [Bool.and_eq_true, bne_iff_ne, ne_eq, decide_eq_true_eq, Bool.or_eq_true]
    refine ⟨⟨⟨h2, h1⟩, ?_⟩, by omega⟩
    by_cases h0 : 0 < n.toNat
    · exact .inr (h4 h0)
    · rw [show n.toNat = 0 by omega, dec_small (by omega)]; simp
  have := num_tok hn
  rw [h3, Int.toNat_of_nonneg h.1] at this
  exact this
/-! ### The tokens of a text -/
def isTok (b : B) : Prop := tok b.2.1 = .ok b
theorem flat_cons (b : B) (L : List B) : flat (b :: L) = b.2.1 ++ (if b.1 = 2 then 10 else 32) :: flat L := by simp [flat]
theorem flat_append (L M : List B) : flat (L ++ M) = flat L ++ flat M := by simp [flat]
theorem lex_flat : ∀ (L : List B), (∀ b ∈ L, isTok b) → ∀ p : Int, ∃ ts, lex (flat L) p = .ok ts ∧ ts.map br = L ++ [(3, [], 0)]
  | [], _, p => ⟨_, lex_nil p, rfl⟩
  | b :: L, h, p => by
    have hb : tok b.2.1 = .ok (b.1, b.2.1, b.2.2) := h b (List.mem_cons_self ..)
    obtain ⟨ts, h1, h2⟩ := lex_flat L (fun c hc => h c (List.mem_cons_of_mem _ hc)) (p + b.2.1.length + 1)
    have hbl : Lx.blank (if b.1 = 2 then (10 : UInt8) else 32) = true := by split <;> decide
    refine ⟨⟨b.1, b.2.1, b.2.2, p⟩ :: ts, ?_, ?_⟩
    · rw [flat_cons, lex_join hbl, lex_self hb]
      simp only
      rw [h1]; rfl
    · rw [List.map_cons, h2]; rfl
theorem kw_tok {s : S} (h : wordOk s = true) : isTok (kw s) := word_tok h
theorem semi_tok : isTok semi := rfl
theorem nu_tok {n : Int} (h : within n 0 1073741824) : isTok (nu n) := dec_tok ⟨h.1, Int.le_trans h.2 (by decide)⟩
theorem getD_word {ws : List S} (hw : ∀ x ∈ ws, wordOk x = true) {n : Int} (h : n.toNat < ws.length) : wordOk (ws.getD n.toNat []) = true := by
  rw [List.getD_eq_getElem?_getD, List.getElem?_eq_getElem h]
  exact hw _ (List.getElem_mem h)
theorem pb_tok {p : Pf} (h : Rt p) : ∀ b ∈ pb p, isTok b := by
  obtain ⟨⟨k1, k2, k3, k4, k5, k6, k7⟩, ⟨n1, n2, n3, n4, n5, n6, n7, n8, n9⟩, hw, he, hf⟩ := id h
  have w1 := getD_word (ws := deW) (by decide) (n := p.delete) (by unfold within at k2; simp [deW]; omega)
  have w2 := getD_word (ws := thW) (by decide) (n := p.thread) (by unfold within at k3; simp [thW]; omega)
  have w3 := getD_word (ws := joW) (by decide) (n := p.join) (by unfold within at k4; simp [joW]; omega)
  have w4 := getD_word (ws := hiW) (by decide) (n := p.history) (by unfold within at k5; simp [hiW]; omega)
  have w5 := getD_word (ws := reW) (by decide) (n := p.remove) (by unfold within at k6; simp [reW]; omega)
  have w6 := getD_word (ws := leW) (by decide) (n := p.level) (by unfold within at k7; simp [leW]; omega)
  have yn1 : ∀ b, wordOk (ynw b) = true := by decide
  have hpart : ∀ w v, wordOk w = true → wordOk v = true → ∀ b ∈ bPart w v, isTok b := by
    intro w v h1 h2 b hb
    simp only [bPart, List.mem_cons, List.not_mem_nil, or_false] at hb
    rcases hb with rfl | rfl | rfl
    · exact kw_tok h1
    · exact kw_tok h2
    · exact semi_tok
  have app : ∀ {X Y : List B}, (∀ b ∈ X, isTok b) → (∀ b ∈ Y, isTok b) → ∀ b ∈ X ++ Y, isTok b := fun hX hY b hb => (List.mem_append.1 hb).elim (hX b) (hY b)
  unfold pb
  refine app ?_ (app ?_ (app (hpart _ _ (by decide) w1) (app (hpart _ _ (by decide) (yn1 _)) (app (hpart _ _ (by decide) w2) (app (hpart _ _ (by decide) (yn1 _)) (app (hpart _ _ (by decide) (yn1 _)) (app ?_ (app ?_ (app (hpart _ _ (by decide) w3) (app (hpart _ _ (by decide) w4) (app (hpart _ _ (by decide) w5) (app ?_ (app ?_ ?_)))))))))))))
  · intro b hb
    simp only [List.mem_cons, List.not_mem_nil, or_false] at hb
    rcases hb with rfl | rfl | rfl
    · exact kw_tok (by decide)
    · exact kw_tok hw
    · exact semi_tok
  · intro b hb
    unfold bEdit at hb
    split at hb
    · split at hb
      · simp only [List.mem_cons, List.not_mem_nil, or_false] at hb
        rcases hb with rfl | rfl | rfl
        · exact kw_tok (by decide)
        · exact kw_tok (by decide)
        · exact semi_tok
      · simp only [List.mem_cons, List.not_mem_nil, or_false] at hb
        rcases hb with rfl | rfl | rfl | rfl | rfl
        · exact kw_tok (by decide)
        · exact kw_tok (by decide)
        · exact kw_tok (by decide)
        · exact nu_tok n1
        · exact semi_tok
    · simp only [List.mem_cons, List.not_mem_nil, or_false] at hb
      rcases hb with rfl | rfl | rfl
      · exact kw_tok (by decide)
      · exact kw_tok (by decide)
      · exact semi_tok
  · intro b hb
    simp only [List.mem_cons, List.not_mem_nil, or_false] at hb
    rcases hb with rfl | rfl | rfl | rfl | rfl
    · exact kw_tok (by decide)
    · exact nu_tok n2
    · exact kw_tok (by decide)
    · exact nu_tok n3
    · exact semi_tok
  · intro b hb
    unfold bFiles at hb
    split at hb
    · cases hb
    · rename_i h0
      simp only [List.mem_cons, List.mem_append, List.mem_map, List.not_mem_nil, or_false] at hb
      rcases hb with rfl | rfl | rfl | rfl | rfl | ⟨x, hx, rfl⟩ | rfl
      · exact kw_tok (by decide)
      · exact nu_tok n4
      · exact kw_tok (by decide)
      · exact nu_tok n5
      · exact kw_tok (by decide)
      · exact kw_tok ((hf.2 h0).2 x hx)
      · exact semi_tok
  · intro b hb
    unfold bLevel at hb
    simp only [List.mem_cons, List.mem_append, List.not_mem_nil, or_false] at hb
    rcases hb with rfl | rfl | hb | rfl
    · exact kw_tok (by decide)
    · exact kw_tok w6
    · split at hb
      · simp at hb; subst hb; exact kw_tok (by decide)
      · cases hb
    · exact semi_tok
  · intro b hb
    simp only [List.mem_cons, List.not_mem_nil, or_false] at hb
    rcases hb with rfl | rfl | rfl | rfl | rfl | rfl | rfl
    · exact kw_tok (by decide)
    · exact nu_tok n6
    · exact kw_tok (by decide)
    · exact nu_tok n7
    · exact kw_tok (by decide)
    · exact nu_tok n8
    · exact semi_tok
  · intro b hb
    unfold bKeep at hb
    split at hb
    · cases hb
    · simp only [List.mem_cons, List.not_mem_nil, or_false] at hb
      rcases hb with rfl | rfl | rfl
      · exact kw_tok (by decide)
      · exact nu_tok n9
      · exact semi_tok
/-- The text of a right profile is read as this profile. -/
theorem text_lex {p : Pf} (h : Rt p) : ∃ ts, lex (text p) 0 = .ok ts ∧ out ts = (p, 0, 0) := by
  obtain ⟨ts, h1, h2⟩ := lex_flat (pb p) (pb_tok h) 0
  refine ⟨ts, h1, ?_⟩
  obtain ⟨r', h3, _⟩ := loc_ok loc_parse (l' := ts) (by rw [h2, List.map_append, List.map_map, show br ∘ mk = id from funext fun b => rfl, List.map_id]; rfl) (parse_pb h)
  unfold out
  rw [h3]
end Sy
end Go.Proofs.YtlefgffnjcmfoaaGreatDoor
namespace Go.Proofs.YtlefgffnjcmfoaaGreatDoor
namespace Sy
open Lx
def fl (L : List B) : Nat := (flat L).length
theorem fl_nil : fl [] = 0 := rfl
theorem fl_cons (b : B) (L : List B) : fl (b :: L) = b.2.1.length + 1 + fl L := by unfold fl; rw [flat_cons, List.length_append, List.length_cons]; omega
theorem fl_append (L M : List B) : fl (L ++ M) = fl L + fl M := by unfold fl; rw [flat_append, List.length_append]
theorem fl_types : ∀ xs : List S, (∀ x ∈ xs, x.length ≤ 20) → fl (xs.map kw) ≤ 21 * xs.length
  | [], _ => by simp [fl_nil]
  | x :: xs, h => by
    have ih := fl_types xs fun y hy => h y (List.mem_cons_of_mem _ hy)
    have hx := h x (List.mem_cons_self ..)
    rw [List.map_cons, fl_cons, List.length_cons]
    show x.length + 1 + _ ≤ _
    omega
theorem word_len {s : S} (h : wordOk s = true) : s.length ≤ 20 := by
  unfold wordOk at h; rw [Bool.and_eq_true] at h; exact of_decide_eq_true h.1
theorem nu_len {n : Int} (h : within n 0 1073741824) : (nu n).2.1.length ≤ 10 := by
  have h2 := h.2
  have h3 : n.toNat ≤ 1073741824 := by omega
  exact dec_len 9 n.toNat (Nat.lt_of_le_of_lt h3 (by decide))
theorem within_zero : within 0 0 1073741824 := ⟨by decide, by decide⟩
theorem getD_len {ws : List S} (h : ∀ x ∈ ws, x.length ≤ 6) (i : Nat) : (ws.getD i []).length ≤ 6 := by
  rw [List.getD_eq_getElem?_getD]
  cases hx : ws[i]? with
  | none => simp
  | some x => exact h x (List.mem_of_getElem? hx)
theorem fl_part (w v : S) : fl (bPart w v) = w.length + v.length + 4 := by
  unfold bPart
  rw [fl_cons, fl_cons, fl_cons, fl_nil]
  show w.length + 1 + (v.length + 1 + (1 + 1 + 0)) = _
  omega
theorem edit_len {p : Pf} (h : Rt p) : fl (bEdit p) ≤ 40 := by
  have hn := nu_len h.2.1.1
  unfold bEdit
  split
  · split
    · decide
    · simp only [fl_cons, fl_nil]
      simp only [kw, semi, List.length_cons, List.length_nil]
      omega
  · decide
theorem files_len {p : Pf} (h : Rt p) : fl (bFiles p) ≤ 470 := by
  have h1 := nu_len h.2.1.2.2.2.1
  have h2 := nu_len h.2.1.2.2.2.2.1
  have hf := h.2.2.2.2
  unfold bFiles
  split
  · rw [fl_nil]; omega
  · rename_i h0
    have h3 := fl_types p.types fun x hx => word_len ((hf.2 h0).2 x hx)
    have h4 := (hf.2 h0).1.2
    simp only [fl_cons, fl_append, fl_nil]
    simp only [kw, semi, List.length_cons, List.length_nil] at *
    omega
theorem level_len (p : Pf) : fl (bLevel p) ≤ 30 := by
  have h1 := getD_len (ws := leW) (by decide) p.level.toNat
  unfold bLevel
  cases p.batch with
  | true =>
    simp only [if_true, fl_cons, fl_append, fl_nil]
    simp only [kw, semi, List.length_cons, List.length_nil]
    omega
  | false =>
    simp only [Bool.false_eq_true, if_false, fl_cons, fl_append, fl_nil]
    simp only [kw, semi, List.length_cons, List.length_nil]
    omega
theorem keep_len {p : Pf} (h : Rt p) : fl (bKeep p) ≤ 20 := by
  have h1 := nu_len h.2.1.2.2.2.2.2.2.2.2
  unfold bKeep
  split
  · rw [fl_nil]; omega
  · simp only [fl_cons, fl_nil]
    simp only [kw, semi, List.length_cons, List.length_nil]
    omega
/-- A right profile's text fits. -/
theorem text_len {p : Pf} (h : Rt p) : (text p).length ≤ 1000 := by
  have h1 := edit_len h
  have h2 := files_len h
  have h3 := level_len p
  have h4 := keep_len h
  have h5 := word_len h.2.2.1
  obtain ⟨n1, n2, n3, n4, n5, n6, n7, n8, n9⟩ := h.2.1
  have m2 := nu_len n2
  have m3 := nu_len n3
  have m6 := nu_len n6
  have m7 := nu_len n7
  have m8 := nu_len n8
  have w1 := getD_len (ws := deW) (by decide) p.delete.toNat
  have w2 := getD_len (ws := thW) (by decide) p.thread.toNat
  have w3 := getD_len (ws := joW) (by decide) p.join.toNat
  have w4 := getD_len (ws := hiW) (by decide) p.history.toNat
  have w5 := getD_len (ws := reW) (by decide) p.remove.toNat
  have hy : ∀ b, (ynw b).length ≤ 3 := by decide
  have y1 := hy p.react
  have y2 := hy p.quote
  have y3 := hy p.mention
  show fl (pb p) ≤ 1000
  unfold pb
  simp only [fl_append, fl_part]
  simp only [fl_cons, fl_nil]
  simp only [kw, semi, List.length_cons, List.length_nil]
  omega
/-! ### Without optional parts -/
def noWithin (p : Pf) : Pf := { p with within := 0 }
def noFiles (p : Pf) : Pf := { p with files := 0, bytes := 0, types := [] }
def noKeep (p : Pf) : Pf := { p with keep := 0 }
theorem rt_noWithin {p : Pf} (h : Rt p) : Rt (noWithin p) := ⟨h.1, ⟨within_zero, h.2.1.2⟩, h.2.2.1, fun _ => rfl, h.2.2.2.2⟩
theorem rt_noFiles {p : Pf} (h : Rt p) : Rt (noFiles p) := by
  obtain ⟨n1, n2, n3, n4, n5, n6⟩ := h.2.1
  exact ⟨h.1, ⟨n1, n2, n3, within_zero, within_zero, n6⟩, h.2.2.1, h.2.2.2.1, fun _ => ⟨rfl, rfl⟩, fun q => (q rfl).elim⟩
theorem rt_noKeep {p : Pf} (h : Rt p) : Rt (noKeep p) := by
  obtain ⟨n1, n2, n3, n4, n5, n6, n7, n8, n9⟩ := h.2.1
  exact ⟨h.1, ⟨n1, n2, n3, n4, n5, n6, n7, n8, within_zero⟩, h.2.2.1, h.2.2.2.1, h.2.2.2.2⟩
theorem noWithin_len {p : Pf} (h : Rt p) (h0 : 0 < p.within) : (text (noWithin p)).length < (text p).length := by
  have he : p.edit = 2 := h.1.1.resolve_left fun q => by have := h.2.2.2.1 q; omega
  have h1 : fl (bEdit (noWithin p)) < fl (bEdit p) := by
    unfold bEdit
    rw [if_pos (show (noWithin p).edit = 2 from he), if_pos (show (noWithin p).within = 0 from rfl), if_pos he, if_neg (by omega)]
    simp only [fl_cons, fl_nil]
    simp only [kw, semi, List.length_cons, List.length_nil]
    omega
  show fl (pb (noWithin p)) < fl (pb p)
  have e1 : bFiles (noWithin p) = bFiles p := rfl
  have e2 : bLevel (noWithin p) = bLevel p := rfl
  have e3 : bKeep (noWithin p) = bKeep p := rfl
  unfold pb
  simp only [fl_append]
  rw [e1, e2, e3]
  simp only [noWithin] at h1 ⊢
  omega
theorem noFiles_len {p : Pf} (h0 : p.files ≠ 0) : (text (noFiles p)).length < (text p).length := by
  have h1 : fl (bFiles (noFiles p)) < fl (bFiles p) := by
    unfold bFiles
    rw [if_pos (show (noFiles p).files = 0 from rfl), if_neg h0, fl_nil]
    simp only [fl_cons]
    omega
  show fl (pb (noFiles p)) < fl (pb p)
  have e1 : bEdit (noFiles p) = bEdit p := rfl
  have e2 : bLevel (noFiles p) = bLevel p := rfl
  have e3 : bKeep (noFiles p) = bKeep p := rfl
  unfold pb
  simp only [fl_append]
  rw [e1, e2, e3]
  simp only [noFiles] at h1 ⊢
  omega
theorem noKeep_len {p : Pf} (h0 : p.keep ≠ 0) : (text (noKeep p)).length < (text p).length := by
  have h1 : fl (bKeep (noKeep p)) < fl (bKeep p) := by
    unfold bKeep
    rw [if_pos (show (noKeep p).keep = 0 from rfl), if_neg h0, fl_nil]
    simp only [fl_cons]
    omega
  show fl (pb (noKeep p)) < fl (pb p)
  have e1 : bEdit (noKeep p) = bEdit p := rfl
  have e2 : bLevel (noKeep p) = bLevel p := rfl
  have e3 : bFiles (noKeep p) = bFiles p := rfl
  unfold pb
  simp only [fl_append]
  rw [e1, e2, e3]
  simp only [noKeep] at h1 ⊢
  omega
theorem noWithin_same {p : Pf} (h : p.within = 0) : noWithin p = p := by unfold noWithin; cases p; simp at h; subst h; rfl
theorem noFiles_same {p : Pf} (hr : Rt p) (h : p.files = 0) : noFiles p = p := by
  obtain ⟨h1, h2⟩ := hr.2.2.2.2.1 h
  unfold noFiles; cases p; simp at h h1 h2; subst h; subst h1; subst h2; rfl
theorem noKeep_same {p : Pf} (h : p.keep = 0) : noKeep p = p := by unfold noKeep; cases p; simp at h; subst h; rfl
/-! ### Parse -/
theorem toks_ws {s : S} {q : Int} {ts : List Tk} (h : lex s q = .ok ts) : Ws ts := by
  obtain ⟨us, rfl, h2⟩ := lex_toks h
  intro t ht hk
  rcases List.mem_append.1 ht with q | q
  · have := h2 t q
    rw [hk] at this
    exact tok_word this
  · simp at q; subst q; cases hk
theorem parseS_text {p : Pf} (h : Rt p) : parseS (text p) = (p, 0, 0) := by
  obtain ⟨ts, h1, h2⟩ := text_lex h
  have := text_len h
  unfold parseS
  rw [if_neg (by omega), h1]; exact h2
theorem printS_right {p : Pf} (h : Rt p) : printS p = (text p, 0) := by
  have := text_len h
  unfold printS
  rw [if_pos h, if_neg (by omega)]
theorem printS_wrong {p : Pf} (h : ¬ Rt p) : printS p = ([], 1) := by unfold printS; rw [if_neg h]
/-- The cases of Parse. -/
theorem out_cases {s : S} {q : Int} {ts : List Tk} (h : lex s q = .ok ts) : (∃ p, out ts = (p, 0, 0) ∧ Rt p) ∨ ∃ pre r e a, ts = pre ++ r ∧ parse (.ok ts) = (a, .error (r, e)) ∧ out ts = (zero, posOf r, e) := by
  unfold out
  cases hp : parse (.ok ts) with
  | mk p x =>
    cases x with
    | ok r => exact .inl ⟨p, rfl, (yld_parse.2 ts p r (toks_ws h) hp).1⟩
    | error v =>
      obtain ⟨r, e⟩ := v
      obtain ⟨_, pre, _, _, h1, _⟩ := loc_err loc_parse rfl hp
      exact .inr ⟨pre, r, e, p, h1, rfl, rfl⟩
end Sy
end Go.Proofs.YtlefgffnjcmfoaaGreatDoor
namespace Go.Proofs.YtlefgffnjcmfoaaGreatDoor
namespace Sy
open Lx
theorem pos_in {s : S} : ∀ {p : Int} {ts : List Tk}, lex s p = .ok ts → ∀ t ∈ ts, p ≤ t.pos ∧ t.pos ≤ p + s.length := by
  induction s using lex_ind with
  | h0 => intro p ts h t ht; cases h; simp at ht; subst ht; simp
  | h1 c r hb ih =>
    intro p ts h t ht
    rw [lex_blank hb] at h
    have := ih h t ht
    rw [List.length_cons]; omega
  | h2 c r e hb ht => intro p ts h; rw [lex_bad hb ht] at h; cases h
  | h3 c r k w n hb ht ih =>
    intro p ts h t hm
    rw [lex_tok hb ht] at h
    have hl := tok_len ht
    cases hd : lex ((c :: r).drop w.length) (p + w.length) with
    | error v => rw [hd] at h; cases h
    | ok vs =>
      rw [hd] at h
      cases h
      rcases List.mem_cons.1 hm with rfl | q
      · simp; omega
      · have := ih hd t q
        rw [List.length_drop] at this
        omega
/-- Tokens ascend. -/
theorem pos_lt {s : S} : ∀ {p : Int} {ts : List Tk}, lex s p = .ok ts → ∀ (i j : Nat) (a b : Tk), i < j → ts[i]? = some a → ts[j]? = some b → a.pos < b.pos := by
  induction s using lex_ind with
  | h0 =>
    intro p ts h i j a b hij ha hb
    cases h
    have := (List.getElem?_eq_some_iff.1 hb).1
    simp at this; omega
  | h1 c r hb ih => intro p ts h; rw [lex_blank hb] at h; exact ih h
  | h2 c r e hb ht => intro p ts h; rw [lex_bad hb ht] at h; cases h
  | h3 c r k w n hb ht ih =>
    intro p ts h i j a b hij ha hb2
    rw [lex_tok hb ht] at h
    have hl := tok_len ht
    cases hd : lex ((c :: r).drop w.length) (p + w.length) with
    | error v => rw [hd] at h; cases h
    | ok vs =>
      rw [hd] at h
      cases h
      cases j with
      | zero => omega
      | succ j =>
        simp only [List.getElem?_cons_succ] at hb2
        cases i with
        | zero =>
          simp only [List.getElem?_cons_zero, Option.some.injEq] at ha
          subst ha
          have := (pos_in hd b (List.mem_of_getElem? hb2)).1
          simp only
          omega
        | succ i =>
          simp only [List.getElem?_cons_succ] at ha
          exact ih hd i j a b (by omega) ha hb2
/-- The last token is the end, and no other one is. -/
theorem last_end {s : S} {p : Int} {ts : List Tk} (h : lex s p = .ok ts) : ∃ us, ts = us ++ [⟨3, [], 0, p + s.length⟩] ∧ ∀ t ∈ us, t.kind ≠ 3 := by
  obtain ⟨us, h1, h2⟩ := lex_toks h
  exact ⟨us, h1, fun t ht => (tok_kind (h2 t ht)).1⟩
/-- The tokens of a beginning. -/
theorem lex_prefix {s : S} : ∀ {p : Int} {ts : List Tk}, lex s p = .ok ts → ∀ (k m : Nat) (z : Tk), ts[k]? = some z → z.pos = p + m →
    lex (s.take m) p = .ok (ts.take k ++ [⟨3, [], 0, p + m⟩]) ∧ (z.kind ≠ 3 → lex (s.take (m + z.text.length)) p = .ok (ts.take (k + 1) ++ [⟨3, [], 0, p + m + z.text.length⟩])) := by
  induction s using lex_ind with
  | h0 =>
    intro p ts h k m z hz hp
    cases h
    have hk := (List.getElem?_eq_some_iff.1 hz).1
    simp at hk
    subst hk
    simp at hz
    subst hz
    have : m = 0 := by simp only at hp; omega
    subst this
    exact ⟨by simp [lex_nil], fun q => (q rfl).elim⟩
  | h1 c r hb ih =>
    intro p ts h k m z hz hp
    rw [lex_blank hb] at h
    have := (pos_in h z (List.mem_of_getElem? hz)).1
    obtain ⟨m', rfl⟩ : ∃ m', m = m' + 1 := ⟨m - 1, by omega⟩
    obtain ⟨h1, h2⟩ := ih h k m' z hz (by omega)
    refine ⟨?_, fun q => ?_⟩
    · rw [List.take_succ_cons, lex_blank hb, h1, show p + 1 + (m' : Int) = p + ((m' + 1 : Nat) : Int) by omega]
    · rw [show m' + 1 + z.text.length = m' + z.text.length + 1 by omega, List.take_succ_cons, lex_blank hb, h2 q, show p + 1 + (m' : Int) = p + ((m' + 1 : Nat) : Int) by omega]
  | h2 c r e hb ht => intro p ts h; rw [lex_bad hb ht] at h; cases h
  | h3 c r kk w n hb ht ih =>
    intro p ts h k m z hz hp
    rw [lex_tok hb ht] at h
    have hl := tok_len ht
    cases hd : lex ((c :: r).drop w.length) (p + w.length) with
    | error v => rw [hd] at h; cases h
    | ok vs =>
      rw [hd] at h
      cases h
      have htake : (c :: r).take w.length = w := by
        have := hl.2.2
        conv => lhs; rw [← this]
        exact List.take_left
      cases k with
      | zero =>
        simp only [List.getElem?_cons_zero, Option.some.injEq] at hz
        subst hz
        have : m = 0 := by simp only at hp; omega
        subst this
        refine ⟨by simp [lex_nil], fun _ => ?_⟩
        simp only
        rw [Nat.zero_add, htake, lex_self ht]
        simp
      | succ k =>
        simp only [List.getElem?_cons_succ] at hz
        have hge := (pos_in hd z (List.mem_of_getElem? hz)).1
        obtain ⟨m', rfl⟩ : ∃ m', m = w.length + m' := ⟨m - w.length, by omega⟩
        obtain ⟨h1, h2⟩ := ih hd k m' z hz (by omega)
        have step : ∀ j : Nat, lex ((c :: r).take (w.length + j)) p = (match lex (((c :: r).drop w.length).take j) (p + w.length) with | .ok us => .ok (⟨kk, w, n, p⟩ :: us) | .error e => .error e) := by
          intro j
          obtain ⟨i, hi⟩ : ∃ i, w.length + j = i + 1 := ⟨w.length + j - 1, by omega⟩
          have htk : tok (c :: r.take i) = .ok (kk, w, n) := tok_take ht i (by omega)
          rw [hi, List.take_succ_cons, lex_tok hb htk, ← List.take_succ_cons, ← hi, List.drop_take, show w.length + j - w.length = j by omega]
          all_goals (cases lex (((c :: r).drop w.length).take j) (p + w.length) <;> rfl)
        refine ⟨?_, fun q => ?_⟩
        · rw [step, h1]
          simp only [List.take_succ_cons, List.cons_append]
          rw [show p + (w.length : Int) + (m' : Int) = p + ((w.length + m' : Nat) : Int) by omega]
        · rw [Nat.add_assoc, step, h2 q]
          simp only [List.take_succ_cons, List.cons_append]
          rw [show p + (w.length : Int) + (m' : Int) = p + ((w.length + m' : Nat) : Int) by omega]
/-! ### Other blanks -/
theorem lex_skip {X : S} : ∀ (B : S), (∀ c ∈ B, Lx.blank c = true) → ∀ p : Int, lex (B ++ X) p = lex X (p + B.length)
  | [], _, p => by simp
  | c :: B, h, p => by
    rw [List.cons_append, lex_blank (h c (List.mem_cons_self ..)), lex_skip B (fun d hd => h d (List.mem_cons_of_mem _ hd)), List.length_cons, show p + 1 + (B.length : Int) = p + ((B.length + 1 : Nat) : Int) by omega]
def spr (pd : Nat → S) : Nat → List Tk → S
  | _, [] => []
  | i, t :: l => 32 :: (pd i ++ (t.text ++ spr pd (i + 1) l))
def places (pd : Nat → S) : Nat → Int → List Tk → List Int
  | _, _, [] => []
  | i, q, t :: l => (q + 1 + (pd i).length) :: places pd (i + 1) (q + 1 + (pd i).length + t.text.length) l
theorem lex_spr {pd : Nat → S} (hpd : ∀ i, ∀ c ∈ pd i, Lx.blank c = true) : ∀ (us : List Tk) (i : Nat) (q x : Int), (∀ t ∈ us, tok t.text = .ok (t.kind, t.text, t.n)) →
    ∃ vs, lex (spr pd i (us ++ [⟨3, [], 0, x⟩])) q = .ok vs ∧ vs.map br = (us ++ [(⟨3, [], 0, x⟩ : Tk)]).map br ∧ vs.map (fun t => t.pos) = places pd i q (us ++ [⟨3, [], 0, x⟩])
  | [], i, q, x, _ => by
    refine ⟨[⟨3, [], 0, q + 1 + (pd i).length⟩], ?_, rfl, rfl⟩
    show lex (32 :: (pd i ++ ([] ++ []))) q = _
    rw [lex_blank (by decide), lex_skip _ (hpd i)]
    exact lex_nil _
  | u :: us, i, q, x, h => by
    obtain ⟨vs, h1, h2, h3⟩ := lex_spr hpd us (i + 1) (q + 1 + (pd i).length + u.text.length) x fun t ht => h t (List.mem_cons_of_mem _ ht)
    obtain ⟨y, hy⟩ : ∃ y, spr pd (i + 1) (us ++ [⟨3, [], 0, x⟩]) = 32 :: y := by
      cases us with
      | nil => exact ⟨_, rfl⟩
      | cons v us => exact ⟨_, rfl⟩
    rw [hy, lex_blank (by decide)] at h1
    refine ⟨⟨u.kind, u.text, u.n, q + 1 + (pd i).length⟩ :: vs, ?_, ?_, ?_⟩
    · show lex (32 :: (pd i ++ (u.text ++ spr pd (i + 1) (us ++ [(⟨3, [], 0, x⟩ : Tk)])))) q = _
      rw [lex_blank (by decide), lex_skip _ (hpd i), hy, lex_join (by decide), lex_self (h u (List.mem_cons_self ..))]
      simp only
      rw [h1]; rfl
    · rw [List.map_cons, h2]; rfl
    · rw [List.map_cons, h3]; rfl
/-- Two lists with the same tokens: the same answer, or the same error at the same token. -/
theorem out_same {l l' : List Tk} (h : l'.map br = l.map br) : (∃ p, out l = (p, 0, 0) ∧ out l' = (p, 0, 0)) ∨ ∃ (pre pre' r r' : List Tk) (e : Int), l = pre ++ r ∧ l' = pre' ++ r' ∧ pre'.length = pre.length ∧ r'.length = r.length ∧ (∀ t ∈ pre, t.kind ≠ 3) ∧ out l = (zero, posOf r, e) ∧ out l' = (zero, posOf r', e) := by
  unfold out
  cases hp : parse (.ok l) with
  | mk p x =>
    cases x with
    | ok r =>
      obtain ⟨r', h1, _⟩ := loc_ok loc_parse h hp
      exact .inl ⟨p, rfl, by rw [h1]⟩
    | error v =>
      obtain ⟨r, e⟩ := v
      obtain ⟨a', pre, pre', r', h1, h2, h3, h4, h5⟩ := loc_err loc_parse h hp
      refine .inr ⟨pre, pre', r, r', e, h1, h2, h5, by have := congrArg List.length h4; simpa using this, ?_, rfl, by rw [h3]⟩
      obtain ⟨pre0, r0, q1, q2, q3⟩ := loc_parse.2 l
      rcases q3 with ⟨_, q3, _⟩ | ⟨_, _, q3, _⟩
      · rw [hp] at q3; cases q3
      · rw [hp] at q3; cases q3
        have : pre = pre0 := List.append_cancel_right (h1.symm.trans q1)
        rw [this]; exact q2
/-! ### What follows an error, and what precedes it -/
/-- Behind the token of the error anything may stand. -/
theorem out_more {pre r us : List Tk} {z : Tk} {a : Pf} {e : Int} (h : parse (.ok (pre ++ z :: r)) = (a, .error (z :: r, e))) : out (pre ++ z :: us) = (zero, z.pos, e) := by
  obtain ⟨pre0, r0, q1, _, ⟨_, q3, _⟩ | ⟨_, _, q3, q4⟩⟩ := loc_parse.2 (pre ++ z :: r)
  · rw [h] at q3; cases q3
  · rw [h] at q3; cases q3
    have : pre = pre0 := List.append_cancel_right q1
    subst this
    obtain ⟨a', h5⟩ := q4 pre (z :: us) rfl rfl
    unfold out
    rw [h5]; rfl
/-- Without the token of the error, and without what follows, an error is at the end. -/
theorem out_less {pre r : List Tk} {E : Tk} {a : Pf} {e : Int} (h : parse (.ok (pre ++ r)) = (a, .error (r, e))) (hE : E.kind = 3) : (∃ p, out (pre ++ [E]) = (p, 0, 0)) ∨ ∃ e', out (pre ++ [E]) = (zero, E.pos, e') := by
  obtain ⟨q, r1, q1, q2, ⟨b, q3, _⟩ | ⟨b, e1, q3, q4⟩⟩ := loc_parse.2 (pre ++ [E])
  · exact .inl ⟨b, by unfold out; rw [q3]⟩
  · refine .inr ⟨e1, ?_⟩
    have key : r1 = [E] := by
      rcases List.append_eq_append_iff.1 q1 with ⟨c, h1, h2⟩ | ⟨c, h1, h2⟩
      · cases c with
        | nil => simpa using h2.symm
        | cons x c =>
          simp only [List.cons_append, List.cons.injEq] at h2
          have hx : E ∈ q := by rw [h1, ← h2.1]; simp
          exact (q2 E hx hE).elim
      · cases c with
        | nil => simpa using h2
        | cons x c =>
          exfalso
          have h3 : hd (x :: (c ++ r)) = hd r1 := by rw [h2]; rfl
          obtain ⟨a', h4⟩ := q4 q (x :: (c ++ r)) rfl h3
          have h5 : q ++ x :: (c ++ r) = pre ++ r := by rw [h1]; simp
          rw [h5, h] at h4
          have h6 := congrArg (fun v : Pf × R => v.2) h4
          simp only [Except.error.injEq, Prod.mk.injEq] at h6
          have := congrArg List.length h6.1
          simp at this
          omega
    subst key
    unfold out
    rw [q3]; rfl
end Sy
end Go.Proofs.YtlefgffnjcmfoaaGreatDoor
