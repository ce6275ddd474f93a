/- Tokens of two texts; what precedes an error; positions. No Go. -/
import Derived.Test.YtenbdnkipkfpkaaDoorLx
namespace Go.Proofs.YtenbdnkipkfpkaaDoor
namespace Lx
theorem tw_append {q : UInt8 → Bool} {y : S} (hy : ∀ d, y.head? = some d → q d = false) : ∀ r : S, (r ++ y).takeWhile q = r.takeWhile q
  | [] => by
    cases y with
    | nil => rfl
    | cons d y => rw [List.nil_append, List.takeWhile_cons_of_neg (by rw [hy d rfl]; simp)]; rfl
  | c :: r => by
    rw [List.cons_append]
    by_cases h : q c = true
    · rw [List.takeWhile_cons_of_pos h, List.takeWhile_cons_of_pos h, tw_append hy r]
    · rw [List.takeWhile_cons_of_neg h, List.takeWhile_cons_of_neg h]
theorem tw_take {q : UInt8 → Bool} : ∀ (r : S) (j : Nat), (r.takeWhile q).length ≤ j → (r.take j).takeWhile q = r.takeWhile q
  | [], j, _ => by simp
  | c :: r, 0, h => by
    by_cases hq : q c = true
    · rw [List.takeWhile_cons_of_pos hq] at h; simp at h
    · rw [List.takeWhile_cons_of_neg hq]; rfl
  | c :: r, j + 1, h => by
    rw [List.take_succ_cons]
    by_cases hq : q c = true
    · rw [List.takeWhile_cons_of_pos hq] at h ⊢
      rw [List.takeWhile_cons_of_pos hq, tw_take r j (by simpa using h)]
    · rw [List.takeWhile_cons_of_neg hq, List.takeWhile_cons_of_neg hq]
theorem not_digit {d : UInt8} (h : alnum d = false) : digit d = false := by
  unfold alnum at h; rw [Bool.or_eq_false_iff] at h; exact h.2
/-- What follows a token does not matter, if no letter and no digit is first. -/
theorem tok_append {c : UInt8} {r y : S} (hy : ∀ d, y.head? = some d → alnum d = false) : tok (c :: (r ++ y)) = tok (c :: r) := by
  rw [tok_cons, tok_cons, tw_append hy, tw_append (q := digit) fun d hd => not_digit (hy d hd)]
theorem tok_take {c : UInt8} {r w : S} {k n : Int} (h : tok (c :: r) = .ok (k, w, n)) (j : Nat) (hj : w.length ≤ j + 1) : tok (c :: r.take j) = .ok (k, w, n) := by
  rw [tok_cons] at h ⊢
  by_cases h1 : letter c = true
  · rw [if_pos h1] at h ⊢
    by_cases h2 : (c :: r.takeWhile alnum).length ≤ 20
    · rw [if_pos h2] at h
      cases h
      rw [tw_take r j (by simpa using hj), if_pos h2]
    · rw [if_neg h2] at h; cases h
  · rw [if_neg h1] at h ⊢
    by_cases h3 : digit c = true
    · rw [if_pos h3] at h ⊢
      by_cases h2 : numOk (c :: r.takeWhile digit) = true
      · rw [if_pos h2] at h
        cases h
        rw [tw_take r j (by simpa using hj), if_pos h2]
      · rw [if_neg h2] at h; cases h
    · rw [if_neg h3] at h ⊢; exact h
/-- A token alone. -/
theorem tok_self {s w : S} {k n : Int} (h : tok s = .ok (k, w, n)) : tok w = .ok (k, w, n) := by
  have hl := tok_len h
  cases s with
  | nil => cases h
  | cons c r =>
    obtain ⟨d, hd, hw⟩ := tok_pre h
    cases w with
    | nil => exact (hw rfl).elim
    | cons x w =>
      rw [List.cons_append] at hd
      obtain ⟨rfl, rfl⟩ := List.cons.inj hd
      have := tok_take h w.length (by simp)
      rwa [List.take_left] at this
theorem tok_head {s w : S} {k n : Int} (h : tok s = .ok (k, w, n)) : ∃ c r, s = c :: r ∧ w.head? = some c := by
  obtain ⟨d, rfl, hw⟩ := tok_pre h
  cases w with
  | nil => exact (hw rfl).elim
  | cons x w => exact ⟨x, w ++ d, rfl, rfl⟩
theorem lex_ne {s : S} : ∀ {p : Int} {ts : List Tk}, lex s p = .ok ts → ts ≠ [] := by
  induction s using lex_ind with
  | h0 => intro p ts h; cases h; simp
  | h1 c r hb ih => intro p ts h; rw [lex_blank hb] at h; exact ih h
  | h2 c r e hb ht => intro p ts h; rw [lex_bad hb ht] at h; cases h
  | h3 c r k w n hb ht ih =>
    intro p ts h
    rw [lex_tok hb ht] at h
    split at h
    · cases h; simp
    · cases h
/-- Two texts with a blank between them. -/
theorem lex_join {b : UInt8} (hb : blank b = true) (y x : S) : ∀ p : Int, lex (x ++ b :: y) p = (match lex x p with
    | .error e => .error e
    | .ok ts => match lex y (p + x.length + 1) with
      | .error e => .error e
      | .ok us => .ok (ts.dropLast ++ us)) := by
  have hy : ∀ d, (b :: y).head? = some d → alnum d = false := fun d hd => by cases hd; exact (blank_not hb).1
  induction x using lex_ind with
  | h0 =>
    intro p
    rw [List.nil_append, lex_blank hb, lex_nil]
    simp only [List.length_nil]
    rw [show p + ((0 : Nat) : Int) + 1 = p + 1 by omega]
    cases lex y (p + 1) <;> rfl
  | h1 c r hc ih =>
    intro p
    rw [List.cons_append, lex_blank hc, lex_blank hc, ih, List.length_cons]
    rw [show p + 1 + (r.length : Int) + 1 = p + ((r.length + 1 : Nat) : Int) + 1 by omega]
  | h2 c r e hc ht =>
    intro p
    rw [List.cons_append, lex_bad hc (by rw [tok_append hy]; exact ht), lex_bad hc ht]
  | h3 c r k w n hc ht ih =>
    intro p
    have hl := tok_len ht
    rw [List.cons_append, lex_tok hc (by rw [tok_append hy]; exact ht), lex_tok hc ht, ← List.cons_append, List.drop_append_of_le_length hl.2.1, ih]
    have e : p + (w.length : Int) + (((c :: r).drop w.length).length : Int) + 1 = p + ((c :: r).length : Int) + 1 := by rw [List.length_drop]; omega
    rw [e]
    cases hd : lex ((c :: r).drop w.length) (p + w.length) with
    | error e => rfl
    | ok ts =>
      simp only
      cases lex y (p + ((c :: r).length : Int) + 1) with
      | error e => rfl
      | ok us =>
        simp only
        rw [List.dropLast_cons_of_ne_nil (lex_ne hd), List.cons_append]
/-- The same, so many bytes later. -/
def later (d : Int) (t : Tk) : Tk := ⟨t.kind, t.text, t.n, t.pos + d⟩
theorem lex_shift (d : Int) (s : S) : ∀ p : Int, lex s (p + d) = (match lex s p with | .error (i, e) => .error (i + d, e) | .ok ts => .ok (ts.map (later d))) := by
  induction s using lex_ind with
  | h0 => intro p; rfl
  | h1 c r hc ih => intro p; rw [lex_blank hc, lex_blank hc, show p + d + 1 = p + 1 + d by omega, ih]
  | h2 c r e hc ht => intro p; rw [lex_bad hc ht, lex_bad hc ht]
  | h3 c r k w n hc ht ih =>
    intro p
    rw [lex_tok hc ht, lex_tok hc ht, show p + d + (w.length : Int) = p + w.length + d by omega, ih]
    cases lex ((c :: r).drop w.length) (p + w.length) with
    | error v => rfl
    | ok ts => rfl
/-- What precedes an error, and what begins there. -/
theorem lex_error {s : S} : ∀ {p i e : Int}, lex s p = .error (i, e) → ∃ m : Nat, i = p + m ∧ m < s.length ∧ (∃ ts, lex (s.take m) p = .ok ts) ∧ (∀ q, lex (s.drop m) q = .error (q, e)) ∧ (e = 10 ∨ e = 11 ∨ e = 3) := by
  induction s using lex_ind with
  | h0 => intro p i e h; cases h
  | h1 c r hc ih =>
    intro p i e h
    rw [lex_blank hc] at h
    obtain ⟨m, h1, h2, ⟨ts, h3⟩, h4⟩ := ih h
    exact ⟨m + 1, by omega, by simpa using h2, ⟨ts, by rw [List.take_succ_cons, lex_blank hc]; exact h3⟩, h4⟩
  | h2 c r e' hc ht =>
    intro p i e h
    rw [lex_bad hc ht] at h
    cases h
    refine ⟨0, by omega, by simp, ⟨_, rfl⟩, fun q => lex_bad hc ht, ?_⟩
    rw [tok_cons] at ht
    split at ht
    · split at ht
      · cases ht
      · cases ht; simp
    · split at ht
      · split at ht
        · cases ht
        · cases ht; simp
      · split at ht
        · cases ht
        · cases ht; simp
  | h3 c r k w n hc ht ih =>
    intro p i e h
    rw [lex_tok hc ht] at h
    have hl := tok_len ht
    cases hd : lex ((c :: r).drop w.length) (p + w.length) with
    | ok ts => rw [hd] at h; cases h
    | error v =>
      obtain ⟨i', e'⟩ := v
      rw [hd] at h
      cases h
      obtain ⟨m, h1, h2, ⟨ts, h3⟩, h4, h5⟩ := ih hd
      rw [List.length_drop] at h2
      refine ⟨w.length + m, by omega, by omega, ?_, fun q => by rw [← List.drop_drop]; exact h4 q, h5⟩
      obtain ⟨j, hj⟩ : ∃ j, w.length + m = j + 1 := ⟨w.length + m - 1, by omega⟩
      have htk : tok (c :: r.take j) = .ok (k, w, n) := tok_take ht j (by omega)
      rw [hj, List.take_succ_cons, lex_tok hc htk, ← List.take_succ_cons, ← hj, List.drop_take, show w.length + m - w.length = m by omega, h3]
      exact ⟨_, rfl⟩
end Lx
end Go.Proofs.YtenbdnkipkfpkaaDoor
