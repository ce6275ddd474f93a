/- Tokens of declarations. No Go. -/
import Init
namespace Go.Proofs.YtenbdnkipkfpkaaDoor
namespace Lx
abbrev S := List UInt8
def blank (c : UInt8) : Bool := c == 9 || c == 10 || c == 32
def letter (c : UInt8) : Bool := decide (97 ≤ c.toNat ∧ c.toNat ≤ 122)
def digit (c : UInt8) : Bool := decide (48 ≤ c.toNat ∧ c.toNat ≤ 57)
def alnum (c : UInt8) : Bool := letter c || digit c
def val (s : S) : Nat := s.foldl (fun n c => 10 * n + (c.toNat - 48)) 0
def numOk (s : S) : Bool := s != [] && s.all digit && (decide (s.length ≤ 1) || s.head? != some 48) && decide (val s ≤ 1099511627776)
def wordOk (s : S) : Bool := decide (s.length ≤ 20) && (match s with | [] => false | c :: r => letter c && r.all alnum)
structure Tk where
  kind : Int
  text : S
  n : Int
  pos : Int
deriving DecidableEq
/-- The token at the beginning of a text that does not begin with a blank. -/
def tok : S → Except Int (Int × S × Int)
  | [] => .error 10
  | c :: r => if letter c = true then (if (c :: r.takeWhile alnum).length ≤ 20 then .ok (0, c :: r.takeWhile alnum, 0) else .error 11)
    else if digit c = true then (if numOk (c :: r.takeWhile digit) = true then .ok (1, c :: r.takeWhile digit, (val (c :: r.takeWhile digit) : Int)) else .error 3)
    else if c = 59 then .ok (2, [59], 0) else .error 10
theorem tok_cons (c : UInt8) (r : S) : tok (c :: r) = if letter c = true then (if (c :: r.takeWhile alnum).length ≤ 20 then .ok (0, c :: r.takeWhile alnum, 0) else .error 11)
    else if digit c = true then (if numOk (c :: r.takeWhile digit) = true then .ok (1, c :: r.takeWhile digit, (val (c :: r.takeWhile digit) : Int)) else .error 3)
    else if c = 59 then .ok (2, [59], 0) else .error 10 := rfl
/-- The tokens from position p on, or where the first error is. -/
def lexF : Nat → S → Int → Except (Int × Int) (List Tk)
  | _, [], p => .ok [⟨3, [], 0, p⟩]
  | 0, _ :: _, p => .error (p, 0)
  | f + 1, c :: r, p => if blank c = true then lexF f r (p + 1) else
    match tok (c :: r) with
    | .error e => .error (p, e)
    | .ok (k, w, n) => match lexF f ((c :: r).drop w.length) (p + w.length) with
      | .ok ts => .ok (⟨k, w, n, p⟩ :: ts)
      | .error e => .error e
def lex (s : S) (p : Int) : Except (Int × Int) (List Tk) := lexF s.length s p
def text : List Tk → S
  | [] => []
  | [t] => t.text
  | t :: u :: l => t.text ++ 32 :: text (u :: l)
theorem blank_not {c : UInt8} (h : blank c = true) : alnum c = false ∧ digit c = false ∧ letter c = false := by
  unfold blank at h
  simp only [Bool.or_eq_true, beq_iff_eq] at h
  rcases h with (rfl | rfl) | rfl <;> decide
theorem tw_pre {q : UInt8 → Bool} (r : S) : ∃ d, r = r.takeWhile q ++ d ∧ ∀ c, d.head? = some c → q c = false := by
  refine ⟨r.dropWhile q, List.takeWhile_append_dropWhile.symm, fun c hc => ?_⟩
  have := List.head?_dropWhile_not q r
  rw [hc] at this
  simpa using this
/-- What a token is. -/
theorem tok_pre {s w : S} {k n : Int} (h : tok s = .ok (k, w, n)) : ∃ d, s = w ++ d ∧ w ≠ [] := by
  cases s with
  | nil => cases h
  | cons c r =>
    rw [tok_cons] at h
    split at h
    · split at h
      · cases h
        obtain ⟨d, hd, _⟩ := tw_pre (q := alnum) r
        exact ⟨d, by rw [List.cons_append, ← hd], by simp⟩
      · cases h
    · split at h
      · split at h
        · cases h
          obtain ⟨d, hd, _⟩ := tw_pre (q := digit) r
          exact ⟨d, by rw [List.cons_append, ← hd], by simp⟩
        · cases h
      · split at h
        · rename_i hc
          cases h
          exact ⟨r, by rw [hc]; rfl, by simp⟩
        · cases h
theorem tok_len {s w : S} {k n : Int} (h : tok s = .ok (k, w, n)) : 0 < w.length ∧ w.length ≤ s.length ∧ w ++ s.drop w.length = s := by
  obtain ⟨d, rfl, hw⟩ := tok_pre h
  exact ⟨List.length_pos_iff.2 hw, by simp, by rw [List.drop_left]⟩
/-- Enough fuel. -/
theorem lexF_enough : ∀ (f g : Nat) (s : S) (p : Int), s.length ≤ f → s.length ≤ g → lexF f s p = lexF g s p
  | _, _, [], _, _, _ => by simp [lexF]
  | 0, _, c :: r, _, h, _ => by simp at h
  | _, 0, c :: r, _, _, h => by simp at h
  | f + 1, g + 1, c :: r, p, hf, hg => by
    simp only [List.length_cons] at hf hg
    unfold lexF
    split
    · exact lexF_enough f g r _ (by omega) (by omega)
    · cases ht : tok (c :: r) with
      | error e => rfl
      | ok v =>
        obtain ⟨k, w, n⟩ := v
        have hl := tok_len ht
        have hd : ((c :: r).drop w.length).length ≤ r.length := by rw [List.length_drop, List.length_cons]; omega
        simp only
        rw [lexF_enough f g _ _ (by omega) (by omega)]
theorem lex_nil (p : Int) : lex [] p = .ok [⟨3, [], 0, p⟩] := rfl
theorem lex_blank {c : UInt8} {r : S} {p : Int} (h : blank c = true) : lex (c :: r) p = lex r (p + 1) := by
  show lexF (r.length + 1) (c :: r) p = _
  unfold lexF
  rw [if_pos h]; rfl
theorem lex_bad {c : UInt8} {r : S} {p e : Int} (h : ¬ blank c = true) (ht : tok (c :: r) = .error e) : lex (c :: r) p = .error (p, e) := by
  show lexF (r.length + 1) (c :: r) p = _
  unfold lexF
  rw [if_neg h, ht]
theorem lex_tok {c : UInt8} {r w : S} {k n p : Int} (h : ¬ blank c = true) (ht : tok (c :: r) = .ok (k, w, n)) :
    lex (c :: r) p = (match lex ((c :: r).drop w.length) (p + w.length) with | .ok ts => .ok (⟨k, w, n, p⟩ :: ts) | .error e => .error e) := by
  have hl := tok_len ht
  have hd : ((c :: r).drop w.length).length ≤ r.length := by rw [List.length_drop, List.length_cons]; omega
  show lexF (r.length + 1) (c :: r) p = _
  unfold lexF
  rw [if_neg h, ht]
  simp only
  rw [lexF_enough r.length ((c :: r).drop w.length).length _ _ hd (Nat.le_refl _)]
  rfl
/-! ### Induction along the tokens -/
theorem lex_ind {P : S → Prop} (h0 : P []) (h1 : ∀ c r, blank c = true → P r → P (c :: r)) (h2 : ∀ c r e, ¬ blank c = true → tok (c :: r) = .error e → P (c :: r))
    (h3 : ∀ c r k w n, ¬ blank c = true → tok (c :: r) = .ok (k, w, n) → P ((c :: r).drop w.length) → P (c :: r)) : ∀ s, P s := by
  have key : ∀ m : Nat, ∀ s : S, s.length ≤ m → P s := by
    intro m
    induction m with
    | zero =>
      intro s hs
      cases s with
      | nil => exact h0
      | cons c r => simp at hs
    | succ m ih =>
      intro s hs
      cases s with
      | nil => exact h0
      | cons c r =>
        simp only [List.length_cons] at hs
        by_cases hb : blank c = true
        · exact h1 c r hb (ih r (by omega))
        · cases ht : tok (c :: r) with
          | error e => exact h2 c r e hb ht
          | ok v =>
            obtain ⟨k, w, n⟩ := v
            have hl := tok_len ht
            exact h3 c r k w n hb ht (ih _ (by rw [List.length_drop, List.length_cons]; omega))
  exact fun s => key s.length s (Nat.le_refl _)
end Lx
end Go.Proofs.YtenbdnkipkfpkaaDoor
