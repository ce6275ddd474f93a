/- Where tokens stand; the text of tokens; words and numbers. No Go. -/
import Derived.Test.YtenbdnkipkfpkaaDoorLy
namespace Go.Proofs.YtenbdnkipkfpkaaDoor
namespace Lx
/-- The tokens of t from byte e on, one after the other, with blanks between them. -/
inductive Placed (t : S) : Nat → List Tk → Prop
  | last {e : Nat} : e ≤ t.length → (∀ k c, e ≤ k → t[k]? = some c → blank c = true) → Placed t e [⟨3, [], 0, (t.length : Int)⟩]
  | more {e p : Nat} {k n : Int} {w : S} {ts : List Tk} : e ≤ p → w ≠ [] → k ≠ 3 → (k ≠ 1 → n = 0) → (t.drop p).take w.length = w → p + w.length ≤ t.length → (∀ j c, e ≤ j → j < p → t[j]? = some c → blank c = true) →
      Placed t (p + w.length) ts → Placed t e (⟨k, w, n, (p : Int)⟩ :: ts)
theorem tok_kind {s w : S} {k n : Int} (h : tok s = .ok (k, w, n)) : k ≠ 3 ∧ (k ≠ 1 → n = 0) ∧ (0 ≤ k ∧ k ≤ 2) := by
  cases s with
  | nil => cases h
  | cons c r =>
    rw [tok_cons] at h
    split at h
    · split at h
      · cases h; simp
      · cases h
    · split at h
      · split at h
        · cases h; simp
        · cases h
      · split at h
        · cases h; simp
        · cases h
theorem drop_head {t r : S} {c : UInt8} {j : Nat} (h : t.drop j = c :: r) : t[j]? = some c ∧ t.drop (j + 1) = r ∧ j < t.length := by
  have h1 : t[j]? = some c := by
    have : (t.drop j)[0]? = some c := by rw [h]; rfl
    rwa [List.getElem?_drop, Nat.add_zero] at this
  refine ⟨h1, ?_, (List.getElem?_eq_some_iff.1 h1).1⟩
  rw [← List.drop_drop, h]; rfl
theorem placed_of {t : S} : ∀ (s : S) (e j : Nat) (ts : List Tk), t.drop j = s → e ≤ j → j ≤ t.length → (∀ i c, e ≤ i → i < j → t[i]? = some c → blank c = true) → lex s (j : Int) = .ok ts → Placed t e ts := by
  intro s
  induction s using lex_ind with
  | h0 =>
    intro e j ts hs hej hj hb h
    have hjl : j = t.length := by
      have := congrArg List.length hs
      rw [List.length_drop, List.length_nil] at this
      omega
    cases h
    subst hjl
    exact .last hej fun k c hk hc => hb k c hk (List.getElem?_eq_some_iff.1 hc).1 hc
  | h1 c r hc ih =>
    intro e j ts hs hej hj hb h
    obtain ⟨h1, h2, h3⟩ := drop_head hs
    rw [lex_blank hc] at h
    refine ih e (j + 1) ts h2 (by omega) (by omega) (fun i d hi hij hd => ?_) (by rw [← h]; congr 1)
    by_cases he : i = j
    · subst he; rw [h1] at hd; cases hd; exact hc
    · exact hb i d hi (by omega) hd
  | h2 c r e' hc ht =>
    intro e j ts hs hej hj hb h
    rw [lex_bad hc ht] at h; cases h
  | h3 c r k w n hc ht ih =>
    intro e j ts hs hej hj hb h
    rw [lex_tok hc ht] at h
    have hl := tok_len ht
    have hk := tok_kind ht
    have hlen : (c :: r).length = t.length - j := by rw [← hs, List.length_drop]
    cases hd : lex ((c :: r).drop w.length) ((j : Int) + w.length) with
    | error v => rw [hd] at h; cases h
    | ok us =>
      rw [hd] at h
      cases h
      refine .more hej (fun q => by rw [q] at hl; simp at hl) hk.1 hk.2.1 ?_ (by omega) hb (ih (j + w.length) (j + w.length) us (by rw [← List.drop_drop, hs]) (Nat.le_refl _) (by omega) (fun i c h1 h2 => by omega) (by rw [← hd]; congr 1))
      rw [hs]
      have := hl.2.2
      conv => lhs; rw [← this]
      exact List.take_left
/-! ### The text of tokens -/
def glue : List S → S
  | [] => []
  | [w] => w
  | w :: v :: l => w ++ 32 :: glue (v :: l)
def textOf (l : List Tk) : S := glue ((l.filter fun t => t.kind != 3).map (·.text))
theorem glue_cons {w : S} {l : List S} (h : l ≠ []) : glue (w :: l) = w ++ 32 :: glue l := by
  cases l with
  | nil => exact (h rfl).elim
  | cons v l => rfl
/-- Equal apart from positions. -/
def like (a b : Tk) : Prop := a.kind = b.kind ∧ a.text = b.text ∧ a.n = b.n
inductive Likes : List Tk → List Tk → Prop
  | nil : Likes [] []
  | cons {a b : Tk} {l m : List Tk} : like a b → Likes l m → Likes (a :: l) (b :: m)
theorem tok_nb {s w : S} {k n : Int} (h : tok s = .ok (k, w, n)) : ∃ c r, w = c :: r ∧ ¬ blank c = true := by
  have hs := tok_self h
  cases w with
  | nil => have q := (tok_len h).1; simp at q
  | cons c r =>
    refine ⟨c, r, rfl, fun hb => ?_⟩
    have hn := blank_not hb
    rw [tok_cons, if_neg (by rw [hn.2.2]; simp), if_neg (by rw [hn.2.1]; simp)] at hs
    have : ¬ c = 59 := fun e => by rw [e] at hb; revert hb; decide
    rw [if_neg this] at hs; cases hs
/-- A token alone, and the end. -/
theorem lex_self {s w : S} {k n : Int} (h : tok s = .ok (k, w, n)) (p : Int) : lex w p = .ok [⟨k, w, n, p⟩, ⟨3, [], 0, p + w.length⟩] := by
  obtain ⟨c, r, rfl, hb⟩ := tok_nb h
  rw [lex_tok hb (tok_self h), List.drop_length, lex_nil]
/-- What lexing gives: tokens, each by itself one, and the end. -/
theorem lex_toks {s : S} : ∀ {p : Int} {ts : List Tk}, lex s p = .ok ts → ∃ us, ts = us ++ [⟨3, [], 0, p + s.length⟩] ∧ ∀ t ∈ us, tok t.text = .ok (t.kind, t.text, t.n) := by
  induction s using lex_ind with
  | h0 => intro p ts h; cases h; exact ⟨[], by simp, fun t ht => by cases ht⟩
  | h1 c r hb ih =>
    intro p ts h
    rw [lex_blank hb] at h
    obtain ⟨us, h1, h2⟩ := ih h
    refine ⟨us, ?_, h2⟩
    rw [h1, List.length_cons, show p + 1 + (r.length : Int) = p + ((r.length + 1 : Nat) : Int) by omega]
  | h2 c r e hb ht => intro p ts h; rw [lex_bad hb ht] at h; cases h
  | h3 c r k w n hb ht ih =>
    intro p ts h
    rw [lex_tok hb ht] at h
    have hl := tok_len ht
    cases hd : lex ((c :: r).drop w.length) (p + w.length) with
    | error v => rw [hd] at h; cases h
    | ok vs =>
      rw [hd] at h
      cases h
      obtain ⟨us, h1, h2⟩ := ih hd
      refine ⟨⟨k, w, n, p⟩ :: us, ?_, fun t ht' => ?_⟩
      · rw [h1, List.cons_append, List.length_drop, show p + (w.length : Int) + (((c :: r).length - w.length : Nat) : Int) = p + ((c :: r).length : Int) by omega]
      · rcases List.mem_cons.1 ht' with rfl | q
        · exact tok_self ht
        · exact h2 t q
theorem text_end {us : List Tk} {q : Int} (h : ∀ t ∈ us, tok t.text = .ok (t.kind, t.text, t.n)) : textOf (us ++ [⟨3, [], 0, q⟩]) = glue (us.map (·.text)) := by
  unfold textOf
  have e : (us ++ [(⟨3, [], 0, q⟩ : Tk)]).filter (fun t => t.kind != 3) = us := by
    rw [List.filter_append, List.filter_eq_self.2 fun t ht => by
      have := (tok_kind (h t ht)).1
      simpa using this]
    simp
  rw [e]
theorem lex_glue : ∀ {us : List Tk}, (∀ t ∈ us, tok t.text = .ok (t.kind, t.text, t.n)) → ∀ p : Int, ∃ vs, lex (glue (us.map (·.text))) p = .ok (vs ++ [⟨3, [], 0, p + (glue (us.map (·.text))).length⟩]) ∧ Likes us vs
  | [], _, p => ⟨[], by show lex [] p = _; rw [lex_nil]; simp [glue], .nil⟩
  | [u], h, p => ⟨[⟨u.kind, u.text, u.n, p⟩], by show lex u.text p = _; rw [lex_self (h u (by simp)) p]; rfl, .cons ⟨rfl, rfl, rfl⟩ .nil⟩
  | u :: v :: us, h, p => by
    have hu := lex_self (h u (by simp)) p
    obtain ⟨vs, h1, h2⟩ := @lex_glue (v :: us) (fun t ht => h t (by simp [List.mem_cons] at ht ⊢; exact .inr ht)) (p + u.text.length + 1)
    have e : glue ((u :: v :: us).map (·.text)) = u.text ++ 32 :: glue ((v :: us).map (·.text)) := rfl
    refine ⟨⟨u.kind, u.text, u.n, p⟩ :: vs, ?_, .cons ⟨rfl, rfl, rfl⟩ h2⟩
    rw [e, lex_join (by decide), hu]
    simp only
    rw [h1]
    simp only [List.dropLast_cons_cons, List.dropLast_singleton, List.cons_append, List.nil_append, List.length_append, List.length_cons]
    congr 5
    omega
theorem likes_text {l m : List Tk} (h : Likes l m) : l.map (·.text) = m.map (·.text) ∧ l.length = m.length := by
  induction h with
  | nil => exact ⟨rfl, rfl⟩
  | cons hl _ ih => exact ⟨by rw [List.map_cons, List.map_cons, ih.1, hl.2.1], by simp [ih.2]⟩
theorem likes_tok {l m : List Tk} (h : Likes l m) (ht : ∀ t ∈ l, tok t.text = .ok (t.kind, t.text, t.n)) : ∀ t ∈ m, tok t.text = .ok (t.kind, t.text, t.n) := by
  induction h with
  | nil => exact fun t h => by cases h
  | cons hl _ ih =>
    intro t hm
    rcases List.mem_cons.1 hm with rfl | q
    · have := ht _ (List.mem_cons_self ..)
      rw [hl.1, hl.2.1, hl.2.2] at this; exact this
    · exact ih (fun t h => ht t (List.mem_cons_of_mem _ h)) t q
theorem likes_snoc {l m : List Tk} {a b : Tk} (h : Likes l m) (k : like a b) : Likes (l ++ [a]) (m ++ [b]) := by
  induction h with
  | nil => exact .cons k .nil
  | cons hl _ ih => exact .cons hl ih
/-- The text of the tokens has the same tokens, and is its own text. -/
theorem lex_back {s : S} {ts : List Tk} {p : Int} (h : lex s p = .ok ts) : ∃ us, lex (textOf ts) 0 = .ok us ∧ Likes ts us ∧ textOf us = textOf ts := by
  obtain ⟨us, rfl, ht⟩ := lex_toks h
  obtain ⟨vs, h1, h2⟩ := lex_glue ht 0
  rw [text_end ht]
  refine ⟨_, h1, likes_snoc h2 ⟨rfl, rfl, rfl⟩, ?_⟩
  rw [text_end (likes_tok h2 ht), (likes_text h2).1]
/-! ### Words and numbers -/
theorem tw_all {q : UInt8 → Bool} {r : S} (h : r.all q = true) : r.takeWhile q = r := by
  induction r with
  | nil => rfl
  | cons c r ih =>
    simp only [List.all_cons, Bool.and_eq_true] at h
    rw [List.takeWhile_cons_of_pos h.1, ih h.2]
theorem all_tw {q : UInt8 → Bool} (r : S) : (r.takeWhile q).all q = true := by
  induction r with
  | nil => rfl
  | cons c r ih =>
    by_cases h : q c = true
    · rw [List.takeWhile_cons_of_pos h, List.all_cons, h, ih]; rfl
    · rw [List.takeWhile_cons_of_neg h]; rfl
theorem letter_not {c : UInt8} (h : letter c = true) : digit c = false := by
  unfold letter at h; unfold digit
  have := of_decide_eq_true h
  exact decide_eq_false (by omega)
theorem word_tok {s : S} (h : wordOk s = true) : tok s = .ok (0, s, 0) := by
  cases s with
  | nil => simp [wordOk] at h
  | cons c r =>
    simp only [wordOk, Bool.and_eq_true, decide_eq_true_eq] at h
    rw [tok_cons, if_pos h.2.1, tw_all h.2.2, if_pos h.1]
theorem num_tok {s : S} (h : numOk s = true) : tok s = .ok (1, s, (val s : Int)) := by
  cases s with
  | nil => simp [numOk] at h
  | cons c r =>
    have hn := h
    simp only [numOk, Bool.and_eq_true, List.all_cons] at h
    have hd : digit c = true := h.1.1.2.1
    have hl : ¬ letter c = true := fun q => by rw [letter_not q] at hd; cases hd
    rw [tok_cons, if_neg hl, if_pos hd, tw_all h.1.1.2.2, if_pos hn]
theorem tok_word {s w : S} {n : Int} (h : tok s = .ok (0, w, n)) : wordOk w = true := by
  cases s with
  | nil => cases h
  | cons c r =>
    rw [tok_cons] at h
    split at h
    · rename_i hl
      split at h
      · rename_i h2
        cases h
        simp only [wordOk, Bool.and_eq_true, decide_eq_true_eq]
        exact ⟨h2, hl, all_tw r⟩
      · cases h
    · split at h
      · split at h
        · simp at h
        · cases h
      · split at h
        · simp at h
        · cases h
theorem tok_num {s w : S} {n : Int} (h : tok s = .ok (1, w, n)) : numOk w = true ∧ n = (val w : Int) := by
  cases s with
  | nil => cases h
  | cons c r =>
    rw [tok_cons] at h
    split at h
    · split at h
      · simp at h
      · cases h
    · split at h
      · split at h
        · rename_i h2
          cases h
          exact ⟨h2, rfl⟩
        · cases h
      · split at h
        · simp at h
        · cases h
end Lx
end Go.Proofs.YtenbdnkipkfpkaaDoor
