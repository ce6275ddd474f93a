/- What the walks of layer 11 ask of package lex. -/
import Derived.Test.YtenbdnkipkfpkaaDoorLq8
namespace Go.Proofs.YtenbdnkipkfpkaaDoor
open Go.RowKit Go.Maps Go.ChangeMaps Go.MapKept
open Lx
/-- What Lex leaves: the tokens, the position and the number of the error. -/
def Lexed (w : World) (r : List Tk × Int × Int) (e : Ending) (w' : World) : Prop :=
  ∃ a c, e = .returned (.tuple #[.slice a r.1.length c, .int .i64 r.2.1, .int .i64 r.2.2]) ∧ TkAt w' (.slice a r.1.length c) r.1 ∧ Below w.heap.size w w'
def Reads (w : World) (r : Value) (e : Ending) (w' : World) : Prop := e = .returned r ∧ Below w.heap.size w w'
/-- The contracts of package lex; E: what the library's variables hold. -/
structure LApi (E : World → Prop) : Prop where
  keep : ∀ {w w' : World}, E w → Below w.heap.size w w' → E w'
  lex_ : ∀ {w : World} {s : S}, E w → s.length ≤ 10000 → Calls Tryd.prog 11 #[.string (bs s)] w (Lexed w (lexRes s))
  text_ : ∀ {w : World} {v : Value} {l : List Tk}, E w → TkAt w v l → (textOf l).length ≤ 100000 → l.length ≤ 10000 → (∀ t ∈ l, t.text.length ≤ 10000) → Calls Tryd.prog 18 #[v] w (Reads w (.string (bs (textOf l))))
  word_ : ∀ {w : World} {s : S}, E w → s.length ≤ 10000 → Calls Tryd.prog 16 #[.string (bs s)] w (Reads w (.bool (wordOk s)))
  number_ : ∀ {w : World} {s : S}, E w → s.length ≤ 10000 → Calls Tryd.prog 13 #[.string (bs s)] w (Reads w (.tuple #[.int .i64 (numRes s).1, .bool (numRes s).2]))
section
variable {E : World → Prop} {w : World} {s : S}
theorem LApi.lex_eq (A : LApi E) {r : List Tk × Int × Int} (h : lexRes s = r) (hE : E w) (hs : s.length ≤ 10000) : Calls Tryd.prog 11 #[.string (bs s)] w (Lexed w r) := by
  have := A.lex_ hE hs; rwa [h] at this
theorem LApi.lex_gen (A : LApi E) {ts : List Tk} {p i : Int} (h : lexRes s = (ts, p, i)) (hE : E w) (hs : s.length ≤ 10000) :
    Calls Tryd.prog 11 #[.string (bs s)] w fun e w' => ∃ a c, e = .returned (.tuple #[.slice a ts.length c, .int .i64 p, .int .i64 i]) ∧ TkAt w' (.slice a ts.length c) ts ∧ Below w.heap.size w w' := by
  have := A.lex_eq h hE hs; exact this
theorem q_lex_gen {ts : List Tk} {p i : Int} (h : lexRes s = (ts, p, i)) (hs : s.length ≤ 10000) :
    Calls Tryd.prog 12 #[.string (bs s)] w fun e w' => ∃ a c, e = .returned (.tuple #[.slice a ts.length c, .int .i64 p, .int .i64 i]) ∧ TkAt w' (.slice a ts.length c) ts ∧ Below w.heap.size w w' := by
  have := q_lex (w := w) (s := s) (by omega)
  rw [h] at this
  refine this.mono ?_
  rintro e w' ⟨u, rfl, hu, hb⟩
  obtain ⟨a, c, rfl⟩ := hu.slice
  exact ⟨a, c, rfl, hu, hb⟩
theorem LApi.lex_ok (A : LApi E) {ts : List Tk} (h : lexRes s = (ts, 0, 0)) (hE : E w) (hs : s.length ≤ 10000) :
    Calls Tryd.prog 11 #[.string (bs s)] w fun e w' => ∃ a c, e = .returned (.tuple #[.slice a ts.length c, .int .i64 0, .int .i64 0]) ∧ TkAt w' (.slice a ts.length c) ts ∧ Below w.heap.size w w' := by
  have := A.lex_eq h hE hs; exact this
theorem LApi.lex_err (A : LApi E) {p e : Int} (h : lexRes s = ([], p, e)) (hE : E w) (hs : s.length ≤ 10000) :
    Calls Tryd.prog 11 #[.string (bs s)] w fun x w' => ∃ a c, x = .returned (.tuple #[.slice a 0 c, .int .i64 p, .int .i64 e]) ∧ Below w.heap.size w w' := by
  have := A.lex_eq h hE hs
  refine this.mono ?_
  rintro x w' ⟨a, c, rfl, _, hb⟩
  exact ⟨a, c, rfl, hb⟩
theorem LApi.word_eq (A : LApi E) {b : Bool} (h : wordOk s = b) (hE : E w) (hs : s.length ≤ 10000) : Calls Tryd.prog 16 #[.string (bs s)] w fun e w' => e = .returned (.bool b) ∧ Below w.heap.size w w' := by
  have := A.word_ hE hs; rw [h] at this; exact this
theorem LApi.number_eq (A : LApi E) {n : Int} {b : Bool} (h : numRes s = (n, b)) (hE : E w) (hs : s.length ≤ 10000) : Calls Tryd.prog 13 #[.string (bs s)] w fun e w' => e = .returned (.tuple #[.int .i64 n, .bool b]) ∧ Below w.heap.size w w' := by
  have := A.number_ hE hs; rw [h] at this; exact this
theorem LApi.text_eq (A : LApi E) {v : Value} {l : List Tk} {t : S} (h : textOf l = t) (hE : E w) (hv : TkAt w v l) (h1 : t.length ≤ 100000) (h2 : l.length ≤ 10000) (h3 : ∀ t ∈ l, t.text.length ≤ 10000) :
    Calls Tryd.prog 18 #[v] w fun e w' => e = .returned (.string (bs t)) ∧ Below w.heap.size w w' := by
  subst h; exact A.text_ hE hv h1 h2 h3
theorem same_yes {v u : Value} {l : List Tk} (hv : TkAt w v l) (hu : TkAt w u l) (hx : l.length ≤ 100000) : Calls Tryd.prog 15 #[v, u] w fun e w' => e = .returned (.bool true) ∧ Below w.heap.size w w' := by
  have := q_same hv hu hx; rwa [decide_eq_true rfl] at this
theorem like_yes {v u : Value} {l m : List Tk} (hv : TkAt w v l) (hu : TkAt w u m) (h : Likes l m) (hx : l.length ≤ 100000) : Calls Tryd.prog 20 #[v, u] w fun e w' => e = .returned (.bool true) ∧ Below w.heap.size w w' := by
  have := q_like hv hu hx; rwa [decide_eq_true (likes_bare h)] at this
end
/-! ### How many tokens, how long their text -/
theorem lex_len {s : S} : ∀ {p : Int} {ts : List Tk}, lex s p = .ok ts → ts.length ≤ s.length + 1 ∧ (∀ t ∈ ts, t.text.length ≤ s.length) ∧ (textOf ts).length ≤ 2 * s.length := by
  induction s using lex_ind with
  | h0 => intro p ts h; cases h; exact ⟨by simp, fun t ht => by simp at ht; subst ht; simp, by simp [textOf, glue]⟩
  | h1 c r hb ih =>
    intro p ts h
    rw [lex_blank hb] at h
    obtain ⟨h1, h2, h3⟩ := ih h
    exact ⟨by simp; omega, fun t ht => by have := h2 t ht; simp; omega, by simp; omega⟩
  | h2 c r e hb ht => intro p ts h; rw [lex_bad hb ht] at h; cases h
  | h3 c r k w n hb ht ih =>
    intro p ts h
    rw [lex_tok hb ht] at h
    have hl := tok_len ht
    have hk := tok_kind ht
    cases hd : lex ((c :: r).drop w.length) (p + w.length) with
    | error v => rw [hd] at h; cases h
    | ok vs =>
      rw [hd] at h
      cases h
      obtain ⟨h1, h2, h3⟩ := ih hd
      rw [List.length_drop] at h1 h2 h3
      refine ⟨by rw [List.length_cons]; omega, fun t ht' => ?_, ?_⟩
      · rcases List.mem_cons.1 ht' with rfl | q
        · exact hl.2.1
        · have := h2 t q; omega
      · have e : textOf (⟨k, w, n, p⟩ :: vs) = glue (w :: (vs.filter fun t => t.kind != 3).map (·.text)) := by
          unfold textOf
          rw [List.filter_cons_of_pos (by simpa using hk.1), List.map_cons]
        rw [e]
        have hg : ∀ L : List S, (glue (w :: L)).length ≤ w.length + 1 + (glue L).length := by
          intro L
          by_cases hL : L = []
          · subst hL; simp [glue]
          · rw [glue_cons hL]; simp; omega
        have := hg ((vs.filter fun t => t.kind != 3).map (·.text))
        unfold textOf at h3
        omega
theorem lexRes_cases (s : S) (h : ¬ 2000 < s.length) : (∃ ts, lex s 0 = .ok ts ∧ lexRes s = (ts, 0, 0)) ∨ ∃ p e, lex s 0 = .error (p, e) ∧ lexRes s = ([], p, e) := by
  cases hl : lex s 0 with
  | ok ts => exact .inl ⟨ts, rfl, lexRes_ok h hl⟩
  | error v => obtain ⟨p, e⟩ := v; exact .inr ⟨p, e, rfl, lexRes_err h hl⟩
theorem lexRes_len (s : S) : (lexRes s).1.length ≤ s.length + 1 := by
  by_cases h : 2000 < s.length
  · rw [lexRes_big h]; simp
  · rcases lexRes_cases s h with ⟨ts, h1, h2⟩ | ⟨p, e, h1, h2⟩
    · rw [h2]; exact (lex_len h1).1
    · rw [h2]; simp
theorem glue_bound (m : Nat) : ∀ L : List S, (∀ x ∈ L, x.length ≤ m) → (glue L).length ≤ L.length * (m + 1)
  | [], _ => by simp [glue]
  | x :: L, h => by
    have ih := glue_bound m L fun y hy => h y (List.mem_cons_of_mem _ hy)
    have hx := h x (List.mem_cons_self ..)
    rw [List.length_cons, Nat.succ_mul]
    by_cases hL : L = []
    · subst hL; simp [glue]; omega
    · rw [glue_cons hL]; simp; omega
theorem text_bound {m : Nat} {l : List Tk} (h : ∀ t ∈ l, t.text.length ≤ m) : (textOf l).length ≤ l.length * (m + 1) := by
  unfold textOf
  refine Nat.le_trans (glue_bound m _ fun x hx => ?_) (Nat.mul_le_mul_right _ ?_)
  · obtain ⟨t, ht, rfl⟩ := List.mem_map.1 hx
    exact h t (List.mem_filter.1 ht).1
  · rw [List.length_map]; exact List.length_filter_le _ _
/-- The text of the tokens once more. -/
theorem lexRes_back {s : S} {ts : List Tk} (h : lex s 0 = .ok ts) (hs : s.length ≤ 1000) : ∃ us, lexRes (textOf ts) = (us, 0, 0) ∧ Likes ts us ∧ textOf us = textOf ts ∧ us.length = ts.length ∧ ∀ t ∈ us, t.text.length ≤ 2000 := by
  obtain ⟨us, h1, h2, h3⟩ := lex_back h
  have hl := lex_len h
  have hu := lex_len h1
  exact ⟨us, lexRes_ok (by omega) h1, h2, h3, (likes_text h2).2.symm, fun t ht => by have := hu.2.1 t ht; omega⟩
end Go.Proofs.YtenbdnkipkfpkaaDoor
