/- Layer 3 as plain functions on lists of bytes: sums, forms, the records of a string, and what a tear leaves of them. No Go in this text. -/
import Derived.Test.YtjbcgahdiolhhaaDoorSpec
namespace Go.Proofs.YtjbcgahdiolhhaaDoor.D2
namespace Jp

/-! ### Sums -/
def wsum : Nat → List UInt8 → Nat
  | _, [] => 0
  | i, c :: l => (i + 1) * c.toNat + wsum (i + 1) l
def jsum (l : List UInt8) : Nat := wsum 0 l % 2147483647

theorem wsum_snoc : ∀ (l : List UInt8) (i : Nat) (c : UInt8), wsum i (l ++ [c]) = wsum i l + (i + l.length + 1) * c.toNat
  | [], i, c => by simp [wsum]
  | x :: l, i, c => by
    simp only [List.cons_append, wsum, List.length_cons]
    rw [wsum_snoc l (i + 1) c]
    have : i + 1 + l.length + 1 = i + (l.length + 1) + 1 := by omega
    rw [this]; omega
theorem jsum_snoc (l : List UInt8) (c : UInt8) : jsum (l ++ [c]) = (jsum l + (l.length + 1) * c.toNat) % 2147483647 := by
  unfold jsum
  rw [wsum_snoc, Nat.zero_add, Nat.mod_add_mod]
theorem jsum_lt (l : List UInt8) : jsum l < 2147483647 := Nat.mod_lt _ (by decide)
theorem jsum_nil : jsum [] = 0 := rfl
theorem jsum_i64 (l : List UInt8) : Sp.I64 (jsum l : Int) := by have := jsum_lt l; exact ⟨by omega, by omega⟩
theorem wsum_le : ∀ (l : List UInt8) (i : Nat), wsum i l ≤ l.length * ((i + l.length) * 255)
  | [], i => by simp [wsum]
  | c :: l, i => by
    have ih := wsum_le l (i + 1)
    have hc : c.toNat ≤ 255 := by have := c.toNat_lt; omega
    have h1 : (i + 1) * c.toNat ≤ (i + 1 + l.length) * 255 := Nat.mul_le_mul (by omega) hc
    simp only [wsum, List.length_cons]
    have e : i + (l.length + 1) = i + 1 + l.length := by omega
    rw [e, Nat.add_mul (l.length) 1, Nat.one_mul]
    generalize (i + 1) * c.toNat = x at *
    omega

/-! ### Forms and records -/
def form (r : List UInt8) : List UInt8 := Sp.eText r ++ Sp.eNum (jsum r : Int)
def forms (l : List (List UInt8)) : List UInt8 := Sp.eMany form l
theorem forms_nil : forms [] = [] := rfl
theorem forms_cons (r : List UInt8) (l : List (List UInt8)) : forms (r :: l) = form r ++ forms l := rfl
theorem forms_append (l m : List (List UInt8)) : forms (l ++ m) = forms l ++ forms m := Sp.eMany_append form l m
theorem forms_snoc (l : List (List UInt8)) (r : List UInt8) : forms (l ++ [r]) = forms l ++ form r := by rw [forms_append]; simp [forms_cons, forms_nil]
def rec1 (s : List UInt8) : Option (List UInt8 × List UInt8) :=
  match Sp.pText s with
  | none => none
  | some (t, u) =>
    match Sp.pNum 59 u with
    | none => none
    | some (n, v) => if t.length ≤ 20000 ∧ n = (jsum t : Int) then some (t, v) else none
theorem rec1_some {s t v : List UInt8} (h : rec1 s = some (t, v)) : s = form t ++ v ∧ t.length ≤ 20000 := by
  unfold rec1 at h
  cases h1 : Sp.pText s with
  | none => rw [h1] at h; cases h
  | some x =>
    obtain ⟨t', u⟩ := x
    rw [h1] at h
    simp only at h
    cases h2 : Sp.pNum 59 u with
    | none => rw [h2] at h; cases h
    | some y =>
      obtain ⟨n, v'⟩ := y
      rw [h2] at h
      simp only at h
      split at h
      · rename_i h3
        simp only [Option.some.injEq, Prod.mk.injEq] at h
        obtain ⟨rfl, rfl⟩ := h
        refine ⟨?_, h3.1⟩
        rw [Sp.eText_p h1, Sp.eNum_p h2, h3.2, form, List.append_assoc]
      · cases h
theorem rec1_form {t : List UInt8} (h : t.length ≤ 20000) (v : List UInt8) : rec1 (form t ++ v) = some (t, v) := by
  unfold rec1 form
  rw [List.append_assoc, Sp.pText_e t (by omega)]
  simp only
  rw [Sp.pNum_e _ (jsum_i64 t) (by omega)]
  simp only
  simp [h]
theorem rec1_nil : rec1 [] = none := by decide
theorem form_pos (t : List UInt8) : 0 < (form t).length := by simp [form, Sp.eText]; omega
theorem rec1_less {s t v : List UInt8} (h : rec1 s = some (t, v)) : v.length < s.length := by
  rw [(rec1_some h).1]; have := form_pos t; simp; omega

def recsF : Nat → List UInt8 → List (List UInt8)
  | 0, _ => []
  | n + 1, s =>
    match rec1 s with
    | none => []
    | some (t, v) => t :: recsF n v
/-- The records of a string. -/
def recs (s : List UInt8) : List (List UInt8) := recsF s.length s
theorem recsF_none {s : List UInt8} (h : rec1 s = none) : ∀ n, recsF n s = []
  | 0 => rfl
  | n + 1 => by unfold recsF; rw [h]
theorem recsF_enough : ∀ (n m : Nat) (s : List UInt8), s.length ≤ n → s.length ≤ m → recsF n s = recsF m s
  | 0, m, s, h, _ => by
    have : s = [] := List.eq_nil_of_length_eq_zero (by omega)
    subst this
    rw [recsF_none rec1_nil, recsF_none rec1_nil]
  | n + 1, 0, s, _, h => by
    have : s = [] := List.eq_nil_of_length_eq_zero (by omega)
    subst this
    rw [recsF_none rec1_nil]; rfl
  | n + 1, m + 1, s, h1, h2 => by
    unfold recsF
    cases h : rec1 s with
    | none => rfl
    | some x =>
      obtain ⟨t, v⟩ := x
      have := rec1_less h
      simp only
      rw [recsF_enough n m v (by omega) (by omega)]
theorem recs_none {s : List UInt8} (h : rec1 s = none) : recs s = [] := recsF_none h _
theorem recs_some {s t v : List UInt8} (h : rec1 s = some (t, v)) : recs s = t :: recs v := by
  have hl := rec1_less h
  unfold recs
  obtain ⟨n, hn⟩ : ∃ n, s.length = n + 1 := ⟨s.length - 1, by omega⟩
  rw [hn]
  show (match rec1 s with | none => [] | some (t, v) => t :: recsF n v) = _
  rw [h]
  simp only
  rw [recsF_enough n v.length v (by omega) (Nat.le_refl _)]
theorem recs_nil : recs [] = [] := rfl
theorem recs_split : ∀ (n : Nat) (s : List UInt8), s.length ≤ n → ∃ u, s = forms (recs s) ++ u ∧ rec1 u = none
  | 0, s, h => by
    have : s = [] := List.eq_nil_of_length_eq_zero (by omega)
    subst this
    exact ⟨[], rfl, rec1_nil⟩
  | n + 1, s, hn => by
    cases h : rec1 s with
    | none => exact ⟨s, by rw [recs_none h]; rfl, h⟩
    | some x =>
      obtain ⟨t, v⟩ := x
      obtain ⟨u, h1, h2⟩ := recs_split n v (by have := rec1_less h; omega)
      refine ⟨u, ?_, h2⟩
      rw [recs_some h, forms_cons, List.append_assoc, ← h1]
      exact (rec1_some h).1
theorem recs_pre (s : List UInt8) : forms (recs s) <+: s := by
  obtain ⟨u, h, _⟩ := recs_split _ s (Nat.le_refl _)
  exact ⟨u, h.symm⟩
theorem recs_size : ∀ (n : Nat) (s : List UInt8), s.length ≤ n → ∀ r ∈ recs s, r.length ≤ 20000
  | 0, s, h => by
    have : s = [] := List.eq_nil_of_length_eq_zero (by omega)
    subst this
    intro r hr; cases hr
  | n + 1, s, hn => by
    cases h : rec1 s with
    | none => rw [recs_none h]; intro r hr; cases hr
    | some x =>
      obtain ⟨t, v⟩ := x
      rw [recs_some h]
      intro r hr
      rcases List.mem_cons.1 hr with rfl | hr
      · exact (rec1_some h).2
      · exact recs_size n v (by have := rec1_less h; omega) r hr
theorem recs_forms : ∀ (l : List (List UInt8)) (u : List UInt8), (∀ r ∈ l, r.length ≤ 20000) → rec1 u = none → recs (forms l ++ u) = l
  | [], u, _, hu => by rw [forms_nil, List.nil_append, recs_none hu]
  | r :: l, u, h, hu => by
    rw [forms_cons, List.append_assoc, recs_some (rec1_form (h r (by simp)) _), recs_forms l u (fun x hx => h x (List.mem_cons_of_mem _ hx)) hu]
theorem recs_forms' (l : List (List UInt8)) (h : ∀ r ∈ l, r.length ≤ 20000) : recs (forms l) = l := by
  have := recs_forms l [] h rec1_nil
  rwa [List.append_nil] at this
theorem recs_count (s : List UInt8) : (recs s).length ≤ s.length := by
  have h := (recs_pre s).length_le
  have : ∀ l : List (List UInt8), l.length ≤ (forms l).length := by
    intro l
    induction l with
    | nil => simp
    | cons a l ih => rw [forms_cons]; have := form_pos a; simp; omega
  have := this (recs s)
  omega

/-! ### A tear: the end may be missing, and bytes may be 0 -/
inductive Tear : List UInt8 → List UInt8 → Prop
  | nil (W : List UInt8) : Tear W []
  | cons {c x : UInt8} {W X : List UInt8} (h : x = c ∨ x = 0) (t : Tear W X) : Tear (c :: W) (x :: X)
theorem Tear.refl : ∀ W, Tear W W
  | [] => .nil _
  | _ :: W => .cons (.inl rfl) (Tear.refl W)
theorem Tear.trans : ∀ {A B C : List UInt8}, Tear A B → Tear B C → Tear A C
  | _, _, _, _, .nil _ => .nil _
  | _, _, _, .cons h t, .cons h' t' => .cons (by
      rcases h' with rfl | rfl
      · exact h
      · exact .inr rfl) (Tear.trans t t')
theorem Tear.length : ∀ {W X : List UInt8}, Tear W X → X.length ≤ W.length
  | _, _, .nil _ => Nat.zero_le _
  | _, _, .cons _ t => by have := Tear.length t; simp; omega
theorem tear_of : ∀ (W X : List UInt8), X.length ≤ W.length → (∀ i, X.getD i 0 = W.getD i 0 ∨ X.getD i 0 = 0) → Tear W X
  | W, [], _, _ => .nil W
  | [], x :: X, h, _ => by simp at h
  | c :: W, x :: X, h, k => .cons (by have := k 0; simpa using this) (tear_of W X (by simpa using h) (fun i => by have := k (i + 1); simpa using this))
theorem tear_pre : ∀ (P : List UInt8) {W Y : List UInt8}, Tear (P ++ W) (P ++ Y) → Tear W Y
  | [], _, _, h => h
  | _ :: P, _, _, .cons _ t => tear_pre P t
theorem tear_num : ∀ (b a A B : List UInt8) (e : UInt8), e ∉ a → e ∉ b → (0 : UInt8) ∉ b → e ≠ 0 → Tear (a ++ e :: A) (b ++ e :: B) → a = b ∧ Tear A B
  | [], [], A, B, e, _, _, _, _, .cons _ t => ⟨rfl, t⟩
  | [], c :: a, A, B, e, h1, _, _, h4, .cons h t => by
    rcases h with h | h
    · exact absurd (by rw [h]; simp) h1
    · exact absurd h h4
  | y :: b, [], A, B, e, _, h2, h3, _, .cons h t => by
    rcases h with h | h
    · exact absurd (by rw [h]; simp) h2
    · exact absurd (by rw [h]; simp) h3
  | y :: b, c :: a, A, B, e, h1, h2, h3, h4, .cons h t => by
    have ⟨e1, e2⟩ := tear_num b a A B e (fun x => h1 (List.mem_cons_of_mem _ x)) (fun x => h2 (List.mem_cons_of_mem _ x)) (fun x => h3 (List.mem_cons_of_mem _ x)) h4 t
    rcases h with h | h
    · exact ⟨by rw [h, e1], e2⟩
    · exact absurd (by rw [h]; simp) h3
theorem tear_same : ∀ (r t A B : List UInt8), r.length = t.length → Tear (r ++ A) (t ++ B) → Tear r t ∧ Tear A B
  | [], [], _, _, _, h => ⟨.nil _, h⟩
  | _ :: r, _ :: t, A, B, hl, .cons h k => by
    have ⟨h1, h2⟩ := tear_same r t A B (by simpa using hl) k
    exact ⟨.cons h h1, h2⟩
  | [], _ :: _, _, _, hl, _ => by simp at hl
  | _ :: _, [], _, _, hl, _ => by simp at hl
theorem tear_wsum : ∀ (r t : List UInt8) (i : Nat), r.length = t.length → Tear r t → wsum i t ≤ wsum i r ∧ (wsum i t = wsum i r → t = r)
  | [], [], i, _, _ => ⟨Nat.le_refl _, fun _ => rfl⟩
  | c :: r, x :: t, i, hl, .cons h k => by
    have ⟨h1, h2⟩ := tear_wsum r t (i + 1) (by simpa using hl) k
    rcases h with rfl | rfl
    · simp only [wsum]
      exact ⟨by omega, fun e => by rw [h2 (by omega)]⟩
    · simp only [wsum]
      have : (0 : UInt8).toNat = 0 := rfl
      rw [this, Nat.mul_zero]
      refine ⟨by omega, fun e => ?_⟩
      have hz : (i + 1) * c.toNat = 0 := by omega
      have hc : c.toNat = 0 := by
        rcases Nat.mul_eq_zero.1 hz with h | h
        · omega
        · exact h
      have : c = 0 := UInt8.toNat_inj.1 hc
      rw [this, h2 (by omega)]
  | [], _ :: _, _, hl, _ => by simp at hl
  | _ :: _, [], _, hl, _ => by simp at hl
theorem itoa_free (n : Int) : (0 : UInt8) ∉ Lib.itoa n := by
  intro h
  have := Sp.itoa_bytes n 0 h
  simp at this
theorem tear_form {r W X : List UInt8} (hr : r.length ≤ 2000) (h : Tear (form r ++ W) X) : (∃ Y, X = form r ++ Y ∧ Tear W Y) ∨ (rec1 X = none ∧ ¬ form r <+: X) := by
  by_cases hp : form r <+: X
  · obtain ⟨Y, rfl⟩ := hp
    exact .inl ⟨Y, rfl, tear_pre _ h⟩
  · refine .inr ⟨?_, hp⟩
    cases hx : rec1 X with
    | none => rfl
    | some p =>
      obtain ⟨t, v⟩ := p
      exfalso
      have hX := (rec1_some hx).1
      subst hX
      have f58 : ∀ n, (58 : UInt8) ∉ Lib.itoa n := fun n => Sp.itoa_not n 58 (.inl rfl)
      have f59 : ∀ n, (59 : UInt8) ∉ Lib.itoa n := fun n => Sp.itoa_not n 59 (.inr (.inl rfl))
      have ef : ∀ (q z : List UInt8), form q ++ z = Lib.itoa (q.length : Int) ++ 58 :: (q ++ 44 :: (Lib.itoa (jsum q : Int) ++ 59 :: z)) := by
        intro q z
        have : ¬ ((jsum q : Int) < 0) := by omega
        simp [form, Sp.eText, Sp.eNum, Sp.eInt, this]
      rw [ef r W, ef t v] at h
      obtain ⟨e1, h2⟩ := tear_num _ _ _ _ 58 (f58 _) (f58 _) (itoa_free _) (by decide) h
      have hlen : r.length = t.length := by
        have ht := (rec1_some hx).2
        have := Sp.itoa_inj (m := (r.length : Int)) (n := (t.length : Int)) ⟨by omega, by omega⟩ ⟨by omega, by omega⟩ e1
        omega
      obtain ⟨h3, h4⟩ := tear_same r t _ _ hlen h2
      cases h4 with
      | cons _ h5 =>
        obtain ⟨e2, _⟩ := tear_num _ _ _ _ 59 (f59 _) (f59 _) (itoa_free _) (by decide) h5
        have hs := Sp.itoa_inj (jsum_i64 r) (jsum_i64 t) e2
        have b1 := wsum_le r 0
        have b2 : r.length * ((0 + r.length) * 255) ≤ 2000 * (2000 * 255) := Nat.mul_le_mul hr (Nat.mul_le_mul (by omega) (Nat.le_refl _))
        obtain ⟨w1, w2⟩ := tear_wsum r t 0 hlen h3
        have j1 : jsum r = wsum 0 r := Nat.mod_eq_of_lt (by omega)
        have j2 : jsum t = wsum 0 t := Nat.mod_eq_of_lt (by omega)
        have : t = r := w2 (by omega)
        subst this
        exact hp ⟨v, rfl⟩
/-- The records of a torn list: those whose forms are whole, up to the first one whose form is not. -/
theorem tear_recs : ∀ (l : List (List UInt8)) (X : List UInt8), (∀ r ∈ l, r.length ≤ 2000) → Tear (forms l) X →
    ∃ m, m ≤ l.length ∧ recs X = l.take m ∧ forms (l.take m) <+: X ∧ (m < l.length → ¬ forms (l.take (m + 1)) <+: X)
  | [], X, _, h => by
    cases h
    exact ⟨0, Nat.le_refl _, rfl, ⟨[], rfl⟩, fun h => absurd h (Nat.lt_irrefl _)⟩
  | r :: l, X, hs, h => by
    rw [forms_cons] at h
    rcases tear_form (hs r (by simp)) h with ⟨Y, rfl, hY⟩ | ⟨hn, hp⟩
    · obtain ⟨m, h1, h2, h3, h4⟩ := tear_recs l Y (fun x hx => hs x (List.mem_cons_of_mem _ hx)) hY
      refine ⟨m + 1, by simpa using h1, ?_, ?_, fun hm => ?_⟩
      · rw [recs_some (rec1_form (by have := hs r (by simp); omega) Y), h2, List.take_succ_cons]
      · rw [List.take_succ_cons, forms_cons]
        exact (List.prefix_append_right_inj _).2 h3
      · rw [List.take_succ_cons, forms_cons, List.prefix_append_right_inj]
        exact h4 (by simpa using hm)
    · refine ⟨0, Nat.zero_le _, by rw [recs_none hn]; rfl, ⟨X, rfl⟩, fun _ => ?_⟩
      rw [List.take_succ_cons, forms_cons, List.take_zero, forms_nil, List.append_nil]
      exact hp
theorem forms_take_pre (l : List (List UInt8)) {a b : Nat} (h : a ≤ b) : forms (l.take a) <+: forms (l.take b) := by
  have : l.take b = l.take a ++ (l.take b).drop a := by
    have := List.take_append_drop a (l.take b)
    rw [List.take_take, Nat.min_eq_left h] at this
    exact this.symm
  rw [this, forms_append]
  exact ⟨_, rfl⟩
theorem forms_pre {l m : List (List UInt8)} (h : l <+: m) : forms l <+: forms m := by
  obtain ⟨u, rfl⟩ := h
  rw [forms_append]
  exact ⟨_, rfl⟩
/-- What is whole of a torn list is among its records. -/
theorem tear_keeps {l : List (List UInt8)} {X : List UInt8} (hs : ∀ r ∈ l, r.length ≤ 2000) (h : Tear (forms l) X) {k : Nat} (hk : k ≤ l.length) (hp : forms (l.take k) <+: X) :
    recs X <+: l ∧ l.take k <+: recs X := by
  obtain ⟨m, h1, h2, h3, h4⟩ := tear_recs l X hs h
  rw [h2]
  refine ⟨List.take_prefix _ _, ?_⟩
  have : k ≤ m := by
    rcases Nat.lt_or_ge m k with hm | hm
    · exact absurd ((forms_take_pre l hm).trans hp) (h4 (by omega))
    · exact hm
  exact List.take_prefix_take_left this
end Jp
end Go.Proofs.YtjbcgahdiolhhaaDoor.D2
