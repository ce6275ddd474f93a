/- Several texts in one: JSpec, JSum, JRecs, JPlain, JMem, JJour, JOps, JApp, JOpen, JCrash, JSame, JSmall, JActs. -/
import Derived.Test.YtjbcgahdiolhhaaGreatDoorMA
import Derived.WalkMore
import Derived.Deep.Onto
import Derived.Test.YtjbcgahdiolhhaaGreatDoorMC
import Derived.Deep.RegionHeld3
import Derived.Maps.AppendAt
import Derived.Test.YtjbcgahdiolhhaaGreatDoorMB
namespace Go.Proofs.YtjbcgahdiolhhaaGreatDoor.D2
namespace Jp

/-! ### Sums -/
def wsum : Nat → List UInt8 → Nat
  | _, [] => 0
  | i, c :: l => (i + 1) * c.toNat + wsum (i + 1) l
def jsum (l : List UInt8) : Nat := wsum 0 l % 2147483647

theorem wsum_snoc : ∀ (l : List UInt8) (i : Nat) (c : UInt8), wsum i (l ++ [c]) = wsum i l + (i + l.length + 1) * c.toNat
  | [], i, c => by simp [wsum]
  | x :: l, i, c => by
    simp only [List.cons_append, wsum, List.length_cons]
    rw [wsum_snoc l (i + 1) c]
    have : i + 1 + l.length + 1 = i + (l.length + 1) + 1 := by omega
    rw [this]; omega
theorem jsum_snoc (l : List UInt8) (c : UInt8) : jsum (l ++ [c]) = (jsum l + (l.length + 1) * c.toNat) % 2147483647 := by
  unfold jsum
  rw [wsum_snoc, Nat.zero_add, Nat.mod_add_mod]
theorem jsum_lt (l : List UInt8) : jsum l < 2147483647 := Nat.mod_lt _ (by decide)
theorem jsum_nil : jsum [] = 0 := rfl
theorem jsum_i64 (l : List UInt8) : Sp.I64 (jsum l : Int) := by have := jsum_lt l; exact ⟨by omega, by omega⟩
theorem wsum_le : ∀ (l : List UInt8) (i : Nat), wsum i l ≤ l.length * ((i + l.length) * 255)
  | [], i => by simp [wsum]
  | c :: l, i => by
    have ih := wsum_le l (i + 1)
    have hc : c.toNat ≤ 255 := by have := c.toNat_lt; omega
    have h1 : (i + 1) * c.toNat ≤ (i + 1 + l.length) * 255 := Nat.mul_le_mul (by omega) hc
    simp only [wsum, List.length_cons]
    have e : i + (l.length + 1) = i + 1 + l.length := by omega
    rw [e, Nat.add_mul (l.length) 1, Nat.one_mul]
    generalize (i + 1) * c.toNat = x at *
    omega

/-! ### Forms and records -/
def form (r : List UInt8) : List UInt8 := Sp.eText r ++ Sp.eNum (jsum r : Int)
def forms (l : List (List UInt8)) : List UInt8 := Sp.eMany form l
theorem forms_nil : forms [] = [] := rfl
theorem forms_cons (r : List UInt8) (l : List (List UInt8)) : forms (r :: l) = form r ++ forms l := rfl
theorem forms_append (l m : List (List UInt8)) : forms (l ++ m) = forms l ++ forms m := Sp.eMany_append form l m
theorem forms_snoc (l : List (List UInt8)) (r : List UInt8) : forms (l ++ [r]) = forms l ++ form r := by rw [forms_append]; simp [forms_cons, forms_nil]
def rec1 (s : List UInt8) : Option (List UInt8 × List UInt8) :=
  match Sp.pText s with
  | none => none
  | some (t, u) =>
    match Sp.pNum 59 u with
    | none => none
    | some (n, v) => if t.length ≤ 20000 ∧ n = (jsum t : Int) then some (t, v) else none
theorem rec1_some {s t v : List UInt8} (h : rec1 s = some (t, v)) : s = form t ++ v ∧ t.length ≤ 20000 := by
  unfold rec1 at h
  cases h1 : Sp.pText s with
  | none => rw [h1] at h; cases h
  | some x =>
    obtain ⟨t', u⟩ := x
    rw [h1] at h
    simp only at h
    cases h2 : Sp.pNum 59 u with
    | none => rw [h2] at h; cases h
    | some y =>
      obtain ⟨n, v'⟩ := y
      rw [h2] at h
      simp only at h
      split at h
      · rename_i h3
        simp only [Option.some.injEq, Prod.mk.injEq] at h
        obtain ⟨rfl, rfl⟩ := h
        refine ⟨?_, h3.1⟩
        rw [Sp.eText_p h1, Sp.eNum_p h2, h3.2, form, List.append_assoc]
      · cases h
theorem rec1_form {t : List UInt8} (h : t.length ≤ 20000) (v : List UInt8) : rec1 (form t ++ v) = some (t, v) := by
  unfold rec1 form
  rw [List.append_assoc, Sp.pText_e t (by omega)]
  simp only
  rw [Sp.pNum_e _ (jsum_i64 t) (by omega)]
  simp only
  simp [h]
theorem rec1_nil : rec1 [] = none := by decide
theorem form_pos (t : List UInt8) : 0 < (form t).length := by simp [form, Sp.eText]; omega
theorem rec1_less {s t v : List UInt8} (h : rec1 s = some (t, v)) : v.length < s.length := by
  rw [(rec1_some h).1]; have := form_pos t; simp; omega

def recsF : Nat → List UInt8 → List (List UInt8)
  | 0, _ => []
  | n + 1, s =>
    match rec1 s with
    | none => []
    | some (t, v) => t :: recsF n v
/-- The records of a string. -/
def recs (s : List UInt8) : List (List UInt8) := recsF s.length s
theorem recsF_none {s : List UInt8} (h : rec1 s = none) : ∀ n, recsF n s = []
  | 0 => rfl
  | n + 1 => by unfold recsF; rw [h]
theorem recsF_enough : ∀ (n m : Nat) (s : List UInt8), s.length ≤ n → s.length ≤ m → recsF n s = recsF m s
  | 0, m, s, h, _ => by
    have : s = [] := List.eq_nil_of_length_eq_zero (by omega)
    subst this
    rw [recsF_none rec1_nil, recsF_none rec1_nil]
  | n + 1, 0, s, _, h => by
    have : s = [] := List.eq_nil_of_length_eq_zero (by omega)
    subst this
    rw [recsF_none rec1_nil]; rfl
  | n + 1, m + 1, s, h1, h2 => by
    unfold recsF
    cases h : rec1 s with
    | none => rfl
    | some x =>
      obtain ⟨t, v⟩ := x
      have := rec1_less h
      simp only
      rw [recsF_enough n m v (by omega) (by omega)]
theorem recs_none {s : List UInt8} (h : rec1 s = none) : recs s = [] := recsF_none h _
theorem recs_some {s t v : List UInt8} (h : rec1 s = some (t, v)) : recs s = t :: recs v := by
  have hl := rec1_less h
  unfold recs
  obtain ⟨n, hn⟩ : ∃ n, s.length = n + 1 := ⟨s.length - 1, by omega⟩
  rw [hn]
  show (match rec1 s with | none => [] | some (t, v) => t :: recsF n v) = _
  rw [h]
  simp only
  rw [recsF_enough n v.length v (by omega) (Nat.le_refl _)]
theorem recs_nil : recs [] = [] := rfl
theorem recs_split : ∀ (n : Nat) (s : List UInt8), s.length ≤ n → ∃ u, s = forms (recs s) ++ u ∧ rec1 u = none
  | 0, s, h => by
    have : s = [] := List.eq_nil_of_length_eq_zero (by omega)
    subst this
    exact ⟨[], rfl, rec1_nil⟩
  | n + 1, s, hn => by
    cases h : rec1 s with
    | none => exact ⟨s, by rw [recs_none h]; rfl, h⟩
    | some x =>
      obtain ⟨t, v⟩ := x
      obtain ⟨u, h1, h2⟩ := recs_split n v (by have := rec1_less h; omega)
      refine ⟨u, ?_, h2⟩
      rw [recs_some h, forms_cons, List.append_assoc, ← h1]
      exact (rec1_some h).1
theorem recs_pre (s : List UInt8) : forms (recs s) <+: s := by
  obtain ⟨u, h, _⟩ := recs_split _ s (Nat.le_refl _)
  exact ⟨u, h.symm⟩
theorem recs_size : ∀ (n : Nat) (s : List UInt8), s.length ≤ n → ∀ r ∈ recs s, r.length ≤ 20000
  | 0, s, h => by
    have : s = [] := List.eq_nil_of_length_eq_zero (by omega)
    subst this
    intro r hr; cases hr
  | n + 1, s, hn => by
    cases h : rec1 s with
    | none => rw [recs_none h]; intro r hr; cases hr
    | some x =>
      obtain ⟨t, v⟩ := x
      rw [recs_some h]
      intro r hr
      rcases List.mem_cons.1 hr with rfl | hr
      · exact (rec1_some h).2
      · exact recs_size n v (by have := rec1_less h; omega) r hr
theorem recs_forms : ∀ (l : List (List UInt8)) (u : List UInt8), (∀ r ∈ l, r.length ≤ 20000) → rec1 u = none → recs (forms l ++ u) = l
  | [], u, _, hu => by rw [forms_nil, List.nil_append, recs_none hu]
  | r :: l, u, h, hu => by
    rw [forms_cons, List.append_assoc, recs_some (rec1_form (h r (by simp)) _), recs_forms l u (fun x hx => h x (List.mem_cons_of_mem _ hx)) hu]
theorem recs_forms' (l : List (List UInt8)) (h : ∀ r ∈ l, r.length ≤ 20000) : recs (forms l) = l := by
  have := recs_forms l [] h rec1_nil
  rwa [List.append_nil] at this
theorem recs_count (s : List UInt8) : (recs s).length ≤ s.length := by
  have h := (recs_pre s).length_le
  have : ∀ l : List (List UInt8), l.length ≤ (forms l).length := by
    intro l
    induction l with
    | nil => simp
    | cons a l ih => rw [forms_cons]; have := form_pos a; simp; omega
  have := this (recs s)
  omega

/-! ### A tear: the end may be missing, and bytes may be 0 -/
inductive Tear : List UInt8 → List UInt8 → Prop
  | nil (W : List UInt8) : Tear W []
  | cons {c x : UInt8} {W X : List UInt8} (h : x = c ∨ x = 0) (t : Tear W X) : Tear (c :: W) (x :: X)
theorem Tear.refl : ∀ W, Tear W W
  | [] => .nil _
  | _ :: W => .cons (.inl rfl) (Tear.refl W)
theorem Tear.trans : ∀ {A B C : List UInt8}, Tear A B → Tear B C → Tear A C
  | _, _, _, _, .nil _ => .nil _
  | _, _, _, .cons h t, .cons h' t' => .cons (by
      rcases h' with rfl | rfl
      · exact h
      · exact .inr rfl) (Tear.trans t t')
theorem Tear.length : ∀ {W X : List UInt8}, Tear W X → X.length ≤ W.length
  | _, _, .nil _ => Nat.zero_le _
  | _, _, .cons _ t => by have := Tear.length t; simp; omega
theorem tear_of : ∀ (W X : List UInt8), X.length ≤ W.length → (∀ i, X.getD i 0 = W.getD i 0 ∨ X.getD i 0 = 0) → Tear W X
  | W, [], _, _ => .nil W
  | [], x :: X, h, _ => by simp at h
  | c :: W, x :: X, h, k => .cons (by have := k 0; simpa using this) (tear_of W X (by simpa using h) (fun i => by have := k (i + 1); simpa using this))
theorem tear_pre : ∀ (P : List UInt8) {W Y : List UInt8}, Tear (P ++ W) (P ++ Y) → Tear W Y
  | [], _, _, h => h
  | _ :: P, _, _, .cons _ t => tear_pre P t
theorem tear_num : ∀ (b a A B : List UInt8) (e : UInt8), e ∉ a → e ∉ b → (0 : UInt8) ∉ b → e ≠ 0 → Tear (a ++ e :: A) (b ++ e :: B) → a = b ∧ Tear A B
  | [], [], A, B, e, _, _, _, _, .cons _ t => ⟨rfl, t⟩
  | [], c :: a, A, B, e, h1, _, _, h4, .cons h t => by
    rcases h with h | h
    · exact absurd (by rw [h]; simp) h1
    · exact absurd h h4
  | y :: b, [], A, B, e, _, h2, h3, _, .cons h t => by
    rcases h with h | h
    · exact absurd (by rw [h]; simp) h2
    · exact absurd (by rw [h]; simp) h3
  | y :: b, c :: a, A, B, e, h1, h2, h3, h4, .cons h t => by
    have ⟨e1, e2⟩ := tear_num b a A B e (fun x => h1 (List.mem_cons_of_mem _ x)) (fun x => h2 (List.mem_cons_of_mem _ x)) (fun x => h3 (List.mem_cons_of_mem _ x)) h4 t
    rcases h with h | h
    · exact ⟨by rw [h, e1], e2⟩
    · exact absurd (by rw [h]; simp) h3
theorem tear_same : ∀ (r t A B : List UInt8), r.length = t.length → Tear (r ++ A) (t ++ B) → Tear r t ∧ Tear A B
  | [], [], _, _, _, h => ⟨.nil _, h⟩
  | _ :: r, _ :: t, A, B, hl, .cons h k => by
    have ⟨h1, h2⟩ := tear_same r t A B (by simpa using hl) k
    exact ⟨.cons h h1, h2⟩
  | [], _ :: _, _, _, hl, _ => by simp at hl
  | _ :: _, [], _, _, hl, _ => by simp at hl
theorem tear_wsum : ∀ (r t : List UInt8) (i : Nat), r.length = t.length → Tear r t → wsum i t ≤ wsum i r ∧ (wsum i t = wsum i r → t = r)
  | [], [], i, _, _ => ⟨Nat.le_refl _, fun _ => rfl⟩
  | c :: r, x :: t, i, hl, .cons h k => by
    have ⟨h1, h2⟩ := tear_wsum r t (i + 1) (by simpa using hl) k
    rcases h with rfl | rfl
    · simp only [wsum]
      exact ⟨by omega, fun e => by rw [h2 (by omega)]⟩
    · simp only [wsum]
      have : (0 : UInt8).toNat = 0 := rfl
      rw [this, Nat.mul_zero]
      refine ⟨by omega, fun e => ?_⟩
      have hz : (i + 1) * c.toNat = 0 := by omega
      have hc : c.toNat = 0 := by
        rcases Nat.mul_eq_zero.1 hz with h | h
        · omega
        · exact h
      have : c = 0 := UInt8.toNat_inj.1 hc
      rw [this, h2 (by omega)]
  | [], _ :: _, _, hl, _ => by simp at hl
  | _ :: _, [], _, hl, _ => by simp at hl
theorem itoa_free (n : Int) : (0 : UInt8) ∉ Lib.itoa n := by
  intro h
  have := Sp.itoa_bytes n 0 h
  simp at this
theorem tear_form {r W X : List UInt8} (hr : r.length ≤ 2000) (h : Tear (form r ++ W) X) : (∃ Y, X = form r ++ Y ∧ Tear W Y) ∨ (rec1 X = none ∧ ¬ form r <+: X) := by
  by_cases hp : form r <+: X
  · obtain ⟨Y, rfl⟩ := hp
    exact .inl ⟨Y, rfl, tear_pre _ h⟩
  · refine .inr ⟨?_, hp⟩
    cases hx : rec1 X with
    | none => rfl
    | some p =>
      obtain ⟨t, v⟩ := p
      exfalso
      have hX := (rec1_some hx).1
      subst hX
      have f58 : ∀ n, (58 : UInt8) ∉ Lib.itoa n := fun n => Sp.itoa_not n 58 (.inl rfl)
      have f59 : ∀ n, (59 : UInt8) ∉ Lib.itoa n := fun n => Sp.itoa_not n 59 (.inr (.inl rfl))
      have ef : ∀ (q z : List UInt8), form q ++ z = Lib.itoa (q.length : Int) ++ 58 :: (q ++ 44 :: (Lib.itoa (jsum q : Int) ++ 59 :: z)) := by
        intro q z
        have : ¬ ((jsum q : Int) < 0) := by omega
        simp [form, Sp.eText, Sp.eNum, Sp.eInt, this]
      rw [ef r W, ef t v] at h
      obtain ⟨e1, h2⟩ := tear_num _ _ _ _ 58 (f58 _) (f58 _) (itoa_free _) (by decide) h
      have hlen : r.length = t.length := by
        have ht := (rec1_some hx).2
        have := Sp.itoa_inj (m := (r.length : Int)) (n := (t.length : Int)) ⟨by omega, by omega⟩ ⟨by omega, by omega⟩ e1
        omega
      obtain ⟨h3, h4⟩ := tear_same r t _ _ hlen h2
      cases h4 with
      | cons _ h5 =>
        obtain ⟨e2, _⟩ := tear_num _ _ _ _ 59 (f59 _) (f59 _) (itoa_free _) (by decide) h5
        have hs := Sp.itoa_inj (jsum_i64 r) (jsum_i64 t) e2
        have b1 := wsum_le r 0
        have b2 : r.length * ((0 + r.length) * 255) ≤ 2000 * (2000 * 255) := Nat.mul_le_mul hr (Nat.mul_le_mul (by omega) (Nat.le_refl _))
        obtain ⟨w1, w2⟩ := tear_wsum r t 0 hlen h3
        have j1 : jsum r = wsum 0 r := Nat.mod_eq_of_lt (by omega)
        have j2 : jsum t = wsum 0 t := Nat.mod_eq_of_lt (by omega)
        have : t = r := w2 (by omega)
        subst this
        exact hp ⟨v, rfl⟩
/-- The records of a torn list: those whose forms are whole, up to the first one whose form is not. -/
theorem tear_recs : ∀ (l : List (List UInt8)) (X : List UInt8), (∀ r ∈ l, r.length ≤ 2000) → Tear (forms l) X →
    ∃ m, m ≤ l.length ∧ recs X = l.take m ∧ forms (l.take m) <+: X ∧ (m < l.length → ¬ forms (l.take (m + 1)) <+: X)
  | [], X, _, h => by
    cases h
    exact ⟨0, Nat.le_refl _, rfl, ⟨[], rfl⟩, fun h => absurd h (Nat.lt_irrefl _)⟩
  | r :: l, X, hs, h => by
    rw [forms_cons] at h
    rcases tear_form (hs r (by simp)) h with ⟨Y, rfl, hY⟩ | ⟨hn, hp⟩
    · obtain ⟨m, h1, h2, h3, h4⟩ := tear_recs l Y (fun x hx => hs x (List.mem_cons_of_mem _ hx)) hY
      refine ⟨m + 1, by simpa using h1, ?_, ?_, fun hm => ?_⟩
      · rw [recs_some (rec1_form (by have := hs r (by simp); omega) Y), h2, List.take_succ_cons]
      · rw [List.take_succ_cons, forms_cons]
        exact (List.prefix_append_right_inj _).2 h3
      · rw [List.take_succ_cons, forms_cons, List.prefix_append_right_inj]
        exact h4 (by simpa using hm)
    · refine ⟨0, Nat.zero_le _, by rw [recs_none hn]; rfl, ⟨X, rfl⟩, fun _ => ?_⟩
      rw [List.take_succ_cons, forms_cons, List.take_zero, forms_nil, List.append_nil]
      exact hp
theorem forms_take_pre (l : List (List UInt8)) {a b : Nat} (h : a ≤ b) : forms (l.take a) <+: forms (l.take b) := by
  have : l.take b = l.take a ++ (l.take b).drop a := by
    have := List.take_append_drop a (l.take b)
    rw [List.take_take, Nat.min_eq_left h] at this
    exact this.symm
  rw [this, forms_append]
  exact ⟨_, rfl⟩
theorem forms_pre {l m : List (List UInt8)} (h : l <+: m) : forms l <+: forms m := by
  obtain ⟨u, rfl⟩ := h
  rw [forms_append]
  exact ⟨_, rfl⟩
/-- What is whole of a torn list is among its records. -/
theorem tear_keeps {l : List (List UInt8)} {X : List UInt8} (hs : ∀ r ∈ l, r.length ≤ 2000) (h : Tear (forms l) X) {k : Nat} (hk : k ≤ l.length) (hp : forms (l.take k) <+: X) :
    recs X <+: l ∧ l.take k <+: recs X := by
  obtain ⟨m, h1, h2, h3, h4⟩ := tear_recs l X hs h
  rw [h2]
  refine ⟨List.take_prefix _ _, ?_⟩
  have : k ≤ m := by
    rcases Nat.lt_or_ge m k with hm | hm
    · exact absurd ((forms_take_pre l hm).trans hp) (h4 (by omega))
    · exact hm
  exact List.take_prefix_take_left this
end Jp
end Go.Proofs.YtjbcgahdiolhhaaGreatDoor.D2
namespace Go.Proofs.YtjbcgahdiolhhaaGreatDoor.D2
open Go.RowKit Go.Shelf
open Jp

theorem take_snoc {l : List UInt8} {k : Nat} (h : k < l.length) : l.take (k + 1) = l.take k ++ [l[k]] := List.take_succ_eq_append_getElem h
theorem jsum_take (l : List UInt8) (k : Nat) (h : k < l.length) : jsum (l.take (k + 1)) = (jsum (l.take k) + (k + 1) * (l[k]).toNat) % 2147483647 := by
  rw [take_snoc h, jsum_snoc, List.length_take, Nat.min_eq_left (by omega)]

theorem w64_of {n : Int} (h : -9223372036854775808 ≤ n ∧ n ≤ 9223372036854775807) : wrap64 n = n := by unfold wrap64; omega
theorem sum_step (s k : Nat) (c : UInt8) (hc : c.toNat < 256) (hs : s < 2147483647) (h0 : 0 ≤ ((k : Int) + 1) * (c.toNat : Int)) (h1 : ((k : Int) + 1) * (c.toNat : Int) ≤ 280375465082880) (hm : ((k : Int) + 1) * (c.toNat : Int) = (((k + 1) * c.toNat : Nat) : Int)) :
    Value.int IntKind.i64 ((wrap64 ((s : Int) + wrap64 (((k : Int) + 1) * wrap64 (c.toNat : Int)))).tmod 2147483647) = Value.int IntKind.i64 (((s + (k + 1) * c.toNat) % 2147483647 : Nat) : Int) := by
  rw [w64_of (n := (c.toNat : Int)) (by omega), w64_of (n := ((k : Int) + 1) * (c.toNat : Int)) (by omega), w64_of (by omega), hm, Int.tmod_eq_emod_of_nonneg (by omega)]
  congr 1

theorem sum_any (l : List UInt8) (hl : l.length ≤ 1099511627776) (w : World) :
    Calls Tryz.prog 10 #[.string (bs l)] w fun e w' => e = .returned (.int .i64 (jsum l : Int)) ∧ w = w' := by
  have hsz := bs_size l
  go_enter Tryz.func10, Tryz.ntmps10
  go_wp2
  go_loop [3, 7] (fun u i => ∃ k s : Nat, k ≤ l.length ∧ s < 2147483647 ∧ Hid (s = jsum (l.take k)) ∧ u = .int .i64 s ∧ i = .int .i64 k) (fun _ i => l.length - (intOf i).toNat)
  case atStart => exact ⟨0, 0, Nat.zero_le _, by decide, Lib.hid (by simp [jsum_nil]), rfl, rfl⟩
  case round =>
    obtain ⟨k, s, hk, hs, HS, rfl, rfl⟩ := hrel
    by_cases hlt : k < l.length
    · have hks : k < (bs l).size := by rw [hsz]; exact hlt
      have HJ := jsum_take l k hlt
      rw [← HS.out] at HJ
      have hc := (l[k]).toNat_lt
      have hc0 : (bs l)[k]'hks = l[k] := rfl
      generalize l[k] = c at HJ hc hc0
      have hm : ((k : Int) + 1) * (c.toNat : Int) = (((k + 1) * c.toNat : Nat) : Int) := by simp
      have hb : (k + 1) * c.toNat ≤ 1099511627776 * 255 := Nat.mul_le_mul (by omega) (by omega)
      have h0 : 0 ≤ ((k : Int) + 1) * (c.toNat : Int) := by omega
      have h1 : ((k : Int) + 1) * (c.toNat : Int) ≤ 280375465082880 := by omega
      have HJ := Lib.hid HJ
      have hm := Lib.hid hm
      clear hb hc
      go_wp2
      go_roundw
      case rel => exact ⟨k + 1, (s + (k + 1) * c.toNat) % 2147483647, by omega, by omega, Lib.hid HJ.out.symm, sum_step s k c (c.toNat_lt) hs h0 h1 hm.out, by go_num⟩
      case measure => simp [intOf]; omega
    · have : k = l.length := by omega
      subst this
      have he := HS.out
      rw [List.take_length] at he
      subst he
      go_wp2
      go_ret
      exact ⟨rfl, rfl⟩

theorem formOf_any (l : List UInt8) (hl : l.length ≤ 1099511627776) (w : World) (he : Env w) :
    Calls Tryz.prog 40 #[.string (bs l)] w fun e w' => e = .returned (.string (bs (form l))) ∧ Below w.heap.size w w' := by
  have hJ := jsum_i64 l
  have hd : (Sp.eNum (jsum l : Int)).length ≤ 30 := by
    have h0 := jsum_lt l
    have h1 := Lib.itoa_length_le (jsum l : Int) (by omega) (by omega)
    unfold Sp.eNum Sp.eInt
    split
    · simp
    · simp; omega
  have hx : (Sp.eText l).length ≤ 1099511628000 := by
    have h1 := Lib.itoa_length_le (l.length : Int) (by omega) (by omega)
    simp [Sp.eText]; omega
  have hsz := bs_size (Sp.eText l)
  have hsz2 := bs_size (Sp.eNum (jsum l : Int))
  have hq : (bs (Sp.eText l)).size ≤ 1099511628000 := by omega
  have hq2 : (bs (Sp.eNum (jsum l : Int))).size ≤ 30 := by omega
  clear hsz hsz2 hd hx
  go_enter Tryz.func40, Tryz.ntmps40
  go_wp2_with (go_at_call 64; refine (wText_any l (by omega) _ he).mono ?_; rintro e w1 ⟨rfl, b1⟩; refine Hid.out ?_)
  refine Lib.hid ?_
  have e1 := he.fresh b1
  go_wp2_with (go_at_call 10; refine (sum_any l hl _).mono ?_; rintro e w2 ⟨rfl, rfl⟩; refine Hid.out ?_)
  refine Lib.hid ?_
  go_wp2_with (go_at_call 65; refine (wNum_any _ hJ _ e1).mono ?_; rintro e w3 ⟨rfl, b3⟩)
  go_ret
  exact ⟨ret_string (by rw [bs_append]; rfl), b1.trans (b3.mono b1.size)⟩
end Go.Proofs.YtjbcgahdiolhhaaGreatDoor.D2
namespace Go.Proofs.YtjbcgahdiolhhaaGreatDoor.D2
open Go.RowKit Go.Shelf
open Jp

def strVs (l : List (List UInt8)) : List Value := l.map fun z : List UInt8 => Value.string (bs z)
theorem strVs_length (l : List (List UInt8)) : (strVs l).length = l.length := by simp [strVs]
theorem strVs_snoc (l : List (List UInt8)) (a : List UInt8) : strVs l ++ [Value.string (bs a)] = strVs (l ++ [a]) := by simp [strVs]
/-- What recordsOf leaves: a list of its own, and its length. -/
def RecsPost (w : World) (l : List (List UInt8)) (n : Int) (e : Ending) (w' : World) : Prop :=
  ∃ v, e = .returned (.tuple #[v, .int .i64 n]) ∧ w'.ownsRow w.heap.size 9 1 v l.length (strVs l) ∧ Below w.heap.size w w'
/-- How far the reading has come. -/
structure Scan (s : List UInt8) (ts : List (List UInt8)) (u : List UInt8) : Prop where
  text : s = forms ts ++ u
  recs : recs s = ts ++ Jp.recs u
theorem Scan.next {s u a v : List UInt8} {ts : List (List UInt8)} (h : Scan s ts u) (hr : rec1 u = some (a, v)) : Scan s (ts ++ [a]) v := by
  refine ⟨?_, ?_⟩
  · rw [h.text, forms_snoc, List.append_assoc, ← (rec1_some hr).1]
  · rw [h.recs, recs_some hr]; simp
theorem Scan.done {s u : List UInt8} {ts : List (List UInt8)} (h : Scan s ts u) (hr : rec1 u = none) : Jp.recs s = ts ∧ (forms ts).length = s.length - u.length := by
  refine ⟨by rw [h.recs, recs_none hr, List.append_nil], ?_⟩
  have := congrArg List.length h.text
  rw [List.length_append] at this
  omega
theorem Scan.len {s u : List UInt8} {ts : List (List UInt8)} (h : Scan s ts u) : u.length ≤ s.length ∧ ts.length ≤ s.length := by
  have h1 := congrArg List.length h.text
  rw [List.length_append] at h1
  have : ∀ l : List (List UInt8), l.length ≤ (forms l).length := by
    intro l
    induction l with
    | nil => simp
    | cons a l ih => rw [forms_cons]; have := form_pos a; simp; omega
  have := this ts
  omega
/-- What is read of what is left. -/
theorem read_next (u : List UInt8) : ∃ a n st1 st2, rText (some u) = (a, st1) ∧ rNum 59 st1 = (n, st2) ∧ a.length ≤ u.length ∧ (st1.getD []).length ≤ u.length ∧ Sp.I64 n ∧
    ((st2 = none ∧ rec1 u = none) ∨ ∃ v, st2 = some v ∧ v.length ≤ u.length ∧ rec1 u = if a.length ≤ 20000 ∧ n = (jsum a : Int) then some (a, v) else none) := by
  rcases h1 : Sp.pText u with _ | ⟨a, u1⟩
  · exact ⟨[], 0, none, none, by simp [rText, h1], rfl, by simp, by simp, ⟨by decide, by decide⟩, .inl ⟨rfl, by simp [rec1, h1]⟩⟩
  · have hl := Sp.pText_less h1
    have ha : a.length ≤ u.length := by have := congrArg List.length (Sp.eText_p h1); simp [Sp.eText] at this; omega
    rcases h2 : Sp.pNum 59 u1 with _ | ⟨n, v⟩
    · exact ⟨a, 0, some u1, none, by simp [rText, h1], by simp [rNum, h2], ha, by simp; omega, ⟨by decide, by decide⟩, .inl ⟨rfl, by simp [rec1, h1, h2]⟩⟩
    · obtain ⟨e1, e2, _⟩ := Sp.pNum_some h2
      have hv : v.length ≤ u1.length := by have := congrArg List.length e1; simp at this; omega
      exact ⟨a, n, some u1, some v, by simp [rText, h1], by simp [rNum, h2], ha, by simp; omega, e2, .inr ⟨v, rfl, by omega, by simp [rec1, h1, h2]⟩⟩

theorem recs_len {z : Int} {n : Nat} {f : List UInt8} {v : List UInt8} (h : z = (n : Int)) (h2 : n = f.length + v.length) (h3 : n ≤ 1099511627776) : Value.int IntKind.i64 (wrap64 (z - (v.length : Int))) = Value.int IntKind.i64 (f.length : Int) := by
  rw [h, w64_of (by omega)]
  congr 1
  omega
theorem recs_len0 {z : Int} {n : Nat} {f : List UInt8} (h : z = (n : Int)) (h2 : n = f.length + ([] : List UInt8).length) : Value.int IntKind.i64 z = Value.int IntKind.i64 (f.length : Int) := by
  rw [h]
  congr 1
  simp at h2
  omega
theorem recs_meas {n : Nat} {ts : List (List UInt8)} (a : List UInt8) (h : (forms (ts ++ [a])).length ≤ n) : n - (intOf (Value.int IntKind.i64 ((forms (ts ++ [a])).length : Int))).toNat < n - (intOf (Value.int IntKind.i64 ((forms ts).length : Int))).toNat := by
  have := form_pos a
  rw [forms_snoc] at h ⊢
  simp [intOf] at h ⊢
  omega

set_option maxHeartbeats 4000000 in
set_option maxRecDepth 100000 in
theorem recordsOf_any (s : List UInt8) (hs : s.length ≤ 1099511627776) (w : World) (he : Env w) :
    Calls Tryz.prog 34 #[.string (bs s)] w (RecsPost w (recs s) ((forms (recs s)).length : Int)) := by
  obtain ⟨i0, hi, hz0, hz1, hz2⟩ := info_parts string_info
  have hsz : ((bs s).size : Int) = (s.length : Int) := by rw [bs_size]
  have HSZ := Lib.hid hsz
  have hsz2 : (bs s).size ≤ 1099511627776 := by rw [bs_size]; exact hs
  have HS := Lib.hid hs
  have hg0 := he.size
  clear hsz hs
  go_enter Tryz.func34, Tryz.ntmps34
  go_wp2
  go_step3
  go_wp2_with (go_at_call 53; refine (open_any s _).mono ?_; rintro e w1 ⟨rfl, h1, b1⟩; refine Hid.out ?_)
  refine Lib.hid ?_
  go_wp2
  go_step3
  go_wp2
  go_loopw [2, 3] (fun rv ln wr => ∃ (ts : List (List UInt8)) (u : List UInt8), Hid (Scan s ts u) ∧ ln = .int .i64 (((forms ts).length : Nat) : Int) ∧ wr.ownsRow (w.heap.size + 1) 9 1 rv ts.length (strVs ts) ∧ RdAt 103 w.heap.size (some u) wr ∧ Below w.heap.size w wr) (fun _ ln _ => s.length - (intOf ln).toNat)
  case atStart => exact ⟨[], s, Lib.hid ⟨rfl, rfl⟩, rfl, World.ownsRow_nil _ _ _ _, h1, b1⟩
  case round =>
    obtain ⟨ts, u, HP, rfl, hown, hrd, br⟩ := hrel
    clear h1 b1 w1
    have er := he.fresh br
    obtain ⟨a, n, st1, st2, r1, r2, la, l1, hn, hr⟩ := read_next u
    have lu := HP.out.len
    have lS := HS.out
    have T1 := text_any w.heap.size (some u) (by simp; omega)
    rw [r1] at T1
    have T1 := Lib.hid T1
    have T2 := num_any w.heap.size st1 (by omega)
    rw [r2] at T2
    have T2 := Lib.hid T2
    have hal : (bs a).size = a.length := bs_size a
    have HAL := Lib.hid hal
    have SA := Lib.hid (sum_any a (by omega))
    have hb := br.size
    clear r1 r2 hal
    rcases hr with ⟨rfl, hr⟩ | ⟨v, rfl, lv, hr⟩
    · obtain ⟨e1, e2⟩ := HP.out.done hr
      have HD := Lib.hid e1
      clear e1 e2 hr
      go_wp2_with (go_at_call 54; refine (T1.out _ er hrd).mono ?_; rintro e w2 ⟨rfl, h2, g2⟩; refine Hid.out ?_)
      refine Lib.hid ?_
      have br2 := below_trans_gb br g2 (Nat.le_refl _) (Nat.le_refl _)
      have er2 := he.fresh br2
      have hown2 := hown.kept g2 (.inr (own_reader hown (by omega)))
      go_wp2_with (go_at_call 55; refine (T2.out _ er2 h2).mono ?_; rintro e w3 ⟨rfl, h3, g3⟩; refine Hid.out ?_)
      refine Lib.hid ?_
      have br3 := below_trans_gb br2 g3 (Nat.le_refl _) (Nat.le_refl _)
      have hown3 := hown2.kept g3 (.inr (own_reader hown2 (by omega)))
      have hb3 := br3.size
      clear hrd h2 g2 g3 er er2 br br2 hown hown2
      go_wp2_with (go_at_call 56; refine (done_any _ none _ h3).mono ?_; rintro e w4 ⟨rfl, rfl⟩)
      go_wp2_with (go_at_call 57; refine (left_any _ rfl _ none _ h3).mono ?_; rintro e w4 ⟨rfl, rfl⟩)
      go_ret2
      rw [show recs s = ts from HD.out]
      exact ⟨_, rfl, hown3.mono (Nat.le_succ _), br3⟩
    · go_wp2_with (go_at_call 54; refine (T1.out _ er hrd).mono ?_; rintro e w2 ⟨rfl, h2, g2⟩; refine Hid.out ?_)
      refine Lib.hid ?_
      have br2 := below_trans_gb br g2 (Nat.le_refl _) (Nat.le_refl _)
      have er2 := he.fresh br2
      have hown2 := hown.kept g2 (.inr (own_reader hown (by omega)))
      go_wp2_with (go_at_call 55; refine (T2.out _ er2 h2).mono ?_; rintro e w3 ⟨rfl, h3, g3⟩; refine Hid.out ?_)
      refine Lib.hid ?_
      have br3 := below_trans_gb br2 g3 (Nat.le_refl _) (Nat.le_refl _)
      have hown3 := hown2.kept g3 (.inr (own_reader hown2 (by omega)))
      have hb3 := br3.size
      clear hrd h2 g2 g3 er er2 br br2 hown hown2
      have HR := Lib.hid hr
      clear hr
      have ha2 : (bs a).size ≤ 1099511627776 := by rw [HAL.out]; omega
      rcases v with _ | ⟨c, v⟩
      · have d1 : rDone (some []) = true := rfl
        go_wp2_with (go_at_call 56; refine (done_any _ (some []) _ h3).mono ?_; rintro e w4 ⟨rfl, rfl⟩; refine Hid.out ?_)
        refine Lib.hid ?_
        clear d1
        by_cases hlen : a.length ≤ 20000
        · have hl2 : (bs a).size ≤ 20000 := by rw [HAL.out]; exact hlen
          go_wp2_with (go_at_call 10; refine (SA.out _).mono ?_; rintro e w4 ⟨rfl, rfl⟩; refine Hid.out ?_)
          refine Lib.hid ?_
          by_cases hsum : n = (jsum a : Int)
          · have hnx := HP.out.next (HR.out.trans (if_pos ⟨hlen, hsum⟩))
            have HN := Lib.hid hnx
            clear hnx
            subst hsum
            go_wp2_with (at_builtin; refine Hid.out ?_)
            refine Lib.hid ?_
            refine (wpList_append_own _ rfl _ _ 46 rfl (w.heap.size + 1) 9 i0 (.string ⟨#[]⟩) 1 16 Tryz.underlying46 hi hz0 hz1 hz2 rfl (by decide) _ _ _ rfl (hown3.alloc _) ⟨w3.heap.size, 0, none⟩ 1 1 [.string (bs a)] rfl rfl ?c1 ?c2 ?c3 ?c4 ?c5 ?_)
            case c1 =>
              intro j y hj
              match j, hj with
              | 0, hj => simp at hj; subst hj; simp [Addr.add]
            case c2 => intro y hy; simp at hy; subst hy; rfl
            case c3 => unfold maxLen; omega
            case c4 => omega
            case c5 => have := h3.lt; simp; omega
            intro v' w4 hown4 hgrow _
            have h4 : RdAt 103 w.heap.size (some []) w4 := by
              refine RdAt.old (w := w3.alloc (.cells #[.string (bs a)] 9)) ?_ hgrow (fun e => own_reader hown3 (by omega) e.symm)
              exact RdAt.fresh h3 ((Below.refl _ _).alloc (Nat.le_refl _) _)
            have br4 : Below w.heap.size w w4 := (br3.alloc (by omega) _).grown hgrow (by simp; omega) (fun k hk => by have := (hown3.lt k hk).1; omega)
            have hown5 : w4.ownsRow (w.heap.size + 1) 9 1 v' (ts ++ [a]).length (strVs (ts ++ [a])) := by
              rw [← strVs_snoc]; simpa using hown4
            have HL := congrArg List.length HN.out.text
            rw [List.length_append] at HL
            have HL2 := Lib.hid HL
            clear HL hown3 hown4 hgrow h3 br3
            go_wp2_with (go_at_call 57; refine (left_any _ rfl _ (some []) _ h4).mono ?_; rintro e w5 ⟨rfl, rfl⟩; refine Hid.out ?_)
            refine Lib.hid ?_
            go_wp2
            go_roundw
            case rel => exact ⟨ts ++ [a], [], HN, recs_len0 HSZ.out HL2.out, hown5, h4, br4⟩
            case measure =>
              have h1 := recs_len0 HSZ.out HL2.out
              rw [h1]
              exact recs_meas _ (by have := HL2.out; omega)
          · have HD := Lib.hid (HP.out.done (HR.out.trans (if_neg (fun h => hsum h.2)))).1
            go_wp2
            go_ret2
            rw [show recs s = ts from HD.out]
            exact ⟨_, rfl, hown3.mono (Nat.le_succ _), br3⟩
        · have hl2 : 20000 < (bs a).size := by rw [HAL.out]; omega
          have HD := Lib.hid (HP.out.done (HR.out.trans (if_neg (fun h => hlen h.1)))).1
          go_wp2
          go_ret2
          rw [show recs s = ts from HD.out]
          exact ⟨_, rfl, hown3.mono (Nat.le_succ _), br3⟩
      · have d1 : rDone (some (c :: v)) = false := rfl
        go_wp2_with (go_at_call 56; refine (done_any _ (some (c :: v)) _ h3).mono ?_; rintro e w4 ⟨rfl, rfl⟩; refine Hid.out ?_)
        refine Lib.hid ?_
        clear d1
        go_wp2_with (go_at_call 57; refine (left_any _ rfl _ (some (c :: v)) _ h3).mono ?_; rintro e w4 ⟨rfl, rfl⟩; refine Hid.out ?_)
        refine Lib.hid ?_
        by_cases hlen : a.length ≤ 20000
        · have hl2 : (bs a).size ≤ 20000 := by rw [HAL.out]; exact hlen
          go_wp2_with (go_at_call 10; refine (SA.out _).mono ?_; rintro e w4 ⟨rfl, rfl⟩; refine Hid.out ?_)
          refine Lib.hid ?_
          by_cases hsum : n = (jsum a : Int)
          · have hnx := HP.out.next (HR.out.trans (if_pos ⟨hlen, hsum⟩))
            have HN := Lib.hid hnx
            clear hnx
            subst hsum
            go_wp2_with (at_builtin; refine Hid.out ?_)
            refine Lib.hid ?_
            refine (wpList_append_own _ rfl _ _ 46 rfl (w.heap.size + 1) 9 i0 (.string ⟨#[]⟩) 1 16 Tryz.underlying46 hi hz0 hz1 hz2 rfl (by decide) _ _ _ rfl (hown3.alloc _) ⟨w3.heap.size, 0, none⟩ 1 1 [.string (bs a)] rfl rfl ?c1q ?c2q ?c3q ?c4q ?c5q ?_)
            case c1q =>
              intro j y hj
              match j, hj with
              | 0, hj => simp at hj; subst hj; simp [Addr.add]
            case c2q => intro y hy; simp at hy; subst hy; rfl
            case c3q => unfold maxLen; omega
            case c4q => omega
            case c5q => have := h3.lt; simp; omega
            intro v' w4 hown4 hgrow _
            have h4 : RdAt 103 w.heap.size (some (c :: v)) w4 := by
              refine RdAt.old (w := w3.alloc (.cells #[.string (bs a)] 9)) ?_ hgrow (fun e => own_reader hown3 (by omega) e.symm)
              exact RdAt.fresh h3 ((Below.refl _ _).alloc (Nat.le_refl _) _)
            have br4 : Below w.heap.size w w4 := (br3.alloc (by omega) _).grown hgrow (by simp; omega) (fun k hk => by have := (hown3.lt k hk).1; omega)
            have hown5 : w4.ownsRow (w.heap.size + 1) 9 1 v' (ts ++ [a]).length (strVs (ts ++ [a])) := by
              rw [← strVs_snoc]; simpa using hown4
            have HL := congrArg List.length HN.out.text
            rw [List.length_append] at HL
            have HL2 := Lib.hid HL
            clear HL hown3 hown4 hgrow h3 br3
            go_wp2_with (go_at_call 57; refine (left_any _ rfl _ (some (c :: v)) _ h4).mono ?_; rintro e w5 ⟨rfl, rfl⟩; refine Hid.out ?_)
            refine Lib.hid ?_
            go_wp2
            go_roundw
            case rel => exact ⟨ts ++ [a], (c :: v), HN, recs_len HSZ.out HL2.out lS, hown5, h4, br4⟩
            case measure =>
              have h1 : Value.int IntKind.i64 (wrap64 (((bs s).size : Int) - ((v.length : Int) + 1))) = _ := recs_len HSZ.out HL2.out lS
              rw [h1]
              exact recs_meas _ (by have := HL2.out; omega)
          · have HD := Lib.hid (HP.out.done (HR.out.trans (if_neg (fun h => hsum h.2)))).1
            go_wp2
            go_ret2
            rw [show recs s = ts from HD.out]
            exact ⟨_, rfl, hown3.mono (Nat.le_succ _), br3⟩
        · have hl2 : 20000 < (bs a).size := by rw [HAL.out]; omega
          have HD := Lib.hid (HP.out.done (HR.out.trans (if_neg (fun h => hlen h.1)))).1
          go_wp2
          go_ret2
          rw [show recs s = ts from HD.out]
          exact ⟨_, rfl, hown3.mono (Nat.le_succ _), br3⟩
end Go.Proofs.YtjbcgahdiolhhaaGreatDoor.D2
namespace Go.Proofs.YtjbcgahdiolhhaaGreatDoor.D2
open Dp Jp

structure Jn where
  file : Int
  l : List (List UInt8)
  bad : Bool
/-- Open: the records, if there is a journal, the error, and the disk. -/
def jopen (D : Dk) (f : Int) : Option (List (List UInt8)) × Int × Dk :=
  if isFile f = false then (none, 1, D)
  else if (D.sync f).1 ≠ 0 then (none, (D.sync f).1, (D.sync f).2)
  else if (forms (recs (D.now f.toNat))).length < (D.now f.toNat).length then
    if ((D.sync f).2.truncate f ((forms (recs (D.now f.toNat))).length : Int)).1 ≠ 0 then (none, ((D.sync f).2.truncate f ((forms (recs (D.now f.toNat))).length : Int)).1, ((D.sync f).2.truncate f ((forms (recs (D.now f.toNat))).length : Int)).2)
    else (some (recs (D.now f.toNat)), 0, ((D.sync f).2.truncate f ((forms (recs (D.now f.toNat))).length : Int)).2)
  else (some (recs (D.now f.toNat)), 0, (D.sync f).2)
def jappend (D : Dk) (J : Jn) (s : List UInt8) : Int × Dk × Jn :=
  if J.bad then (7, D, J)
  else if 20000 < s.length then (3, D, J)
  else if 1048576 < (forms J.l).length + (form s).length then (6, D, J)
  else if (D.write J.file ((forms J.l).length : Int) (form s)).1 ≠ 0 then ((D.write J.file ((forms J.l).length : Int) (form s)).1, (D.write J.file ((forms J.l).length : Int) (form s)).2, { J with bad := true })
  else (0, (D.write J.file ((forms J.l).length : Int) (form s)).2, { J with l := J.l ++ [s] })
def jsync (D : Dk) (J : Jn) : Int × Dk × Jn :=
  if J.bad then (7, D, J)
  else ((D.sync J.file).1, (D.sync J.file).2, { J with bad := decide ((D.sync J.file).1 ≠ 0) })
end Go.Proofs.YtjbcgahdiolhhaaGreatDoor.D2
namespace Go.Proofs.YtjbcgahdiolhhaaGreatDoor.D2
open Go.RowKit Go.Maps Go.ChangeMaps Go.MapKept
open Dp Jp

/-- An object: how it lies in memory, and that it stays so while its blocks do. -/
structure Ob where
  In : World → (Nat → Nat) → Nat → Prop
  kept : ∀ {w w' : World} {lab lab' : Nat → Nat} {id : Nat}, In w lab id → LabOk lab' w' → (∀ x, x < w.heap.size → lab' x = lab x) → (∀ x, x < w.heap.size → id ≤ lab x → lab x < id + 64 → w'.heap[x]? = w.heap[x]?) → In w' lab' id
theorem Ob.other (o : Ob) {w w' : World} {lab lab' : Nat → Nat} {id id' : Nat} (h : o.In w lab id) (k : Chg id' lab lab' w w') (lo : LabOk lab' w') (hne : id' + 64 ≤ id ∨ id + 64 ≤ id') : o.In w' lab' id :=
  o.kept h lo k.labs fun x hx h1 h2 => k.block x hx (by omega)
theorem Ob.fresh (o : Ob) {w w' : World} {lab : Nat → Nat} {id : Nat} (h : o.In w lab id) (lo : LabOk lab w) (hb : Below w.heap.size w w') : o.In w' lab id :=
  o.kept h (fun x hx => lo x (Nat.le_trans hb.size hx)) (fun _ _ => rfl) fun x hx _ _ => hb.block x hx

/-! ### The objects -/
def Ob.disk (b : Nat) (D : Dk) : Ob where
  In w lab id := Dg w lab id b D
  kept := fun ⟨⟨L, h1⟩, h2⟩ lo hl hb => ⟨⟨L, h1.kept lo hl hb⟩, h2⟩
/-- A slice in a block of its own. -/
def Ob.own (e : TypeId) (v : Value) (xs : List Value) : Ob where
  In w lab id := w.ownsRow 0 e 1 v xs.length xs ∧ ∀ k, v.ownBlock = some k → lab k = id
  kept := fun {w w' lab lab' id} h lo hl hb => ⟨ownsRow_block h.1 fun k hk => hb k (h.1.lt k hk).2 (by rw [h.2 k hk]; omega) (by rw [h.2 k hk]; omega), fun k hk => (hl k (h.1.lt k hk).2).trans (h.2 k hk)⟩
structure JnIn (w : World) (lab : Nat → Nat) (id b d : Nat) (J : Jn) (v : Value) : Prop where
  blk : w.heap[b]? = some (.cells #[.pointer (some ⟨d, 0, none⟩), .int .i64 J.file, v, .int .i64 ((forms J.l).length : Int), .bool J.bad] 74 (0, 0))
  row : w.ownsRow 0 9 1 v J.l.length (strVs J.l)
  lb : lab b = id + 1
  lr : ∀ k, v.ownBlock = some k → lab k = id
  file : I64 J.file
  size : ((forms J.l).length : Int) ≤ 16777216
/-- A journal in block b whose disk lies in block d. -/
def Ob.jour (b d : Nat) (J : Jn) : Ob where
  In w lab id := ∃ v, JnIn w lab id b d J v
  kept := fun {w w' lab lab' id} ⟨v, h⟩ lo hl hb => ⟨v, by rw [hb b (lt_heap h.blk) (by rw [h.lb]; omega) (by rw [h.lb]; omega)]; exact h.blk,
    ownsRow_block h.row fun k hk => hb k (h.row.lt k hk).2 (by rw [h.lr k hk]; omega) (by rw [h.lr k hk]; omega), (hl b (lt_heap h.blk)).trans h.lb, fun k hk => (hl k (h.row.lt k hk).2).trans (h.lr k hk), h.file, h.size⟩

/-! ### One memory -/
structure OMemL (w0 w : World) (lab : Nat → Nat) (os : List Ob) : Prop where
  lo : LabOk lab w
  und : Under w0 w lab
  at_ : ∀ (i : Nat) (o : Ob), os[i]? = some o → o.In w lab (64 * (i + 1))
def OMem (w0 w : World) (os : List Ob) : Prop := ∃ lab, OMemL w0 w lab os
theorem OMemL.fresh {w0 w w' : World} {lab : Nat → Nat} {os : List Ob} (h : OMemL w0 w lab os) (hb : Below w.heap.size w w') : OMemL w0 w' lab os :=
  ⟨fun x hx => h.lo x (Nat.le_trans hb.size hx), h.und.fresh hb, fun i o hi => o.fresh (h.at_ i o hi) h.lo hb⟩
theorem OMemL.set {w0 w w' : World} {os : List Ob} {i : Nat} {o' : Ob} {lab lab' : Nat → Nat} (h : OMemL w0 w lab os) (g : o'.In w' lab' (64 * (i + 1))) (lo : LabOk lab' w') (k : Chg (64 * (i + 1)) lab lab' w w') : OMemL w0 w' lab' (os.set i o') := by
  refine ⟨lo, h.und.step k (by omega), fun j p hj => ?_⟩
  rw [List.getElem?_set] at hj
  split at hj
  · rename_i he
    subst he
    split at hj
    · cases hj; exact g
    · cases hj
  · exact p.other (h.at_ j p hj) k lo (by omega)
theorem OMemL.push {w0 w w' : World} {os : List Ob} {o' : Ob} {lab lab' : Nat → Nat} (h : OMemL w0 w lab os) (g : o'.In w' lab' (64 * (os.length + 1))) (lo : LabOk lab' w') (k : Chg (64 * (os.length + 1)) lab lab' w w') : OMemL w0 w' lab' (os ++ [o']) := by
  refine ⟨lo, h.und.step k (by omega), fun j p hj => ?_⟩
  rcases Nat.lt_or_ge j os.length with hl | hl
  · rw [List.getElem?_append_left hl] at hj
    exact p.other (h.at_ j p hj) k lo (by omega)
  · rw [List.getElem?_append_right hl] at hj
    have hz : j - os.length = 0 := by
      rcases Nat.eq_zero_or_pos (j - os.length) with h | h
      · exact h
      · rw [List.getElem?_eq_none (by simp; omega)] at hj; cases hj
    rw [hz] at hj
    obtain rfl : j = os.length := by omega
    simp at hj
    subst hj
    exact g
section
variable {w0 w w' : World} {os : List Ob} {i b : Nat} {D : Dk}
theorem OMem.start (w0 : World) : OMem w0 w0 [] := ⟨fun _ => 0, fun _ _ => rfl, Under.start w0, fun i p h => by simp at h⟩
theorem OMem.below (h : OMem w0 w os) : Below w0.heap.size w0 w := by obtain ⟨_, h⟩ := h; exact h.und.below
theorem OMem.fresh (h : OMem w0 w os) (hb : Below w.heap.size w w') : OMem w0 w' os := by obtain ⟨lab, h⟩ := h; exact ⟨lab, h.fresh hb⟩
theorem OMem.hp (h : OMem w0 w os) (hb : Hp w w') : OMem w0 w' os := h.fresh (hp_below hb)
theorem OMem.env (h : OMem w0 w os) (he : Env w0) : Env w := he.fresh h.below
theorem OMem.take (h : OMem w0 w os) (n : Nat) : OMem w0 w (os.take n) := by
  obtain ⟨lab, h⟩ := h
  exact ⟨lab, h.lo, h.und, fun i p hi => h.at_ i p (by rw [List.getElem?_take] at hi; split at hi; exact hi; cases hi)⟩
theorem OMem.good (h : OMem w0 w os) (hi : os[i]? = some (.disk b D)) : Good D := by
  obtain ⟨lab, h⟩ := h; exact (h.at_ i _ hi).good
/-- A slice in a new block. -/
theorem OMem.row (h : OMem w0 w os) (hb : Below w.heap.size w w') {e : TypeId} {v : Value} {xs : List Value} (hf : w'.ownsRow 0 e 1 v xs.length xs) (hn : ∀ k, v.ownBlock = some k → w.heap.size ≤ k) : OMem w0 w' (os ++ [.own e v xs]) := by
  obtain ⟨lab, h⟩ := h
  have lo : LabOk (relab lab w v (64 * (os.length + 1))) w' := fun x hx => by
    unfold relab
    rw [if_neg (by have := hb.size; omega), if_neg (fun q => by have := (hf.lt x q).2; omega)]
  refine ⟨relab lab w v (64 * (os.length + 1)), h.push ⟨hf, fun k hk => ?_⟩ lo ⟨hb.os, hb.tape, hb.output, hb.size, fun x hx => by simp [relab, hx], fun x hx _ => hb.block x hx, fun x hx => ?_⟩⟩
  · unfold relab
    rw [if_neg (by have := hn k hk; omega), if_pos hk]
  · unfold relab
    rw [if_neg (by omega)]
    split
    · exact .inr ⟨by omega, by omega⟩
    · exact .inl rfl
theorem OMem.nil (h : OMem w0 w os) (e : TypeId) : OMem w0 w (os ++ [.own e (.slice none 0 0) []]) := h.row (Below.refl _ _) (World.ownsRow_nil _ _ _ _) fun k hk => by cases hk
theorem OMem.at_row (h : OMem w0 w os) {e : TypeId} {v : Value} {xs : List Value} (hi : os[i]? = some (.own e v xs)) : w.ownsRow 0 e 1 v xs.length xs := by
  obtain ⟨lab, h⟩ := h; exact (h.at_ i _ hi).1
/-- A slice of the statement's own grows. -/
theorem OMem.grow (h : OMem w0 w os) {e : TypeId} {v v' : Value} {xs xs' : List Value} (hi : os[i]? = some (.own e v xs)) (g : w.grownBy w' v.ownBlock) (o : w'.ownsRow 0 e 1 v' xs'.length xs') (hloc : v'.ownBlock = v.ownBlock ∨ v'.ownBlock = some w.heap.size) : OMem w0 w' (os.set i (.own e v' xs')) := by
  obtain ⟨lab, h⟩ := h
  have hv := h.at_ i _ hi
  have hloc : v'.ownBlock = v.ownBlock ∨ ∀ k, v'.ownBlock = some k → w.heap.size ≤ k := hloc.imp_right fun q k hk => by rw [q] at hk; cases hk; exact Nat.le_refl _
  have lo : LabOk (relab lab w v' (64 * (i + 1))) w' := fun x hx => by
    unfold relab
    rw [if_neg (by have := g.size; omega), if_neg (fun q => by have := (o.lt x q).2; omega)]
  refine ⟨relab lab w v' (64 * (i + 1)), h.set ⟨o, relab_own (fun k hk => (hv.1.lt k hk).2) hv.2 hloc⟩ lo ⟨g.os, g.tape, g.output, g.size, fun x hx => by simp [relab, hx], fun x hx hl => g.block x hx (fun q => by have := hv.2 x q.symm; omega), fun x hx => ?_⟩⟩
  unfold relab
  rw [if_neg (by omega)]
  split
  · exact .inr ⟨by omega, by omega⟩
  · exact .inl rfl

/-! ### The disk's calls -/
/-- A call on the disk at place i: its result, and the disk behind it. -/
def OPost (w0 : World) (os : List Ob) (i b : Nat) (r : Value) (D' : Dk) (e : Ending) (w' : World) : Prop := e = .returned r ∧ OMem w0 w' (os.set i (.disk b D'))
theorem o_write (h : OMem w0 w os) (hi : os[i]? = some (.disk b D)) (f a : Int) (s : List UInt8) (hf : I64 f) (ha : I64 a) (hs : s.length ≤ 140737488355327) :
    Calls Tryz.prog 30 #[.pointer (some ⟨b, 0, none⟩), .int .i64 f, .int .i64 a, .string (bs s)] w (OPost w0 os i b (.int .i64 (D.write f a s).1) (D.write f a s).2) := by
  obtain ⟨lab, h⟩ := h
  exact (dg_write (h.at_ i _ hi) f a s hf ha hs).mono fun e w' ⟨he, lab', g, k⟩ => ⟨he, lab', h.set g g.lo k⟩
theorem o_sync (h : OMem w0 w os) (hi : os[i]? = some (.disk b D)) (f : Int) (hf : I64 f) :
    Calls Tryz.prog 33 #[.pointer (some ⟨b, 0, none⟩), .int .i64 f] w (OPost w0 os i b (.int .i64 (D.sync f).1) (D.sync f).2) := by
  obtain ⟨lab, h⟩ := h
  exact (dg_sync (h.at_ i _ hi) f hf).mono fun e w' ⟨he, lab', g, k⟩ => ⟨he, lab', h.set g g.lo k⟩
theorem o_truncate (h : OMem w0 w os) (hi : os[i]? = some (.disk b D)) (f n : Int) (hf : I64 f) (hn : I64 n) :
    Calls Tryz.prog 35 #[.pointer (some ⟨b, 0, none⟩), .int .i64 f, .int .i64 n] w (OPost w0 os i b (.int .i64 (D.truncate f n).1) (D.truncate f n).2) := by
  obtain ⟨lab, h⟩ := h
  exact (dg_truncate (h.at_ i _ hi) f n hf hn).mono fun e w' ⟨he, lab', g, k⟩ => ⟨he, lab', h.set g g.lo k⟩
theorem o_start (h : OMem w0 w os) (hi : os[i]? = some (.disk b D)) : Calls Tryz.prog 22 #[.pointer (some ⟨b, 0, none⟩)] w (OPost w0 os i b (.tuple #[]) D.start) := by
  obtain ⟨lab, h⟩ := h
  exact (dg_start (h.at_ i _ hi)).mono fun e w' ⟨he, lab', g, k⟩ => ⟨he, lab', h.set g g.lo k⟩
theorem o_lose (h : OMem w0 w os) (hi : os[i]? = some (.disk b D)) (n : Int) (hn : I64 n) : Calls Tryz.prog 16 #[.pointer (some ⟨b, 0, none⟩), .int .i64 n] w (OPost w0 os i b (.tuple #[]) (D.lose n)) := by
  obtain ⟨lab, h⟩ := h
  obtain ⟨⟨L, h1⟩, hg⟩ := h.at_ i _ hi
  exact (lose_any h1 n hn).mono fun e w' ⟨he, h2, k⟩ => ⟨he, lab, h.set (o' := .disk b (D.lose n)) ⟨⟨L, h2⟩, hg.of rfl rfl rfl⟩ h2.lo k⟩
theorem o_arm (h : OMem w0 w os) (hi : os[i]? = some (.disk b D)) (n : Int) (hn : I64 n) (v : Value) (ks : List Int) (hs : Nums w0 w v ks) (hl : ks.length ≤ 1000000) :
    Calls Tryz.prog 18 #[.pointer (some ⟨b, 0, none⟩), .int .i64 n, v] w (OPost w0 os i b (.tuple #[]) (D.arm n ks)) := by
  obtain ⟨lab, h⟩ := h
  exact (dg_arm (h.at_ i _ hi) n hn v ks hs.1 hs.2.1 hl).mono fun e w' ⟨he, lab', g, k⟩ => ⟨he, lab', h.set g g.lo k⟩
theorem o_crash (h : OMem w0 w os) (hi : os[i]? = some (.disk b D)) (v : Value) (ks : List Int) (hs : Nums w0 w v ks) (hl : ks.length ≤ 140737488355327) :
    Calls Tryz.prog 20 #[.pointer (some ⟨b, 0, none⟩), v] w (OPost w0 os i b (.tuple #[]) (D.crash ks)) := by
  obtain ⟨lab, h⟩ := h
  exact (dg_crash (h.at_ i _ hi) v ks hs.1 (fun ad n c hv hn => .inl (by rw [h.und.labs _ (hs.2.2 ad n c hv hn)]; omega)) hl).mono fun e w' ⟨he, lab', g, k⟩ => ⟨he, lab', h.set g g.lo k⟩
theorem o_size (h : OMem w0 w os) (hi : os[i]? = some (.disk b D)) (f : Int) (hf : I64 f) : Calls Tryz.prog 27 #[.pointer (some ⟨b, 0, none⟩), .int .i64 f] w fun e w' => e = .returned (.int .i64 (D.size f : Int)) ∧ w = w' := by
  obtain ⟨lab, h⟩ := h
  exact dg_size (h.at_ i _ hi) f hf
theorem o_read (h : OMem w0 w os) (hi : os[i]? = some (.disk b D)) (f a n : Int) (hf : I64 f) (ha : I64 a) (hn : I64 n) :
    Calls Tryz.prog 26 #[.pointer (some ⟨b, 0, none⟩), .int .i64 f, .int .i64 a, .int .i64 n] w fun e w' => e = .returned (.tuple #[.string (bs (D.read f a n).1), .int .i64 (D.read f a n).2]) ∧ OMem w0 w' os := by
  have hm := h
  obtain ⟨lab, h⟩ := h
  exact (dg_read (h.at_ i _ hi) f a n hf ha hn).mono fun e w' ⟨he, hp⟩ => ⟨he, hm.hp hp⟩
theorem o_new (h : OMem w0 w os) : Calls Tryz.prog 6 #[] w fun e w' => ∃ b, e = .returned (.pointer (some ⟨b, 0, none⟩)) ∧ OMem w0 w' (os ++ [.disk b new]) := by
  obtain ⟨lab, h⟩ := h
  exact (dg_new w lab (64 * (os.length + 1)) (by omega)).mono fun e w' ⟨b', he, lab', g, k⟩ => ⟨b', he, lab', h.push (o' := .disk b' new) g g.lo k⟩
end
end Go.Proofs.YtjbcgahdiolhhaaGreatDoor.D2
namespace Go.Proofs.YtjbcgahdiolhhaaGreatDoor.D2
open Go.RowKit Go.Maps Go.ChangeMaps Go.MapKept
open Dp Jp
attribute [local go_sem ↓] Go.wp_at_zero Go.wp_at_succ

section
variable {w0 w w1 w' : World} {lab : Nat → Nat} {os : List Ob} {i k id b d : Nat} {D : Dk} {J : Jn} {v : Value}
theorem JnIn.c (h : JnIn w lab id b d J v) (i : Nat) : w.cell? ⟨b, i, none⟩ = (#[.pointer (some ⟨d, 0, none⟩), .int .i64 J.file, v, .int .i64 ((forms J.l).length : Int), .bool J.bad] : Array Value)[i]? := by
  rw [Lib.cell_of_heap h.blk]
theorem JnIn.fz (h : JnIn w lab id b d J v) (i : Nat) : w.frozen? ⟨b, i, none⟩ = false := Lib.frozen_of_heap h.blk i
/-- What a walk reads of a journal. -/
structure JnC (w : World) (b d : Nat) (J : Jn) (v : Value) : Prop where
  c0 : w.cell? ⟨b, 0, none⟩ = some (.pointer (some ⟨d, 0, none⟩))
  c1 : w.cell? ⟨b, 1, none⟩ = some (.int .i64 J.file)
  c2 : w.cell? ⟨b, 2, none⟩ = some v
  c3 : w.cell? ⟨b, 3, none⟩ = some (.int .i64 ((forms J.l).length : Int))
  c4 : w.cell? ⟨b, 4, none⟩ = some (.bool J.bad)
  f : ∀ i, w.frozen? ⟨b, i, none⟩ = false
  row : w.ownsRow 0 9 1 v J.l.length (strVs J.l)
  file : I64 J.file
  size : ((forms J.l).length : Int) ≤ 16777216
  blk : w.heap[b]? = some (.cells #[.pointer (some ⟨d, 0, none⟩), .int .i64 J.file, v, .int .i64 ((forms J.l).length : Int), .bool J.bad] 74 (0, 0))
  apart : some b ≠ v.ownBlock
theorem JnIn.cells (h : JnIn w lab id b d J v) : JnC w b d J v := ⟨h.c 0, h.c 1, h.c 2, h.c 3, h.c 4, h.fz, h.row, h.file, h.size, h.blk, fun e => by have h1 := h.lr b e.symm; have h2 := h.lb; omega⟩
theorem JnC.of {w' : World} (h : JnC w b d J v) (blk : w'.heap[b]? = w.heap[b]?) (row : w'.ownsRow 0 9 1 v J.l.length (strVs J.l)) : JnC w' b d J v := by
  have hb := blk.trans h.blk
  exact ⟨by rw [Lib.cell_of_heap hb]; rfl, by rw [Lib.cell_of_heap hb]; rfl, by rw [Lib.cell_of_heap hb]; rfl, by rw [Lib.cell_of_heap hb]; rfl, by rw [Lib.cell_of_heap hb]; rfl, fun i => Lib.frozen_of_heap hb i, row, h.file, h.size, hb, h.apart⟩
theorem JnC.fresh {w' : World} (h : JnC w b d J v) (hb : Below w.heap.size w w') : JnC w' b d J v :=
  h.of (hb.block b (lt_heap h.blk)) (ownsRow_block h.row fun k hk => hb.block k (h.row.lt k hk).2)
theorem OMem.jour (h : OMem w0 w os) (hk : os[k]? = some (.jour b d J)) : ∃ v, JnC w b d J v := by
  obtain ⟨lab, h⟩ := h
  obtain ⟨v, hv⟩ := h.at_ k _ hk
  exact ⟨v, hv.cells⟩
theorem OMem.jbad (h : OMem w0 w os) (hk : os[k]? = some (.jour b d J)) (x : Bool) (hp : Hp (w.setCell ⟨b, 4, none⟩ (.bool x)) w') : OMem w0 w' (os.set k (.jour b d { J with bad := x })) := by
  obtain ⟨lab, h⟩ := h
  obtain ⟨v, hv⟩ := h.at_ k _ hk
  have hne : ∀ j, v.ownBlock = some j → j ≠ b := fun j hj e => by have h1 := hv.lr j hj; have h2 := hv.lb; rw [e] at h1; omega
  have lo : LabOk lab w' := fun y hy => h.lo y (by rw [hp.heap, set_size] at hy; exact hy)
  refine ⟨lab, h.set ⟨v, ?_, ?_, hv.lb, hv.lr, hv.file, hv.size⟩ lo (kept_set (id := 64 * (k + 1)) h.lo hv.lb hp |>.chg (by omega) (by omega))⟩
  · rw [hp.heap, set_heap hv.blk]; rfl
  · exact own_set (w1 := w) (w' := w') hv.row (fun e => hne _ e rfl) hp
theorem OMem.jgrow (h : OMem w0 w os) (hk : os[k]? = some (.jour b d J)) (hc : JnC w b d J v) {v' : Value} {l : List (List UInt8)} (g : w.grownBy w1 v.ownBlock) (o : w1.ownsRow 0 9 1 v' l.length (strVs l))
    (hloc : v'.ownBlock = v.ownBlock ∨ v'.ownBlock = some w.heap.size) (hsz : ((forms l).length : Int) ≤ 16777216) (hp : Hp ((w1.setCell ⟨b, 2, none⟩ v').setCell ⟨b, 3, none⟩ (.int .i64 ((forms l).length : Int))) w') :
    OMem w0 w' (os.set k (.jour b d { J with l := l })) := by
  obtain ⟨lab, h⟩ := h
  obtain ⟨u, hv⟩ := h.at_ k _ hk
  obtain rfl : v = u := by have h1 := hc.c2; rw [hv.c 2] at h1; simpa using h1.symm
  have hbl := lt_heap hv.blk
  have hne : ∀ j, v.ownBlock = some j → j ≠ b := fun j hj e => by have h1 := hv.lr j hj; have h2 := hv.lb; rw [e] at h1; omega
  have hloc2 : v'.ownBlock = v.ownBlock ∨ ∀ k, v'.ownBlock = some k → w.heap.size ≤ k := hloc.imp_right fun q k hk => by rw [q] at hk; cases hk; exact Nat.le_refl _
  have hne' : ∀ j, v'.ownBlock = some j → j ≠ b := fun j hj e => by
    rcases hloc2 with q | q
    · exact hne j (q.symm.trans hj) e
    · have := q j hj; omega
  have hs1 := g.size
  have hs2 : w'.heap.size = w1.heap.size := by rw [hp.heap, set_size, set_size]
  have hb1 : w1.heap[b]? = _ := (g.block b hbl (fun e => hne b e.symm rfl)).trans hv.blk
  have hrel := relab_own (lab := lab) (w := w) (c2 := 64 * (k + 1)) (fun j hj => (hv.row.lt j hj).2) hv.lr hloc2
  have lo : LabOk (relab lab w v' (64 * (k + 1))) w' := fun y hy => by
    unfold relab
    rw [if_neg (by omega), if_neg (fun q => by have := (o.lt y q).2; omega)]
  refine ⟨relab lab w v' (64 * (k + 1)), h.set ⟨v', ?_, ?_, ?_, hrel, hv.file, hsz⟩ lo ⟨?_, ?_, ?_, by omega, fun x hx => by simp [relab, hx], fun x hx hl => ?_, fun x hx => ?_⟩⟩
  · rw [hp.heap, set_heap (set_heap hb1 _)]; rfl
  · exact hp.own (ownsRow_block o fun j hj => by rw [set_other (hne' j hj), set_other (hne' j hj)])
  · unfold relab; rw [if_pos hbl]; exact hv.lb
  · exact hp.os.trans g.os
  · exact hp.tape.trans g.tape
  · exact hp.output.trans g.output
  · have hxb : x ≠ b := fun e => by have := hv.lb; rw [e] at hl; omega
    rw [hp.heap, set_other hxb, set_other hxb]
    exact g.block x hx (fun q => by have := hv.lr x q.symm; omega)
  · unfold relab
    rw [if_neg (by omega)]
    split
    · exact .inr ⟨by omega, by omega⟩
    · exact .inl rfl
/-- A slice becomes the list of a journal in a new block. -/
theorem OMem.toJour (h : OMem w0 w os) {l : List (List UInt8)} (hi : os[i]? = some (.own 9 v (strVs l))) (hb : Below w.heap.size w w') (hn : w.heap.size ≤ b) (f : Int) (bad : Bool)
    (blk : w'.heap[b]? = some (.cells #[.pointer (some ⟨d, 0, none⟩), .int .i64 f, v, .int .i64 ((forms l).length : Int), .bool bad] 74 (0, 0))) (hf : I64 f) (hsz : ((forms l).length : Int) ≤ 16777216) :
    OMem w0 w' (os.set i (.jour b d ⟨f, l, bad⟩)) := by
  obtain ⟨lab, h⟩ := h
  have hv := h.at_ i _ hi
  have hbl := lt_heap blk
  refine ⟨fun x => if x = b then 64 * (i + 1) + 1 else lab x, h.set ⟨v, blk, ?_, if_pos rfl, fun j hj => ?_, hf, hsz⟩ (fun x hx => ?_) ⟨hb.os, hb.tape, hb.output, hb.size, fun x hx => if_neg (by omega), fun x hx _ => hb.block x hx, fun x hx => ?_⟩⟩
  · have := hv.1
    rw [strVs_length] at this
    exact ownsRow_block this fun j hj => hb.block j (this.lt j hj).2
  · have := (hv.1.lt j hj).2
    show (if j = b then _ else _) = _
    rw [if_neg (by omega)]
    exact hv.2 j hj
  · have := hb.size
    show (if x = b then _ else _) = _
    rw [if_neg (by omega)]
    exact h.lo x (by omega)
  · by_cases hx2 : x = b
    · right; simp only [if_pos hx2]; omega
    · left; simp only [if_neg hx2]; exact h.lo x hx
theorem set_get {α : Type} {l : List α} {i j : Nat} {a x : α} (h : l[i]? = some x) (hne : j ≠ i) : (l.set j a)[i]? = some x := by rw [List.getElem?_set_ne hne]; exact h
theorem set_here {α : Type} {l : List α} {i : Nat} {a x : α} (h : l[i]? = some x) : (l.set i a)[i]? = some a := by
  obtain ⟨hlt, _⟩ := List.getElem?_eq_some_iff.1 h
  exact List.getElem?_set_self hlt

set_option maxRecDepth 100000 in
theorem note_any (h : OMem w0 w os) (hk : os[k]? = some (.jour b d J)) (e : Int) (he : I64 e) :
    Calls Tryz.prog 41 #[.pointer (some ⟨b, 0, none⟩), .int .i64 e] w fun x w' => x = .returned (.int .i64 e) ∧ OMem w0 w' (os.set k (.jour b d { J with bad := decide (e ≠ 0) })) := by
  obtain ⟨v, hc⟩ := h.jour hk
  have f4 := hc.f 4
  have c4 := hc.c4
  have H := Lib.hid h
  clear h hc
  by_cases h0 : e = 0
  · subst h0
    go_enter Tryz.func41, Tryz.ntmps41
    go_wp2
    go_ret
    exact ⟨rfl, H.out.jbad hk false (Hp.refl _)⟩
  · go_enter Tryz.func41, Tryz.ntmps41
    go_wp2
    go_ret
    refine ⟨rfl, ?_⟩
    rw [decide_eq_true h0, show (e != 0) = true by simp [h0]]
    exact H.out.jbad hk true (Hp.refl _)
end
end Go.Proofs.YtjbcgahdiolhhaaGreatDoor.D2
namespace Go.Proofs.YtjbcgahdiolhhaaGreatDoor.D2
open Go.RowKit Go.Maps Go.ChangeMaps Go.MapKept
open Dp Jp
attribute [local go_sem ↓] Go.wp_at_zero Go.wp_at_succ

section
variable {w0 w : World} {os : List Ob} {i k b d : Nat} {D : Dk} {J : Jn}
/-- What a method of the journal at place k leaves, whose disk is at place i. -/
def JPost (w0 : World) (os : List Ob) (i k b d : Nat) (r : Int × Dk × Jn) (e : Ending) (w' : World) : Prop := e = .returned (.int .i64 r.1) ∧ OMem w0 w' ((os.set i (.disk d r.2.1)).set k (.jour b d r.2.2))
theorem set_noop {α : Type} {l : List α} {i : Nat} {a : α} (h : l[i]? = some a) : l.set i a = l := by
  apply List.ext_getElem?
  intro j
  rw [List.getElem?_set]
  split
  · rename_i e; subst e
    obtain ⟨hlt, _⟩ := List.getElem?_eq_some_iff.1 h
    rw [if_pos hlt, h]
  · rfl

theorem OMem.two (h : OMem w0 w os) (hk : os[k]? = some (.jour b d J)) : w.cell? ⟨b, 0, none⟩ = some (.pointer (some ⟨d, 0, none⟩)) ∧ w.cell? ⟨b, 1, none⟩ = some (.int .i64 J.file) := by
  obtain ⟨v, hc⟩ := h.jour hk
  exact ⟨hc.c0, hc.c1⟩
theorem i64_small {n : Int} (h : 0 ≤ n ∧ n ≤ 9) : I64 n := ⟨by omega, by omega⟩
theorem i64_err_sync (D : Dk) (f : Int) : I64 (D.sync f).1 := by
  apply i64_small
  unfold Dk.sync eDown eArg eLost eOK
  split
  · exact ⟨by simp, by simp⟩
  · simp only
    split
    · exact ⟨by simp, by simp⟩
    · split
      · exact ⟨by simp, by simp⟩
      · split <;> exact ⟨by simp, by simp⟩
theorem i64_err_write (D : Dk) (f a : Int) (s : List UInt8) : I64 (D.write f a s).1 := by
  apply i64_small
  unfold Dk.write eDown
  split
  · exact ⟨by simp, by simp⟩
  · simp only
    split
    · exact ⟨by simp, by simp⟩
    · unfold Dk.wr eArg eFull eOK
      split
      · exact ⟨by simp, by simp⟩
      · split
        · exact ⟨by simp, by simp⟩
        · split <;> exact ⟨by simp, by simp⟩

set_option maxHeartbeats 1000000 in
set_option maxRecDepth 100000 in
theorem o_jsync (h : OMem w0 w os) (hi : os[i]? = some (.disk d D)) (hk : os[k]? = some (.jour b d J)) (hne : i ≠ k) :
    Calls Tryz.prog 14 #[.pointer (some ⟨b, 0, none⟩)] w (JPost w0 os i k b d (jsync D J)) := by
  obtain ⟨v, hc⟩ := h.jour hk
  have c0 := hc.c0
  have c1 := hc.c1
  have c4 := hc.c4
  have hf := hc.file
  cases hb : J.bad with
  | true =>
    rw [hb] at c4
    have HR := Lib.hid (show jsync D J = (7, D, J) by unfold jsync; rw [hb]; rfl)
    have H := Lib.hid h
    clear h hc hb
    go_enter Tryz.func14, Tryz.ntmps14
    go_wp2
    go_ret
    unfold JPost
    rw [HR.out]
    refine ⟨rfl, ?_⟩
    simp only
    rw [set_noop hi, set_noop hk]
    exact H.out
  | false =>
    rw [hb] at c4
    have HR := Lib.hid (show jsync D J = ((D.sync J.file).1, (D.sync J.file).2, { J with bad := decide ((D.sync J.file).1 ≠ 0) }) by unfold jsync; rw [hb]; rfl)
    have hr := i64_err_sync D J.file
    have hX := o_sync (h.fresh (below_drew w)) hi J.file hf
    clear h hc hb
    generalize D.sync J.file = r at HR hr hX
    have HX := Lib.hid hX
    have HK := Lib.hid (set_get (a := Ob.disk d r.2) hk hne)
    have S0 : w.drew.cell? ⟨b, 0, none⟩ = some (.pointer (some ⟨d, 0, none⟩)) ∧ w.drew.cell? ⟨b, 1, none⟩ = some (.int .i64 J.file) := ⟨c0, c1⟩
    clear hX
    go_enter Tryz.func14, Tryz.ntmps14
    go_wp2
    go_region_held3 (fun w' => w'.cell? ⟨b, 0, none⟩ = some (.pointer (some ⟨d, 0, none⟩)) ∧ w'.cell? ⟨b, 1, none⟩ = some (.int .i64 J.file)) (first | exact S0 | assumption) (first | (go_at_call 33; refine HX.out.mono ?_; rintro e w2 ⟨rfl, m2⟩; have M2 := Lib.hid m2; have S2 := m2.two HK.out; clear m2) | (go_at_call 41; refine (note_any M2.out HK.out r.1 hr).mono ?_; rintro e w3 ⟨rfl, m3⟩; have M3 := Lib.hid m3; have S3 := m3.two (set_here HK.out); clear m3))
    go_wp2
    go_ret
    unfold JPost
    rw [HR.out]
    exact ⟨rfl, M3.out⟩
end
end Go.Proofs.YtjbcgahdiolhhaaGreatDoor.D2
namespace Go.Proofs.YtjbcgahdiolhhaaGreatDoor.D2
open Go.RowKit Go.Maps Go.ChangeMaps Go.MapKept
open Dp Jp
attribute [local go_sem ↓] Go.wp_at_zero Go.wp_at_succ

section
variable {w0 w : World} {os : List Ob} {i k b d : Nat} {D : Dk} {J : Jn}
theorem form_len (s : List UInt8) (hs : s.length ≤ 1099511627776) : (form s).length ≤ s.length + 60 := by
  have h0 := jsum_lt s
  have h1 := Lib.itoa_length_le (jsum s : Int) (by omega) (by omega)
  have h2 := Lib.itoa_length_le (s.length : Int) (by omega) (by omega)
  have : ¬ ((jsum s : Int) < 0) := by omega
  simp [form, Sp.eText, Sp.eNum, Sp.eInt, this]
  omega
theorem OMem.three (h : OMem w0 w os) (hk : os[k]? = some (.jour b d J)) : w.cell? ⟨b, 0, none⟩ = some (.pointer (some ⟨d, 0, none⟩)) ∧ w.cell? ⟨b, 1, none⟩ = some (.int .i64 J.file) ∧ w.cell? ⟨b, 3, none⟩ = some (.int .i64 ((forms J.l).length : Int)) := by
  obtain ⟨v, hc⟩ := h.jour hk
  exact ⟨hc.c0, hc.c1, hc.c3⟩

set_option maxHeartbeats 1000000 in
set_option maxRecDepth 100000 in
theorem append_refused (h : OMem w0 w os) (hi : os[i]? = some (.disk d D)) (hk : os[k]? = some (.jour b d J)) (s : List UInt8) (he : Env w) (hx : J.bad = true ∨ 20000 < s.length ∨ 1048576 < (forms J.l).length + (form s).length) :
    Calls Tryz.prog 12 #[.pointer (some ⟨b, 0, none⟩), .string (bs s)] w (JPost w0 os i k b d (jappend D J s)) := by
  obtain ⟨v, hc⟩ := h.jour hk
  have c3 := hc.c3
  have c4 := hc.c4
  have hz := hc.size
  have hsz := bs_size s
  have H := Lib.hid h
  clear hc h
  cases hb : J.bad with
  | true =>
    rw [hb] at c4
    have HR := Lib.hid (show jappend D J s = (7, D, J) by unfold jappend; rw [hb]; rfl)
    clear hb hx hsz
    go_enter Tryz.func12, Tryz.ntmps12
    go_wp2
    go_ret
    unfold JPost
    rw [HR.out]
    exact ⟨rfl, by simp only; rw [set_noop hi, set_noop hk]; exact H.out⟩
  | false =>
    rw [hb] at c4
    by_cases hl : 20000 < s.length
    · have HR := Lib.hid (show jappend D J s = (3, D, J) by unfold jappend; rw [hb, if_neg (by simp), if_pos hl])
      have hl2 : 20000 < (bs s).size := by omega
      clear hb hx hsz hl
      go_enter Tryz.func12, Tryz.ntmps12
      go_wp2
      go_ret
      unfold JPost
      rw [HR.out]
      exact ⟨rfl, by simp only; rw [set_noop hi, set_noop hk]; exact H.out⟩
    · have hf : 1048576 < (forms J.l).length + (form s).length := by
        rcases hx with h | h | h
        · rw [hb] at h; cases h
        · exact absurd h hl
        · exact h
      have HR := Lib.hid (show jappend D J s = (6, D, J) by unfold jappend; rw [hb, if_neg (by simp), if_neg hl, if_pos hf])
      have hl2 : (bs s).size ≤ 20000 := by omega
      have hfl := form_len s (by omega)
      have hq := bs_size (form s)
      have hf2 : 1048576 < ((forms J.l).length : Int) + ((bs (form s)).size : Int) := by omega
      have hf3 : (bs (form s)).size ≤ 20060 := by omega
      have HF := Lib.hid (formOf_any s (by omega))
      have HC3 := Lib.hid c3
      clear hb hx hsz hl hf hq hfl
      go_enter Tryz.func12, Tryz.ntmps12
      go_wp2_with (go_at_call 40; refine (HF.out _ he).mono ?_; rintro e w1 ⟨rfl, b1⟩; refine Hid.out ?_)
      refine Lib.hid ?_
      have m1 := H.out.fresh b1
      have M1 := Lib.hid m1
      obtain ⟨v1, hc1⟩ := m1.jour hk
      have d3 := hc1.c3
      clear m1 hc1 b1 c3 c4
      go_wp2
      go_ret
      unfold JPost
      rw [HR.out]
      exact ⟨rfl, by simp only; rw [set_noop hi, set_noop hk]; exact M1.out⟩

set_option maxHeartbeats 4000000 in
set_option maxRecDepth 100000 in
theorem append_tried (h : OMem w0 w os) (hi : os[i]? = some (.disk d D)) (hk : os[k]? = some (.jour b d J)) (hne : i ≠ k) (s : List UInt8) (he : Env w) (hb : J.bad = false) (hs : s.length ≤ 20000) (hf : (forms J.l).length + (form s).length ≤ 1048576) :
    Calls Tryz.prog 12 #[.pointer (some ⟨b, 0, none⟩), .string (bs s)] w (JPost w0 os i k b d (jappend D J s)) := by
  obtain ⟨i0, hi0, hz0, hz1, hz2⟩ := info_parts string_info
  obtain ⟨v, hc⟩ := h.jour hk
  have c3 := hc.c3
  have c4 := hc.c4
  have hz := hc.size
  have hjf := hc.file
  have hsz := bs_size s
  have hn : J.l.length ≤ 1048576 := by
    have : ∀ l : List (List UInt8), l.length ≤ (forms l).length := by
      intro l
      induction l with
      | nil => simp
      | cons a l ih => rw [forms_cons]; have := form_pos a; simp; omega
    have := this J.l
    omega
  have H := Lib.hid h
  clear hc h
  rw [hb] at c4
  have hr := i64_err_write D J.file ((forms J.l).length : Int) (form s)
  have HR := Lib.hid (show jappend D J s = if (D.write J.file ((forms J.l).length : Int) (form s)).1 ≠ 0 then ((D.write J.file ((forms J.l).length : Int) (form s)).1, (D.write J.file ((forms J.l).length : Int) (form s)).2, { J with bad := true }) else (0, (D.write J.file ((forms J.l).length : Int) (form s)).2, { J with l := J.l ++ [s] }) by
    unfold jappend; rw [hb, if_neg (by simp), if_neg (by omega), if_neg (by omega)])
  have hl2 : (bs s).size ≤ 20000 := by omega
  have hfl := form_len s (by omega)
  have hq := bs_size (form s)
  have hf2 : ¬ 1048576 < ((forms J.l).length : Int) + ((bs (form s)).size : Int) := by omega
  have hf3 : (bs (form s)).size ≤ 20060 := by omega
  have HQ := Lib.hid (show ((bs (form s)).size : Int) = ((form s).length : Int) by rw [hq])
  have HB := Lib.hid hb
  have HF := Lib.hid (formOf_any s (by omega))
  have HX := Lib.hid (fun w1 (m : OMem w0 w1 os) => o_write m hi J.file ((forms J.l).length : Int) (form s) hjf ⟨by omega, by omega⟩ (by omega))
  generalize D.write J.file ((forms J.l).length : Int) (form s) = r at HR hr HX
  have HK := Lib.hid (set_get (a := Ob.disk d r.2) hk hne)
  have HFT := Lib.hid hf
  clear hb hsz hq hfl hf
  go_enter Tryz.func12, Tryz.ntmps12
  go_wp2_with (go_at_call 40; refine (HF.out _ he).mono ?_; rintro e w1 ⟨rfl, b1⟩; refine Hid.out ?_)
  refine Lib.hid ?_
  have m1 := H.out.fresh b1
  have S1 := m1.three hk
  have d3 := S1.2.2
  have S0 : w1.drew.cell? ⟨b, 0, none⟩ = some (.pointer (some ⟨d, 0, none⟩)) ∧ w1.drew.cell? ⟨b, 1, none⟩ = some (.int .i64 J.file) ∧ w1.drew.cell? ⟨b, 3, none⟩ = some (.int .i64 ((forms J.l).length : Int)) := S1
  have HY := Lib.hid (HX.out _ (m1.fresh (below_drew w1)))
  clear m1 b1 c3 c4 S1
  go_wp2
  go_region_held3 (fun w' => w'.cell? ⟨b, 0, none⟩ = some (.pointer (some ⟨d, 0, none⟩)) ∧ w'.cell? ⟨b, 1, none⟩ = some (.int .i64 J.file) ∧ w'.cell? ⟨b, 3, none⟩ = some (.int .i64 ((forms J.l).length : Int))) (first | exact S0 | assumption) (first | (go_at_call 30; refine HY.out.mono ?_; rintro e w2 ⟨rfl, m2⟩; have M2 := Lib.hid m2; have S2 := m2.three HK.out; clear m2) | (go_at_call 41; refine (note_any M2.out HK.out r.1 hr).mono ?_; rintro e w3 ⟨rfl, m3⟩; have M3 := Lib.hid m3; have S3 := m3.three (set_here HK.out); clear m3))
  by_cases h0 : r.1 = 0
  · have m3 := M3.out
    have hbad : decide (r.1 ≠ 0) = false := by simp [h0]
    rw [hbad] at m3
    have HK3 := Lib.hid (set_here (a := Ob.jour b d { J with bad := false }) HK.out)
    obtain ⟨v3, hc3⟩ := m3.jour HK3.out
    have c2 := hc3.c2
    have hown := hc3.row
    have hsl := hc3.size
    have HC3 := Lib.hid hc3
    have M3b := Lib.hid m3
    clear m3 hc3 S3 hbad
    go_wp2_with (at_builtin; refine Hid.out ?_)
    refine Lib.hid ?_
    refine wpList_append_own_at _ rfl _ _ 46 rfl 0 9 i0 (.string ⟨#[]⟩) 1 16 Tryz.underlying46 hi0 hz0 hz1 hz2 rfl (by decide) _ _ _ rfl (hown.alloc _) ⟨w3.heap.size, 0, none⟩ 1 1 [.string (bs s)] rfl rfl (cell_one_new _ _ _) ?p2 ?p3 ?p4 (Nat.zero_le _) ?_
    case p2 => intro y hy; simp at hy; subst hy; rfl
    case p3 => unfold maxLen; omega
    case p4 => omega
    intro v' w4 hown4 hgrow _ hat
    obtain ⟨va, vc, rfl⟩ := own_form hown4
    have hc4 := HC3.out.fresh (below_alloc w3 (.cells #[.string (bs s)] 9))
    have hblk4 := (hgrow.block b (lt_heap hc4.blk) hc4.apart).trans hc4.blk
    have d2 : w4.cell? ⟨b, 2, none⟩ = some v3 := by rw [Lib.cell_of_heap hblk4]; rfl
    have d3 : w4.cell? ⟨b, 3, none⟩ = some (.int .i64 ((forms J.l).length : Int)) := by rw [Lib.cell_of_heap hblk4]; rfl
    have f2 : w4.frozen? ⟨b, 2, none⟩ = false := Lib.frozen_of_heap hblk4 2
    have f3 : w4.frozen? ⟨b, 3, none⟩ = false := Lib.frozen_of_heap hblk4 3
    have HC4 := Lib.hid hc4
    have HO4 := Lib.hid hown4
    have HG4 := Lib.hid hgrow
    have HAT := Lib.hid hat
    clear hown4 hgrow hat hc4 hblk4 hown
    go_wp2
    go_ret
    unfold JPost
    rw [HR.out, if_neg (by simpa using h0)]
    refine ⟨rfl, ?_⟩
    have hlen : ((forms (J.l ++ [s])).length : Int) = ((forms J.l).length : Int) + ((bs (form s)).size : Int) := by rw [forms_snoc, List.length_append, HQ.out]; simp
    have hft := HFT.out
    have hq := HQ.out
    have g4 := (M3b.out.fresh (below_alloc w3 (.cells #[.string (bs s)] 9))).jgrow HK3.out HC4.out (l := J.l ++ [s]) HG4.out (by simpa [strVs] using HO4.out) HAT.out (by omega) (by rw [hlen]; exact Hp.refl _)
    rw [List.set_set] at g4
    simp only
    rw [HB.out]
    exact g4
  · go_wp2
    go_ret
    unfold JPost
    rw [HR.out, if_pos h0]
    refine ⟨rfl, ?_⟩
    have := M3.out
    rw [decide_eq_true h0] at this
    exact this
theorem o_append (h : OMem w0 w os) (hi : os[i]? = some (.disk d D)) (hk : os[k]? = some (.jour b d J)) (hne : i ≠ k) (s : List UInt8) (he : Env w) :
    Calls Tryz.prog 12 #[.pointer (some ⟨b, 0, none⟩), .string (bs s)] w (JPost w0 os i k b d (jappend D J s)) := by
  by_cases hx : J.bad = true ∨ 20000 < s.length ∨ 1048576 < (forms J.l).length + (form s).length
  · exact append_refused h hi hk s he hx
  · have h1 : J.bad = false := by cases hb : J.bad <;> simp_all
    exact append_tried h hi hk hne s he h1 (by omega) (by omega)

/-! ### Len, Get, All -/
set_option maxRecDepth 100000 in
theorem o_len (h : OMem w0 w os) (hk : os[k]? = some (.jour b d J)) :
    Calls Tryz.prog 31 #[.pointer (some ⟨b, 0, none⟩)] w fun e w' => e = .returned (.int .i64 (J.l.length : Int)) ∧ w = w' := by
  obtain ⟨v, hc⟩ := h.jour hk
  have c2 := hc.c2
  obtain ⟨va, vc, rfl⟩ := own_form hc.row
  clear h hc
  go_enter Tryz.func31, Tryz.ntmps31
  go_wp2
  go_ret
  exact ⟨rfl, rfl⟩
set_option maxRecDepth 100000 in
theorem o_get (h : OMem w0 w os) (hk : os[k]? = some (.jour b d J)) (n : Int) (hn : I64 n) :
    Calls Tryz.prog 32 #[.pointer (some ⟨b, 0, none⟩), .int .i64 n] w fun e w' => e = .returned (.string (bs (if 0 ≤ n then J.l.getD n.toNat [] else []))) ∧ w = w' := by
  obtain ⟨v, hc⟩ := h.jour hk
  have c2 := hc.c2
  have hrow := hc.row
  obtain ⟨va, vc, rfl⟩ := own_form hc.row
  have n2 := hn.2
  clear h hc
  by_cases h0 : n < 0
  · rw [if_neg (by omega)]
    clear hn n2 hrow
    go_enter Tryz.func32, Tryz.ntmps32
    go_wp2
    go_ret
    exact ⟨rfl, rfl⟩
  · rw [if_pos (by omega)]
    obtain ⟨m, rfl⟩ : ∃ m : Nat, n = (m : Int) := ⟨n.toNat, by omega⟩
    rw [Int.toNat_natCast]
    by_cases hm : m < J.l.length
    · obtain ⟨g, cap, e1, e2⟩ : ∃ g cap, Value.slice va J.l.length vc = .slice (some ⟨g, 0, none⟩) J.l.length cap ∧ ∀ j u, (strVs J.l)[j]? = some u → w.cell? ((⟨g, 0, none⟩ : Addr).add j) = some u := by
        rcases hrow.2 with ⟨h2, h3⟩ | ⟨g, cap, cur, h2, _⟩
        · omega
        · exact ⟨g, cap, h2, fun j u hj => hrow.cells (g := g) (by rw [h2]; rfl) j u hj⟩
      have hcell := e2 m (.string (bs (J.l.getD m []))) (by simp [strVs, List.getElem?_eq_getElem hm, List.getD_eq_getElem?_getD])
      rw [Lib.add_plain] at hcell
      simp only [Nat.zero_add] at hcell
      simp only [Value.slice.injEq] at e1
      obtain ⟨rfl, _, rfl⟩ := e1
      clear hrow e2 hn h0
      go_enter Tryz.func32, Tryz.ntmps32
      go_wp2
      go_ret
      exact ⟨by rw [List.getD_eq_getElem?_getD, List.getElem?_eq_getElem hm]; rfl, rfl⟩
    · rw [show J.l.getD m [] = [] from by rw [List.getD_eq_getElem?_getD, List.getElem?_eq_none (by omega)]; rfl]
      clear hrow hn h0
      go_enter Tryz.func32, Tryz.ntmps32
      go_wp2
      go_ret
      exact ⟨rfl, rfl⟩
set_option maxHeartbeats 1000000 in
set_option maxRecDepth 100000 in
theorem cloneT (v : Value) (n : Nat) (xs : List Value) (w : World) (h : SrcIs w 1 v n xs) (hn : n * 16 ≤ 140737488355328) :
    Calls Tryz.prog 47 #[v] w (ClonePost w 9 1 n xs) := by
  obtain ⟨i0, hi, hz0, hz1, hz2⟩ := info_parts string_info
  have q22 : ∀ (w : World) (a : Option Addr) (n c n' c' : Nat), (binOp .eql 46 (.slice a n c) (.slice none n' c')).run Tryz.prog w = .ok (.bool a.isNone) w := fun w a n c n' c' => Lib.run_eql_slice_nil w _ _ a n c n' c' Tryz.underlying46
  obtain ⟨hl, h⟩ := h
  rcases h with ⟨rfl, rfl⟩ | ⟨ad, cap, rfl, hc, h1⟩
  · obtain rfl : xs = [] := List.eq_nil_of_length_eq_zero (by omega)
    go_enter Tryz.func47, Tryz.ntmps47
    go_wp2
    go_ret
    exact ⟨_, rfl, ⟨World.ownsRow_nil _ _ _ _, fun k hk => by cases hk⟩, Below.refl _ _⟩
  · have HC := Lib.hid hc
    have H1 := Lib.hid h1
    have HL := Lib.hid hl
    clear hc h1 hl
    go_enter Tryz.func47, Tryz.ntmps47
    go_wp2_with (at_builtin; refine wpList_append_own_at _ rfl _ _ 46 rfl 0 9 i0 (.string ⟨#[]⟩) 1 16 Tryz.underlying46 hi hz0 hz1 hz2 rfl (by decide) _ _ _ rfl (World.ownsRow_made w #[] 0 (Nat.zero_le _) (by unfold maxLen; omega) (by simp)) ad n cap xs rfl HL.out ?c1 H1.out ?c3 ?c4 (Nat.zero_le _) ?_)
    case c1 =>
      intro j u hj
      have := HC.out j u hj
      exact (World.grownBy_alloc w _ none).cell this (by simp)
    case c3 => unfold maxLen; omega
    case c4 => omega
    intro v' w1 hown hg _ hat
    have hg := (show (w.alloc (.cells #[] 9)).grownBy w1 (some w.heap.size) from hg)
    have HAT := Lib.hid hat
    clear hat
    go_wp2
    go_ret
    refine ⟨v', rfl, ⟨by simpa using hown, fun k hk => ?_⟩, ?_⟩
    · rcases HAT.out with h | h
      · have h2 := h.symm.trans hk; simp [Value.ownBlock] at h2; omega
      · have h2 := h.symm.trans hk; simp at h2; omega
    · exact ((Below.refl _ _).alloc (Nat.le_refl _) _).grown hg (by simp) (fun k hk => by cases hk; exact Nat.le_refl _)
theorem oneCell_strs (l : List (List UInt8)) : ∀ u ∈ strVs l, u.oneCell' = true := by
  intro u hu; obtain ⟨b, _, rfl⟩ := List.mem_map.1 hu; rfl
theorem forms_count : ∀ l : List (List UInt8), l.length ≤ (forms l).length := by
  intro l
  induction l with
  | nil => simp
  | cons a l ih => rw [forms_cons]; have := form_pos a; simp; omega
set_option maxRecDepth 100000 in
/-- All: a copy of the list, as an object of its own. -/
theorem o_all (h : OMem w0 w os) (hk : os[k]? = some (.jour b d J)) :
    Calls Tryz.prog 25 #[.pointer (some ⟨b, 0, none⟩)] w fun e w' => ∃ v, e = .returned v ∧ OMem w0 w' (os ++ [.own 9 v (strVs J.l)]) := by
  obtain ⟨v, hc⟩ := h.jour hk
  have c2 := hc.c2
  have hsz := hc.size
  have hfc := forms_count J.l
  have HX := Lib.hid (cloneT v J.l.length (strVs J.l) w (SrcIs.of_own hc.row (oneCell_strs _)) (by omega))
  have H := Lib.hid h
  clear h hc hsz hfc
  go_enter Tryz.func25, Tryz.ntmps25
  go_wp2_with (go_at_call 47; refine HX.out.mono ?_; rintro e w1 ⟨v1, rfl, f1, b1⟩)
  go_ret
  exact ⟨v1, rfl, H.out.row b1 (by rw [strVs_length]; exact f1.1) f1.2⟩
end
end Go.Proofs.YtjbcgahdiolhhaaGreatDoor.D2
namespace Go.Proofs.YtjbcgahdiolhhaaGreatDoor.D2
open Go.RowKit Go.Maps Go.ChangeMaps Go.MapKept
open Dp Jp
attribute [local go_sem ↓] Go.wp_at_zero Go.wp_at_succ

section
variable {w0 w : World} {os : List Ob} {i d : Nat} {D : Dk} {v : Value} {l : List (List UInt8)}
/-- What Open leaves of the disk at place i. -/
def OpenPost (w0 : World) (os : List Ob) (i d : Nat) (f : Int) (r : Option (List (List UInt8)) × Int × Dk) (e : Ending) (w' : World) : Prop :=
  (r.1 = none ∧ e = .returned (.tuple #[.pointer none, .int .i64 r.2.1]) ∧ OMem w0 w' (os.set i (.disk d r.2.2))) ∨
  ∃ l b, r.1 = some l ∧ e = .returned (.tuple #[.pointer (some ⟨b, 0, none⟩), .int .i64 r.2.1]) ∧ OMem w0 w' (os.set i (.disk d r.2.2) ++ [.jour b d ⟨f, l, false⟩])
theorem OMem.ok (h : OMem w0 w os) (hi : os[i]? = some (.disk d D)) : D.Ok := by
  obtain ⟨lab, h⟩ := h
  obtain ⟨⟨L, h1⟩, _⟩ := h.at_ i _ hi
  exact h1.ok
theorem i64_err_truncate (D : Dk) (f n : Int) : I64 (D.truncate f n).1 := by
  apply i64_small
  unfold Dk.truncate eDown eArg eOK
  split
  · exact ⟨by simp, by simp⟩
  · simp only
    split
    · exact ⟨by simp, by simp⟩
    · split <;> exact ⟨by simp, by simp⟩

theorem set_push {α : Type} (l : List α) (x y : α) : (l ++ [x]).set l.length y = l ++ [y] := by simp
theorem get_push {α : Type} (l : List α) (x : α) : (l ++ [x])[l.length]? = some x := by simp
theorem set_app {α : Type} {l : List α} {i : Nat} (h : i < l.length) (x a b : α) : (l.set i x ++ [a]).set i b = l.set i b ++ [a] := by
  rw [List.set_append_left _ _ (by simpa using h), List.set_set]
theorem get_app {α : Type} {l : List α} {i : Nat} {x : α} (h : l[i]? = some x) (a : α) : (l ++ [a])[i]? = some x := by
  obtain ⟨hlt, _⟩ := List.getElem?_eq_some_iff.1 h
  rw [List.getElem?_append_left hlt]; exact h
/-- A list of one's own becomes a journal. -/
theorem OMem.made (h : OMem w0 w (os ++ [.own 9 v (strVs l)])) (f : Int) (hf : I64 f) (hsz : ((forms l).length : Int) ≤ 16777216) (d : Nat) :
    OMem w0 (w.alloc (.cells #[.pointer (some ⟨d, 0, none⟩), .int .i64 f, v, .int .i64 ((forms l).length : Int), .bool false] 74)) (os ++ [.jour w.heap.size d ⟨f, l, false⟩]) := by
  have := h.toJour (d := d) (get_push os _) (below_alloc w _) (Nat.le_refl _) f false (MapKept.heap_alloc w _).1 hf hsz
  rw [set_push] at this
  exact this

set_option maxHeartbeats 4000000 in
set_option maxRecDepth 100000 in
theorem o_open (h : OMem w0 w os) (hi : os[i]? = some (.disk d D)) (f : Int) (hf : I64 f) (he : Env w0) :
    Calls Tryz.prog 8 #[.pointer (some ⟨d, 0, none⟩), .int .i64 f] w (OpenPost w0 os i d f (jopen D f)) := by
  have hlt := (List.getElem?_eq_some_iff.1 hi).1
  cases hb : isFile f with
  | false =>
    have HR := Lib.hid (show jopen D f = (none, 1, D) by unfold jopen; rw [if_pos hb])
    have H := Lib.hid h
    have h2 : f < 0 ∨ 16 ≤ f := by unfold isFile at hb; rw [decide_eq_false_iff_not] at hb; omega
    clear hb h
    rcases h2 with h2 | h2
    all_goals
      go_enter Tryz.func8, Tryz.ntmps8
      go_wp2
      go_ret2
      unfold OpenPost
      rw [HR.out]
      exact .inl ⟨rfl, rfl, by simp only; rw [set_noop hi]; exact H.out⟩
  | true =>
    have h2 : 0 ≤ f ∧ f < 16 := by unfold isFile at hb; rw [decide_eq_true_iff] at hb; exact hb
    have h3 := h2.1
    have h4 := h2.2
    have hr := i64_err_sync D f
    have HX := Lib.hid (o_sync h hi f hf)
    have HJ : Hid (jopen D f = if (D.sync f).1 ≠ 0 then (none, (D.sync f).1, (D.sync f).2)
      else if (forms (recs (D.now f.toNat))).length < (D.now f.toNat).length then
        if ((D.sync f).2.truncate f ((forms (recs (D.now f.toNat))).length : Int)).1 ≠ 0 then (none, ((D.sync f).2.truncate f ((forms (recs (D.now f.toNat))).length : Int)).1, ((D.sync f).2.truncate f ((forms (recs (D.now f.toNat))).length : Int)).2)
        else (some (recs (D.now f.toNat)), 0, ((D.sync f).2.truncate f ((forms (recs (D.now f.toNat))).length : Int)).2)
      else (some (recs (D.now f.toNat)), 0, (D.sync f).2)) := Lib.hid (by unfold jopen; rw [hb, if_neg (by simp)])
    have HS := Lib.hid (fun e => (sync_ok (h.good hi) (f := f) e))
    have hnow := (h.ok hi).now f.toNat
    have H := Lib.hid h
    clear h2 h
    generalize D.now f.toNat = s at HJ HS hnow
    generalize D.sync f = r at HX HJ HS hr
    have HI := Lib.hid (set_here (a := Ob.disk d r.2) hi)
    by_cases h0 : r.1 = 0
    · obtain ⟨_, hup, _, hst⟩ := HS.out h0
      have hsz : r.2.size f = s.length := by unfold Dk.size; rw [hb, if_pos rfl, hst.now]
      have hrd : r.2.read f 0 (s.length : Int) = (s, 0) := by rw [read_all hup hb (by rw [hst.now]; exact Int.le_refl _), hst.now]
      have HRD := Lib.hid hrd
      have HSZ := Lib.hid hsz
      have hbs := bs_size s
      have hbs1 : (bs s).size ≤ 16777216 := by omega
      have HBS := Lib.hid hbs
      have HREC := Lib.hid (recordsOf_any s (by omega))
      have hpre := (recs_pre s).length_le
      have HT := i64_err_truncate r.2 f ((forms (recs s)).length : Int)
      have hl5 : (forms (recs s)).length ≤ 16777216 := by omega
      have HJ2 : Hid (jopen D f = if (forms (recs s)).length < s.length then
        if (r.2.truncate f ((forms (recs s)).length : Int)).1 ≠ 0 then (none, (r.2.truncate f ((forms (recs s)).length : Int)).1, (r.2.truncate f ((forms (recs s)).length : Int)).2)
        else (some (recs s), 0, (r.2.truncate f ((forms (recs s)).length : Int)).2)
      else (some (recs s), 0, r.2)) := Lib.hid (by rw [HJ.out, if_neg (by simpa using h0)])
      have H0 := Lib.hid h0
      rw [h0] at HX
      clear hst hsz hrd hbs HJ HS h0 hr
      go_enter Tryz.func8, Tryz.ntmps8
      go_wp2_with (go_at_call 33; refine HX.out.mono ?_; rintro e w1 ⟨rfl, m1⟩; refine Hid.out ?_)
      refine Lib.hid ?_
      have M1 := Lib.hid m1
      have HC1 := o_size m1 HI.out f hf
      rw [HSZ.out] at HC1
      have HC2 := o_read m1 HI.out f 0 (s.length : Int) hf ⟨by decide, by decide⟩ ⟨by omega, by omega⟩
      rw [HRD.out] at HC2
      have HC1 := Lib.hid HC1
      have HC2 := Lib.hid HC2
      clear m1
      go_wp2_with (go_at_call 27; refine HC1.out.mono ?_; rintro e w2 ⟨rfl, rfl⟩; refine Hid.out ?_)
      refine Lib.hid ?_
      go_wp2_with (go_at_call 26; refine HC2.out.mono ?_; rintro e w2 ⟨rfl, m2⟩; refine Hid.out ?_)
      refine Lib.hid ?_
      have M2 := Lib.hid m2
      have e2 := m2.env he
      clear m2
      go_wp2_with (go_at_call 34; refine (HREC.out _ e2).mono ?_; rintro e w3 ⟨v, rfl, hrow, b3⟩; refine Hid.out ?_)
      refine Lib.hid ?_
      obtain ⟨va, vc, rfl⟩ := own_form hrow
      have m3 := M2.out.row b3 (by rw [strVs_length]; exact hrow.mono (Nat.zero_le _)) (fun k hk => (hrow.lt k hk).1)
      have M3 := Lib.hid m3
      clear m3 e2 hrow b3
      have HI3 := Lib.hid (get_app HI.out (Ob.own 9 (.slice va (recs s).length vc) (strVs (recs s))))
      by_cases hlen : (forms (recs s)).length < s.length
      · have hl6 : ((forms (recs s)).length : Int) < ((bs s).size : Int) := by rw [HBS.out]; omega
        have HY := Lib.hid (o_truncate M3.out HI3.out f ((forms (recs s)).length : Int) hf ⟨by omega, by omega⟩)
        have HJ3 := Lib.hid (HJ2.out.trans (if_pos hlen))
        clear hlen HJ2
        generalize r.2.truncate f ((forms (recs s)).length : Int) = t at HY HJ3 HT
        by_cases ht : t.1 = 0
        · have HR := Lib.hid (HJ3.out.trans (if_neg (by simpa using ht)))
          rw [ht] at HY
          have HTZ := Lib.hid ht
          clear ht HT
          go_wp2_with (go_at_call 35; refine HY.out.mono ?_; rintro e w4 ⟨rfl, m4⟩; have M4 := Lib.hid m4; clear m4)
          go_ret2
          unfold OpenPost
          rw [HR.out]
          have := M4.out
          rw [set_app hlt] at this
          exact .inr ⟨_, _, rfl, rfl, this.made f hf (by omega) d⟩
        · have HR := Lib.hid (HJ3.out.trans (if_pos ht))
          go_wp2_with (go_at_call 35; refine HY.out.mono ?_; rintro e w4 ⟨rfl, m4⟩; have M4 := Lib.hid m4; clear m4)
          go_ret2
          unfold OpenPost
          rw [HR.out]
          have := M4.out.take os.length
          rw [set_app hlt, List.take_left' (by simp)] at this
          exact .inl ⟨rfl, rfl, this⟩
      · have hl6 : ¬ ((forms (recs s)).length : Int) < ((bs s).size : Int) := by rw [HBS.out]; omega
        have HR := Lib.hid (HJ2.out.trans (if_neg hlen))
        clear hlen HT
        go_wp2
        go_ret2
        unfold OpenPost
        rw [HR.out]
        exact .inr ⟨_, _, rfl, rfl, M3.out.made f hf (by omega) d⟩
    · have HR := Lib.hid (HJ.out.trans (if_pos h0))
      clear HS
      go_enter Tryz.func8, Tryz.ntmps8
      go_wp2_with (go_at_call 33; refine HX.out.mono ?_; rintro e w1 ⟨rfl, m1⟩; have M1 := Lib.hid m1; clear m1)
      go_ret2
      unfold OpenPost
      rw [HR.out]
      exact .inl ⟨rfl, rfl, M1.out⟩
end
end Go.Proofs.YtjbcgahdiolhhaaGreatDoor.D2
namespace Go.Proofs.YtjbcgahdiolhhaaGreatDoor.D2
open Dp Jp

theorem putN_end (s t : List UInt8) : putN s s.length t = s ++ t := by
  unfold putN
  split
  · rename_i h; subst h; simp
  · unfold putL
    simp only
    rw [List.take_left, List.drop_eq_nil_of_le (by simp), List.append_nil]
theorem putN_nil (t : List UInt8) : putN [] 0 t = t := putN_end [] t

/-! ### A disk on which nothing fails -/
structure Quiet (D : Dk) : Prop where
  up : D.down = false
  calls : D.calls = 0
  lost : D.lost = 0
theorem quiet_new : Quiet new := ⟨rfl, rfl, rfl⟩
theorem isFile_nat {f : Nat} (h : f < 16) : isFile (f : Int) = true := isFile_of (by omega) (by omega)
theorem quiet_settle {D : Dk} (q : Quiet D) (f : Nat) : Quiet (D.settle f) := ⟨by rw [settle_down, q.up], by rw [settle_calls, q.calls], by rw [settle_lost, q.lost]⟩
theorem sync_quiet {D : Dk} (q : Quiet D) {f : Nat} (hf : f < 16) : D.sync (f : Int) = (0, D.settle f) := by
  unfold Dk.sync
  rw [q.up, if_neg (by simp)]
  simp only [strike_none q.calls]
  rw [if_neg (by simp), isFile_nat hf, if_neg (by simp), if_neg (by rw [q.lost]; omega)]
  rfl
theorem settled_still {D : Dk} (g : Good D) (f : Nat) : Still (D.settle f) f (D.now f) :=
  ⟨by rw [settle_now], settle_dur g f, fun p hp => by
    have := (List.mem_filter.1 (show p ∈ D.pend.filter (fun p => p.1 ≠ f) from hp)).2
    simpa using this⟩
theorem quiet_trunc {D : Dk} (q : Quiet D) (f n : Nat) : Quiet (D.trunc (f : Int) n) := quiet_settle q f |> fun h => ⟨h.up, h.calls, h.lost⟩
theorem trunc_still {D : Dk} (g : Good D) (f n : Nat) : Still (D.trunc (f : Int) n) f ((D.now f).take n) := by
  have h := trunc_facts g (f : Int) n
  rw [Int.toNat_natCast] at h
  exact ⟨h.1, h.2, (settled_still g f).free⟩
theorem open_quiet {D : Dk} (g : Good D) (q : Quiet D) {f : Nat} (hf : f < 16) :
    ∃ D', jopen D (f : Int) = (some (recs (D.now f)), 0, D') ∧ Quiet D' ∧ Good D' ∧ Still D' f (forms (recs (D.now f))) ∧ ∀ h, h ≠ f → D'.now h = D.now h := by
  have hp := recs_pre (D.now f)
  unfold jopen
  rw [isFile_nat hf, if_neg (by simp), sync_quiet q hf]
  simp only [Int.toNat_natCast]
  rw [if_neg (by simp)]
  have gs := good_settle g f
  by_cases hl : (forms (recs (D.now f))).length < (D.now f).length
  · rw [if_pos hl]
    have ht := truncate_up (D := D.settle f) (f := (f : Int)) (n := ((forms (recs (D.now f))).length : Int)) (quiet_settle q f).calls (quiet_settle q f).up (isFile_nat hf) (by omega) (by rw [settle_now]; simp; omega)
    rw [ht, if_neg (by simp)]
    refine ⟨_, rfl, quiet_trunc (quiet_settle q f) f _, good_trunc gs f _, ?_, fun h hh => ?_⟩
    · have := trunc_still gs f (forms (recs (D.now f))).length
      rw [settle_now, ← List.prefix_iff_eq_take.1 hp] at this
      exact this
    · simp only [Int.toNat_natCast]
      rw [trunc_now, if_neg hh, settle_now]
  · rw [if_neg hl]
    refine ⟨_, rfl, quiet_settle q f, gs, ?_, fun h _ => by rw [settle_now]⟩
    have he : forms (recs (D.now f)) = D.now f := hp.eq_of_length (by have := hp.length_le; omega)
    rw [he]
    exact settled_still g f
theorem wr_dur (D : Dk) (f a : Int) (s : List UInt8) : (D.wr f a s).2.dur = D.dur ∧ (D.wr f a s).2.lost = D.lost := by
  unfold Dk.wr; split
  · exact ⟨rfl, rfl⟩
  · split
    · exact ⟨rfl, rfl⟩
    · split <;> exact ⟨rfl, rfl⟩
theorem write_quiet {D : Dk} (g : Good D) (q : Quiet D) {f a : Nat} (hf : f < 16) {s : List UInt8} (hs : a + s.length ≤ 16777216) :
    ∃ D', D.write (f : Int) (a : Int) s = (0, D') ∧ Quiet D' ∧ Good D' ∧ D'.now f = putN (D.now f) a s ∧ (∀ h, h ≠ f → D'.now h = D.now h) ∧ D'.dur = D.dur := by
  have hw := wr_ok (D := D) (f := (f : Int)) (a := (a : Int)) (s := s) (isFile_nat hf) (by omega) (by omega)
  refine ⟨(D.wr (f : Int) (a : Int) s).2, ?_, ⟨by rw [wr_down, q.up], by rw [wr_calls, q.calls], by rw [(wr_dur D _ _ s).2, q.lost]⟩, good_wr g _ _ s, ?_, fun h hh => ?_, (wr_dur D _ _ s).1⟩
  · rw [write_up q.calls q.up]
    exact Prod.ext hw.1 rfl
  · rw [hw.2 f, if_pos (by simp)]; simp
  · rw [hw.2 h, if_neg (by simpa using hh)]
theorem append_quiet {D : Dk} (g : Good D) (q : Quiet D) {J : Jn} {f : Nat} (hf : f < 16) (hj : J.file = (f : Int)) (hb : J.bad = false) (hn : D.now f = forms J.l) {s : List UInt8} (hs : s.length ≤ 20000) (hm : (forms J.l).length + (form s).length ≤ 1048576) :
    ∃ D', jappend D J s = (0, D', { J with l := J.l ++ [s] }) ∧ Quiet D' ∧ Good D' ∧ D'.now f = forms (J.l ++ [s]) ∧ (∀ h, h ≠ f → D'.now h = D.now h) ∧ D'.dur = D.dur := by
  obtain ⟨D', h1, h2, h3, h4, h5, h6⟩ := write_quiet g q hf (a := (forms J.l).length) (s := form s) (by omega)
  refine ⟨D', ?_, h2, h3, ?_, h5, h6⟩
  · unfold jappend
    rw [hb, if_neg (by simp), if_neg (by omega), if_neg (by omega), hj, h1, if_neg (by simp)]
  · rw [h4, hn, putN_end, forms_snoc]

/-! ### Crashes -/
theorem getD_pre {s t : List UInt8} (h : s <+: t) {i : Nat} (hi : i < s.length) : s.getD i 0 = t.getD i 0 := by
  obtain ⟨u, rfl⟩ := h
  rw [List.getD_eq_getElem?_getD, List.getD_eq_getElem?_getD, List.getElem?_append_left hi]
theorem crash_dur {D : Dk} (hd : D.down = false) (ks : List Int) {f : Nat} (hf : f < 16) : (D.crash ks).dur f = (D.crash ks).now f := by
  rw [(crashed hd ks hf).1]
  unfold Dk.crash
  rw [hd]
  rfl
theorem crash_free {D : Dk} (hd : D.down = false) (ks : List Int) : (D.crash ks).pend = [] := by
  unfold Dk.crash; rw [hd]; rfl
theorem crash_tear {D : Dk} (g : Good D) (hd : D.down = false) (ks : List Int) {f : Nat} (hf : f < 16) (hp : D.dur f <+: D.now f) :
    Tear (D.now f) ((D.crash ks).now f) ∧ D.dur f <+: (D.crash ks).now f := by
  have hl := crash_len g hd ks hf
  have hx := (crashed hd ks hf).1
  have ha : ∀ i, ((D.crash ks).now f).getD i 0 = if (f, i / 64) ∈ survive ks 0 D.pend ∧ i < (D.now f).length then (D.now f).getD i 0 else (D.dur f).getD i 0 := fun i => by rw [hx, hardens_at]
  refine ⟨tear_of _ _ hl.2 fun i => ?_, ?_⟩
  · rw [ha]
    split
    · exact .inl rfl
    · rcases Nat.lt_or_ge i (D.dur f).length with h | h
      · exact .inl (getD_pre hp h)
      · exact .inr (getD_out h)
  · rw [List.prefix_iff_eq_take]
    refine eq_of_getD (by rw [List.length_take]; omega) fun i => ?_
    rcases Nat.lt_or_ge i (D.dur f).length with h | h
    · have e : (((D.crash ks).now f).take (D.dur f).length).getD i 0 = ((D.crash ks).now f).getD i 0 := by
        rw [List.getD_eq_getElem?_getD, List.getD_eq_getElem?_getD, List.getElem?_take_of_lt h]
      rw [e, ha]
      split
      · exact getD_pre hp h
      · rfl
    · rw [getD_out h, getD_out (by rw [List.length_take]; omega)]

/-- What is known of a journal's file at any moment: it is a tear of the records that may be there, and what must be there is durable. -/
structure Held (D : Dk) (f : Nat) (all sure : List (List UInt8)) : Prop where
  good : Good D
  tear : Tear (forms all) (D.now f)
  pre : D.dur f <+: D.now f
  safe : forms sure <+: D.dur f
  sub : sure <+: all
theorem Held.of {D D' : Dk} {f : Nat} {all sure : List (List UInt8)} (h : Held D f all sure) (h1 : D'.now = D.now) (h2 : D'.dur = D.dur) (h3 : D'.pend = D.pend) : Held D' f all sure :=
  ⟨h.good.of h1 h2 h3, by rw [h1]; exact h.tear, by rw [h1, h2]; exact h.pre, by rw [h2]; exact h.safe, h.sub⟩
theorem Held.crash {D : Dk} {f : Nat} {all sure : List (List UInt8)} (h : Held D f all sure) (hf : f < 16) (ks : List Int) : Held (D.crash ks) f all sure := by
  cases hd : D.down with
  | true => unfold Dk.crash; rw [hd]; exact h
  | false =>
    obtain ⟨h1, h2⟩ := crash_tear h.good hd ks hf h.pre
    exact ⟨good_crash h.good ks, h.tear.trans h1, by rw [crash_dur hd ks hf]; exact List.prefix_refl _, by rw [crash_dur hd ks hf]; exact h.safe.trans h2, h.sub⟩
theorem Held.strike {D : Dk} {f : Nat} {all sure : List (List UInt8)} (h : Held D f all sure) (hf : f < 16) : Held D.strike.2 f all sure := by
  unfold Dk.strike
  split
  · exact h
  · split
    · exact (h.of (D' := { D with calls := 0 }) rfl rfl rfl).crash hf _
    · exact h.of rfl rfl rfl
theorem Held.still {D : Dk} {f : Nat} {all : List (List UInt8)} (g : Good D) (h : Still D f (forms all)) : Held D f all all :=
  ⟨g, by rw [h.now]; exact Tear.refl _, by rw [h.now, h.dur]; exact List.prefix_refl _, by rw [h.dur]; exact List.prefix_refl _, List.prefix_refl _⟩
theorem Held.stay {D : Dk} {f : Nat} {all sure : List (List UInt8)} {t : List UInt8} (g : Good D) (h : Still D f t) (ht : Tear (forms all) t) (hs : forms sure <+: t) (hb : sure <+: all) : Held D f all sure :=
  ⟨g, by rw [h.now]; exact ht, by rw [h.now, h.dur]; exact List.prefix_refl _, by rw [h.dur]; exact hs, hb⟩
theorem Held.sync {D : Dk} {f : Nat} {all sure : List (List UInt8)} (h : Held D f all sure) (hf : f < 16) :
    Held (D.sync (f : Int)).2 f all sure ∧ ((D.sync (f : Int)).1 = 0 ∨ (D.sync (f : Int)).1 = 8 ∨ (D.sync (f : Int)).1 = 9) := by
  unfold Dk.sync
  split
  · exact ⟨h, .inr (.inl rfl)⟩
  · simp only
    split
    · exact ⟨h.strike hf, .inr (.inl rfl)⟩
    · rw [isFile_nat hf, if_neg (by simp)]
      split
      · exact ⟨(h.strike hf).of rfl rfl rfl, .inr (.inr rfl)⟩
      · have hs := h.strike hf
        rw [Int.toNat_natCast]
        exact ⟨Held.stay (good_settle hs.good f) (settled_still hs.good f) hs.tear (hs.safe.trans hs.pre) h.sub, .inl rfl⟩
theorem strike_same {D : Dk} (h : D.strike.1 = false) : D.strike.2.now = D.now ∧ D.strike.2.dur = D.dur ∧ D.strike.2.pend = D.pend ∧ D.strike.2.down = D.down := by
  unfold Dk.strike at h ⊢
  split
  · exact ⟨rfl, rfl, rfl, rfl⟩
  · split
    · rename_i h1 h2; rw [if_neg h1, if_pos h2] at h; cases h
    · exact ⟨rfl, rfl, rfl, rfl⟩
/-- What Open leaves. -/
theorem Held.opened {D : Dk} {f : Nat} {all sure : List (List UInt8)} (h : Held D f all sure) (hf : f < 16) (hs : ∀ r ∈ all, r.length ≤ 2000) :
    ((jopen D (f : Int)).1 = none ∧ ((jopen D (f : Int)).2.1 = 8 ∨ (jopen D (f : Int)).2.1 = 9) ∧ Held (jopen D (f : Int)).2.2 f all sure) ∨
    ∃ l, (jopen D (f : Int)).1 = some l ∧ (jopen D (f : Int)).2.1 = 0 ∧ l <+: all ∧ sure <+: l ∧ Good (jopen D (f : Int)).2.2 ∧ Still (jopen D (f : Int)).2.2 f (forms l) ∧ (jopen D (f : Int)).2.2.down = false := by
  obtain ⟨h1, h2⟩ := h.sync hf
  unfold jopen
  rw [isFile_nat hf, if_neg (by simp), Int.toNat_natCast]
  by_cases h0 : (D.sync (f : Int)).1 = 0
  · obtain ⟨_, hup, hup0, hst⟩ := sync_ok h.good h0
    rw [Int.toNat_natCast] at hst
    rw [if_neg (by simpa using h0)]
    have gs := h1.good
    have hk := tear_keeps (k := sure.length) hs h.tear h.sub.length_le (by rw [← List.prefix_iff_eq_take.1 h.sub]; exact h.safe.trans h.pre)
    rw [← List.prefix_iff_eq_take.1 h.sub] at hk
    have hp := recs_pre (D.now f)
    generalize (D.sync (f : Int)).2 = E at *
    by_cases hl : (forms (recs (D.now f))).length < (D.now f).length
    · rw [if_pos hl]
      have key : ((E.truncate (f : Int) ((forms (recs (D.now f))).length : Int)).1 = 8 ∧ Held (E.truncate (f : Int) ((forms (recs (D.now f))).length : Int)).2 f all sure) ∨
          ((E.truncate (f : Int) ((forms (recs (D.now f))).length : Int)).1 = 0 ∧ Good (E.truncate (f : Int) ((forms (recs (D.now f))).length : Int)).2 ∧ Still (E.truncate (f : Int) ((forms (recs (D.now f))).length : Int)).2 f (forms (recs (D.now f))) ∧ (E.truncate (f : Int) ((forms (recs (D.now f))).length : Int)).2.down = false) := by
        have gt := good_truncate gs (f : Int) ((forms (recs (D.now f))).length : Int)
        unfold Dk.truncate at gt ⊢
        rw [hup, if_neg (by simp)] at gt ⊢
        simp only at gt ⊢
        cases hk2 : E.strike.1 with
        | true => rw [if_pos rfl]; exact .inl ⟨rfl, h1.strike hf⟩
        | false =>
          obtain ⟨a1, a2, a3, a4⟩ := strike_same hk2
          have hst2 : Still E.strike.2 f (D.now f) := hst.of a1 a2 a3
          rw [hk2, if_neg (by simp)] at gt
          rw [if_neg (by simp)]
          have hno : ¬ (isFile (f : Int) = false ∨ ((forms (recs (D.now f))).length : Int) < 0 ∨ (E.strike.2.size (f : Int) : Int) < ((forms (recs (D.now f))).length : Int)) := by
            rw [isFile_nat hf]
            unfold Dk.size
            rw [isFile_nat hf, if_pos rfl, Int.toNat_natCast, hst2.now]
            simp; omega
          rw [if_neg hno] at gt ⊢
          refine .inr ⟨rfl, gt, ?_, ?_⟩
          · have := trunc_still (good_strike gs) f (forms (recs (D.now f))).length
            rw [hst2.now, ← List.prefix_iff_eq_take.1 hp] at this
            simpa using this
          · show (E.strike.2.settle _).down = false
            rw [settle_down, a4, hup]
      rcases key with ⟨k1, k2⟩ | ⟨k1, k2, k3, k4⟩
      · rw [if_pos (by rw [k1]; decide)]
        exact .inl ⟨rfl, .inl k1, k2⟩
      · rw [if_neg (by simpa using k1)]
        exact .inr ⟨_, rfl, rfl, hk.1, hk.2, k2, k3, k4⟩
    · rw [if_neg hl]
      have he : forms (recs (D.now f)) = D.now f := hp.eq_of_length (by have := hp.length_le; omega)
      exact .inr ⟨_, rfl, rfl, hk.1, hk.2, gs, by rw [he]; exact hst, hup⟩
  · rw [if_pos h0]
    exact .inl ⟨rfl, by simp only; omega, h1⟩
/-- What Append leaves, where the journal has not failed. -/
theorem Held.appended {D : Dk} {f : Nat} {all sure : List (List UInt8)} {J : Jn} (h : Held D f all sure) (hf : f < 16) (hj : J.file = (f : Int)) (hb : J.bad = false) (hl : J.l = all) (hn : D.now f = forms all) (hup : D.down = false) (s : List UInt8) :
    ((jappend D J s).1 = 0 ∧ Held (jappend D J s).2.1 f (all ++ [s]) sure ∧ (jappend D J s).2.1.now f = forms (all ++ [s]) ∧ (jappend D J s).2.1.down = false ∧ (jappend D J s).2.2 = { J with l := all ++ [s] }) ∨
    ((jappend D J s).1 = 8 ∧ Held (jappend D J s).2.1 f (all ++ [s]) sure ∧ (jappend D J s).2.2 = { J with bad := true }) ∨
    (((jappend D J s).1 = 3 ∨ (jappend D J s).1 = 6) ∧ (jappend D J s).2 = (D, J)) := by
  subst hl
  unfold jappend
  rw [hb, if_neg (by simp)]
  split
  · exact .inr (.inr ⟨.inl rfl, rfl⟩)
  · split
    · exact .inr (.inr ⟨.inr rfl, rfl⟩)
    · rename_i h1 h2
      have hw := wr_ok (D := D) (f := (f : Int)) (a := ((forms J.l).length : Int)) (s := form s) (isFile_nat hf) (by omega) (by omega)
      have hnow : (D.wr (f : Int) ((forms J.l).length : Int) (form s)).2.now f = forms (J.l ++ [s]) := by
        rw [hw.2 f, if_pos (by simp), hn, Int.toNat_natCast, putN_end, forms_snoc]
      have hdur := congrFun (wr_dur D (f : Int) ((forms J.l).length : Int) (form s)).1 f
      have hpre : D.dur f <+: forms (J.l ++ [s]) := by
        have := h.pre
        rw [hn] at this
        rw [forms_snoc]
        exact this.trans ⟨_, rfl⟩
      have hH : Held (D.wr (f : Int) ((forms J.l).length : Int) (form s)).2 f (J.l ++ [s]) sure :=
        ⟨good_wr h.good _ _ _, by rw [hnow]; exact Tear.refl _, by rw [hnow, hdur]; exact hpre, by rw [hdur]; exact h.safe, h.sub.trans ⟨_, rfl⟩⟩
      have hd := wr_down D (f : Int) ((forms J.l).length : Int) (form s)
      rw [hj]
      have hwr : D.write (f : Int) ((forms J.l).length : Int) (form s) = if (D.wr (f : Int) ((forms J.l).length : Int) (form s)).2.strike.1 then (8, (D.wr (f : Int) ((forms J.l).length : Int) (form s)).2.strike.2) else (0, (D.wr (f : Int) ((forms J.l).length : Int) (form s)).2.strike.2) := by
        unfold Dk.write
        rw [hup, if_neg (by simp), ← hw.1]
        rfl
      rw [hwr]
      cases hk : (D.wr (f : Int) ((forms J.l).length : Int) (form s)).2.strike.1 with
      | true =>
        refine .inr (.inl ⟨by simp, ?_, by simp⟩)
        simpa using hH.strike hf
      | false =>
        obtain ⟨a1, a2, a3, a4⟩ := strike_same hk
        refine .inl ⟨by simp, ?_, ?_, ?_, by simp⟩
        · simpa using hH.of a1 a2 a3
        · simp [a1, hnow]
        · simp [a4, hd, hup]
end Go.Proofs.YtjbcgahdiolhhaaGreatDoor.D2
namespace Go.Proofs.YtjbcgahdiolhhaaGreatDoor
open Go.RowKit Go.Shelf

theorem take_eq {α : Type} {l m : List α} {k : Nat} (h : l.take k = m.take k) (h1 : k < l.length) (h2 : k < m.length) (he : l[k] = m[k]) : l.take (k + 1) = m.take (k + 1) := by
  rw [List.take_succ_eq_append_getElem h1, List.take_succ_eq_append_getElem h2, h, he]

theorem sameTexts_ne (a a' : Option Addr) (l m : List (List UInt8)) (cap cap' : Nat) (hne : l.length ≠ m.length) (w : World) :
    Calls Tryz.prog 24 #[.slice a l.length cap, .slice a' m.length cap'] w fun e w' => e = .returned (.bool false) ∧ Below w.heap.size w w' := by
  have hb : ((l.length : Int) != (m.length : Int)) = true := by rw [bne_iff_ne]; omega
  clear hne
  go_enter Tryz.func24, Tryz.ntmps24
  go_wp2
  go_ret
  exact ⟨rfl, Below.refl _ _⟩

theorem sameTexts_nil (a a' : Option Addr) (cap cap' : Nat) (w : World) :
    Calls Tryz.prog 24 #[.slice a 0 cap, .slice a' 0 cap'] w fun e w' => e = .returned (.bool true) ∧ Below w.heap.size w w' := by
  go_enter Tryz.func24, Tryz.ntmps24
  go_wp2
  go_loop [5] (fun i => i = .int .i64 0) (fun _ => 0)
  case atStart => exact rfl
  case round =>
    obtain rfl := hrel
    go_wp2
    go_ret
    exact ⟨rfl, Below.refl _ _⟩

set_option maxHeartbeats 1000000 in
theorem sameTexts_some (l m : List (List UInt8)) (n : Nat) (hn : m.length = n) (hl : l.length = n) (hb : n ≤ 1099511627776) (b off cap b' off' cap' : Nat) (w : World) (h1 : b < w.heap.size) (h2 : b' < w.heap.size)
    (hc : ∀ k, k < l.length → w.cell? ⟨b, off + k, none⟩ = some (.string (bs (l.getD k [])))) (hc' : ∀ k, k < m.length → w.cell? ⟨b', off' + k, none⟩ = some (.string (bs (m.getD k [])))) :
    Calls Tryz.prog 24 #[.slice (some ⟨b, off, none⟩) n cap, .slice (some ⟨b', off', none⟩) n cap'] w fun e w' => e = .returned (.bool (decide (l = m))) ∧ Below w.heap.size w w' := by
  have HC := Lib.hid hc
  have HC' := Lib.hid hc'
  have HN := Lib.hid hn
  have HL := Lib.hid hl
  clear hc hc' hn hl
  go_enter Tryz.func24, Tryz.ntmps24
  go_wp2
  go_loopw [5] (fun i wr => ∃ k : Nat, k ≤ n ∧ i = .int .i64 k ∧ Hid (l.take k = m.take k) ∧ Below w.heap.size w wr) (fun i _ => n - (intOf i).toNat)
  case atStart => exact ⟨0, Nat.zero_le _, rfl, Lib.hid rfl, Below.refl _ _⟩
  case round =>
    obtain ⟨k, hk, rfl, HT, kr⟩ := hrel
    by_cases hlt : k < n
    · have g1 : k < l.length := by rw [HL.out]; exact hlt
      have g2 : k < m.length := by rw [HN.out]; exact hlt
      have c1 : wr.cell? ⟨b, off + k, none⟩ = some (.string (bs (l[k]))) := by
        rw [kr.cell (p := ⟨b, off + k, none⟩) h1, HC.out k g1, List.getD_eq_getElem?_getD, List.getElem?_eq_getElem g1]; rfl
      have c2 : wr.cell? ⟨b', off' + k, none⟩ = some (.string (bs (m[k]))) := by
        rw [kr.cell (p := ⟨b', off' + k, none⟩) h2, HC'.out k g2, List.getD_eq_getElem?_getD, List.getElem?_eq_getElem g2]; rfl
      by_cases hd : l[k] = m[k]
      · have HX := Lib.hid (show (!((bs l[k]).toList == (bs m[k]).toList)) = false from by rw [hd]; simp)
        have HT2 := Lib.hid (take_eq HT.out g1 g2 hd)
        clear hd
        go_wp2
        go_quiet (fail)
        have kr2 := below_drewN kr nq
        clear c1 c2 kr
        simp only [HX.out]
        go_wp2
        go_roundw
        case rel => exact ⟨k + 1, by omega, by go_num, HT2, kr2⟩
        case measure => simp [intOf]; omega
      · have HX := Lib.hid (show (!((bs l[k]).toList == (bs m[k]).toList)) = true from by rw [bs_toList, bs_toList]; simpa using hd)
        have HD : l ≠ m := by intro e; subst e; exact hd rfl
        clear hd
        go_wp2
        go_quiet (fail)
        have kr2 := below_drewN kr nq
        clear c1 c2 kr
        simp only [HX.out]
        go_wp2
        go_ret
        exact ⟨by simp [HD], kr2⟩
    · have he : l = m := by
        have := HT.out
        rwa [List.take_of_length_le (by have := HL.out; omega), List.take_of_length_le (by have := HN.out; omega)] at this
      have HE := Lib.hid he
      clear he
      go_wp2
      go_ret
      exact ⟨by rw [HE.out]; simp, kr⟩

theorem sameTexts_any (v v' : Value) (l m : List (List UInt8)) (hm : m.length ≤ 1099511627776) (w : World) (h : TextsAt w v l) (h' : TextsAt w v' m) :
    Calls Tryz.prog 24 #[v, v'] w fun e w' => e = .returned (.bool (decide (l = m))) ∧ Below w.heap.size w w' := by
  obtain ⟨a, cap, rfl, h⟩ := h
  obtain ⟨a', cap', rfl, h'⟩ := h'
  by_cases hne : l.length = m.length
  · rcases h with rfl | ⟨b, off, rfl, hb, hc⟩
    · have : m = [] := List.length_eq_zero_iff.1 hne.symm
      subst this
      exact sameTexts_nil a a' cap cap' w
    · rcases h' with rfl | ⟨b', off', rfl, hb', hc'⟩
      · have : l = [] := List.length_eq_zero_iff.1 hne
        subst this
        exact sameTexts_nil _ _ cap cap' w
      · have := sameTexts_some l m m.length rfl hne hm b off cap b' off' cap' w hb hb' hc hc'
        rw [hne]
        exact this
  · have hd : decide (l = m) = false := by
      rw [decide_eq_false_iff_not]; intro e; exact hne (by rw [e])
    rw [hd]
    exact sameTexts_ne a a' l m cap cap' hne w
end Go.Proofs.YtjbcgahdiolhhaaGreatDoor
namespace Go.Proofs.YtjbcgahdiolhhaaGreatDoor.D2
open Go.RowKit Go.Maps Go.ChangeMaps Go.MapKept
open Dp Jp
attribute [local go_sem ↓] Go.wp_at_zero Go.wp_at_succ

/-! ### Calls whose results are known -/
section
variable {w0 w : World} {os : List Ob} {i k b d : Nat} {D D' : Dk} {J J' : Jn}
theorem o_open1 (h : OMem w0 w os) (hi : os[i]? = some (.disk d D)) (f : Int) (hf : I64 f) (he : Env w0) {l : List (List UInt8)} {n : Int} (hr : jopen D f = (some l, n, D')) :
    Calls Tryz.prog 8 #[.pointer (some ⟨d, 0, none⟩), .int .i64 f] w fun e w' => ∃ b, e = .returned (.tuple #[.pointer (some ⟨b, 0, none⟩), .int .i64 n]) ∧ OMem w0 w' (os.set i (.disk d D') ++ [.jour b d ⟨f, l, false⟩]) := by
  refine (o_open h hi f hf he).mono ?_
  rw [hr]
  rintro e w' (⟨h1, _⟩ | ⟨l', b, h1, h2, h3⟩)
  · cases h1
  · cases h1; exact ⟨b, h2, h3⟩
theorem o_open0 (h : OMem w0 w os) (hi : os[i]? = some (.disk d D)) (f : Int) (hf : I64 f) (he : Env w0) {n : Int} (hr : jopen D f = (none, n, D')) :
    Calls Tryz.prog 8 #[.pointer (some ⟨d, 0, none⟩), .int .i64 f] w fun e w' => e = .returned (.tuple #[.pointer none, .int .i64 n]) ∧ OMem w0 w' (os.set i (.disk d D')) := by
  refine (o_open h hi f hf he).mono ?_
  rw [hr]
  rintro e w' (⟨_, h2, h3⟩ | ⟨l', b, h1, _⟩)
  · exact ⟨h2, h3⟩
  · cases h1
theorem o_append1 (h : OMem w0 w os) (hi : os[i]? = some (.disk d D)) (hk : os[k]? = some (.jour b d J)) (hne : i ≠ k) (s : List UInt8) (he : Env w) {n : Int} (hr : jappend D J s = (n, D', J')) :
    Calls Tryz.prog 12 #[.pointer (some ⟨b, 0, none⟩), .string (bs s)] w fun e w' => e = .returned (.int .i64 n) ∧ OMem w0 w' ((os.set i (.disk d D')).set k (.jour b d J')) := by
  have := o_append h hi hk hne s he
  rw [hr] at this
  exact this
theorem o_jsync1 (h : OMem w0 w os) (hi : os[i]? = some (.disk d D)) (hk : os[k]? = some (.jour b d J)) (hne : i ≠ k) {n : Int} (hr : jsync D J = (n, D', J')) :
    Calls Tryz.prog 14 #[.pointer (some ⟨b, 0, none⟩)] w fun e w' => e = .returned (.int .i64 n) ∧ OMem w0 w' ((os.set i (.disk d D')).set k (.jour b d J')) := by
  have := o_jsync h hi hk hne
  rw [hr] at this
  exact this
theorem o_write1 (h : OMem w0 w os) (hi : os[i]? = some (.disk d D)) (f a : Int) (s : List UInt8) (hf : I64 f) (ha : I64 a) (hs : s.length ≤ 140737488355327) {n : Int} (hr : D.write f a s = (n, D')) :
    Calls Tryz.prog 30 #[.pointer (some ⟨d, 0, none⟩), .int .i64 f, .int .i64 a, .string (bs s)] w fun e w' => e = .returned (.int .i64 n) ∧ OMem w0 w' (os.set i (.disk d D')) := by
  have := o_write h hi f a s hf ha hs
  rw [hr] at this
  exact this
theorem o_read1 (h : OMem w0 w os) (hi : os[i]? = some (.disk d D)) (f a n : Int) (hf : I64 f) (ha : I64 a) (hn : I64 n) {s : List UInt8} {r : Int} (hr : D.read f a n = (s, r)) :
    Calls Tryz.prog 26 #[.pointer (some ⟨d, 0, none⟩), .int .i64 f, .int .i64 a, .int .i64 n] w fun e w' => e = .returned (.tuple #[.string (bs s), .int .i64 r]) ∧ OMem w0 w' os := by
  have := o_read h hi f a n hf ha hn
  rw [hr] at this
  exact this
theorem o_read2 (h : OMem w0 w os) (hi : os[i]? = some (.disk d D)) (f a n : Int) (hf : I64 f) (ha : I64 a) (hn : I64 n) {s : List UInt8} {r : Int} (hr : D.read f a n = (s, r)) (z : ByteArray) (hz : bs s = z) :
    Calls Tryz.prog 26 #[.pointer (some ⟨d, 0, none⟩), .int .i64 f, .int .i64 a, .int .i64 n] w fun e w' => e = .returned (.tuple #[.string z, .int .i64 r]) ∧ OMem w0 w' os := by
  rw [← hz]
  exact o_read1 h hi f a n hf ha hn hr
theorem o_get1 (h : OMem w0 w os) (hk : os[k]? = some (.jour b d J)) (n : Int) (hn : I64 n) (z : ByteArray) (hz : bs (if 0 ≤ n then J.l.getD n.toNat [] else []) = z) :
    Calls Tryz.prog 32 #[.pointer (some ⟨b, 0, none⟩), .int .i64 n] w fun e w' => e = .returned (.string z) ∧ w = w' := by
  rw [← hz]
  exact o_get h hk n hn
theorem o_len1 (h : OMem w0 w os) (hk : os[k]? = some (.jour b d J)) (n : Int) (hn : (J.l.length : Int) = n) :
    Calls Tryz.prog 31 #[.pointer (some ⟨b, 0, none⟩)] w fun e w' => e = .returned (.int .i64 n) ∧ w = w' := by
  rw [← hn]
  exact o_len h hk
theorem o_size1 (h : OMem w0 w os) (hi : os[i]? = some (.disk d D)) (f : Int) (hf : I64 f) {r : Nat} (hr : D.size f = r) : Calls Tryz.prog 27 #[.pointer (some ⟨d, 0, none⟩), .int .i64 f] w fun e w' => e = .returned (.int .i64 (r : Int)) ∧ w = w' := by
  have := o_size h hi f hf
  rwa [hr] at this
theorem OMem.texts (h : OMem w0 w os) {v : Value} {l : List (List UInt8)} (hi : os[i]? = some (.own 9 v (strVs l))) : TextsAt w v l := by
  have h1 := h.at_row hi
  rw [strVs_length] at h1
  obtain ⟨a, cap, e1, e2⟩ := listFrom_own (lo := 0) (f := fun z : List UInt8 => Value.string (bs z)) h1
  refine ⟨a, cap, e1, ?_⟩
  rcases e2 with h2 | ⟨b, h3, _, h5, h6⟩
  · exact .inl h2
  · exact .inr ⟨b, 0, h3, h5, fun k hk => by rw [Nat.zero_add, List.getD_eq_getElem?_getD, List.getElem?_eq_getElem hk]; exact h6 k _ (List.getElem?_eq_getElem hk)⟩
end
theorem texts_fresh {w w' : World} {v : Value} {l : List (List UInt8)} (h : TextsAt w v l) (hb : Below w.heap.size w w') : TextsAt w' v l := by
  obtain ⟨a, cap, e1, e2⟩ := h
  refine ⟨a, cap, e1, ?_⟩
  rcases e2 with h2 | ⟨b, off, h3, h5, h6⟩
  · exact .inl h2
  · exact .inr ⟨b, off, h3, Nat.lt_of_lt_of_le h5 hb.size, fun k hk => by rw [hb.cell (p := ⟨b, off + k, none⟩) h5]; exact h6 k hk⟩
theorem texts_one (w : World) (l : List UInt8) (T : TypeId) : TextsAt (w.alloc (.cells #[.string (bs l)] T)) (.slice (some ⟨w.heap.size, 0, none⟩) 1 1) [l] :=
  ⟨some ⟨w.heap.size, 0, none⟩, 1, rfl, .inr ⟨w.heap.size, 0, rfl, by simp, fun k hk => by
    have : k = 0 := by simp at hk; omega
    subst this
    rw [alloc_new_cell]; rfl⟩⟩

/-! ### The examples, reckoned -/
theorem it293 : Lib.itoa 293 = [50, 57, 51] := by unfold Lib.itoa; rw [if_neg (by decide)]; show Lib.decDigits 293 = _; rw [Sp.decDigits_big (by decide), Sp.decDigits_big (by decide), Sp.decDigits_small (by decide)]; rfl
theorem it98 : Lib.itoa 98 = [57, 56] := by unfold Lib.itoa; rw [if_neg (by decide)]; show Lib.decDigits 98 = _; rw [Sp.decDigits_big (by decide), Sp.decDigits_small (by decide)]; rfl
theorem form_ab : form [97, 98] = [50, 58, 97, 98, 44, 50, 57, 51, 59] := by
  have h1 : ((jsum [97, 98] : Nat) : Int) = 293 := by decide
  have h2 : (([97, 98] : List UInt8).length : Int) = 2 := rfl
  unfold form Sp.eText Sp.eNum Sp.eInt
  rw [h1, h2, it293, it2]
  rfl
theorem form_no : form [] = [48, 58, 44, 48, 59] := by
  have h1 : ((jsum [] : Nat) : Int) = 0 := by decide
  have h2 : (([] : List UInt8).length : Int) = 0 := rfl
  unfold form Sp.eText Sp.eNum Sp.eInt
  rw [h1, h2, it0]
  rfl
theorem rec_odd : rec1 [49, 58, 97, 44, 57, 56, 59] = none := by
  have h : ([49, 58, 97, 44, 57, 56, 59] : List UInt8) = Sp.eText [97] ++ (Sp.eNum 98 ++ []) := by
    have h2 : (([97] : List UInt8).length : Int) = 1 := rfl
    unfold Sp.eText Sp.eNum Sp.eInt
    rw [h2, it1, it98]
    rfl
  unfold rec1
  rw [h, Sp.pText_e [97] (by decide)]
  simp only
  rw [Sp.pNum_e 98 ⟨by decide, by decide⟩ (by decide)]
  simp only
  rw [if_neg (by decide)]
theorem recs_odd : recs [50, 58, 97, 98, 44, 50, 57, 51, 59, 49, 58, 97, 44, 57, 56, 59] = [[97, 98]] := by
  have h := recs_forms [[97, 98]] [49, 58, 97, 44, 57, 56, 59] (by decide) rec_odd
  rw [forms_cons, forms_nil, List.append_nil, form_ab] at h
  exact h
theorem small_plain : ∃ D1 D2 D3 D4 D5, jopen new 3 = (some [], 0, D1) ∧ jappend D1 ⟨3, [], false⟩ [97, 98] = (0, D2, ⟨3, [[97, 98]], false⟩) ∧ jappend D2 ⟨3, [[97, 98]], false⟩ [] = (0, D3, ⟨3, [[97, 98], []], false⟩) ∧
    D3.read 3 0 99 = ([50, 58, 97, 98, 44, 50, 57, 51, 59, 48, 58, 44, 48, 59], 0) ∧ D3.write 4 0 [50, 58, 97, 98, 44, 50, 57, 51, 59, 49, 58, 97, 44, 57, 56, 59] = (0, D4) ∧ jopen D4 4 = (some [[97, 98]], 0, D5) ∧ D5.size 4 = 9 := by
  obtain ⟨D1, o1, q1, g1, s1, n1⟩ := open_quiet good_new quiet_new (f := 3) (by decide)
  have e1 : recs (new.now 3) = [] := rfl
  rw [e1] at o1 s1
  have hf1 := form_ab
  have hf2 := form_no
  obtain ⟨D2, o2, q2, g2, m2, n2, _⟩ := append_quiet g1 q1 (J := ⟨3, [], false⟩) (f := 3) (by decide) rfl rfl s1.now (s := [97, 98]) (by decide) (by rw [hf1]; decide)
  obtain ⟨D3, o3, q3, g3, m3, n3, _⟩ := append_quiet g2 q2 (J := ⟨3, [[97, 98]], false⟩) (f := 3) (by decide) rfl rfl m2 (s := []) (by decide) (by simp only; rw [forms_cons, forms_nil, List.append_nil, hf1, hf2]; decide)
  obtain ⟨D4, o4, q4, g4, m4, _, _⟩ := write_quiet g3 q3 (f := 4) (a := 0) (by decide) (s := [50, 58, 97, 98, 44, 50, 57, 51, 59, 49, 58, 97, 44, 57, 56, 59]) (by decide)
  have z : D3.now 4 = [] := by rw [n3 4 (by decide), n2 4 (by decide), n1 4 (by decide)]; rfl
  rw [z, putN_nil] at m4
  obtain ⟨D5, o5, q5, g5, s5, _⟩ := open_quiet g4 q4 (f := 4) (by decide)
  rw [m4, recs_odd] at o5 s5
  have h3 : D3.now 3 = [50, 58, 97, 98, 44, 50, 57, 51, 59, 48, 58, 44, 48, 59] := by
    rw [m3]
    show form [97, 98] ++ (form [] ++ []) = _
    rw [hf1, hf2]
    rfl
  refine ⟨D1, D2, D3, D4, D5, o1, o2, o3, ?_, o4, o5, ?_⟩
  · have h33 : D3.now (3 : Int).toNat = _ := h3
    have := read_all (f := 3) (n := 99) q3.up (isFile_nat (f := 3) (by decide)) (by rw [h33]; decide)
    rw [h33] at this
    exact this
  · have h44 : D5.now (4 : Int).toNat = _ := s5.now
    have i4 : isFile 4 = true := isFile_nat (f := 4) (by decide)
    unfold Dk.size
    rw [i4, if_pos rfl, h44, forms_cons, forms_nil, List.append_nil, hf1]
    rfl
theorem sum_e : jsum [] = 0 ∧ jsum [97] = 97 ∧ jsum [97, 98] = 293 := by decide

set_option maxHeartbeats 4000000 in
set_option maxRecDepth 100000 in
theorem small_any (w : World) (he : Env w) : Calls Tryz.prog 4 #[] w fun e w' => e = .returned (.bool true) ∧ Below w.heap.size w w' := by
  obtain ⟨D1, D2, D3, D4, D5, p1, p2, p3, p4, p5, p6, p7⟩ := small_plain
  have P1 := Lib.hid p1
  have P2 := Lib.hid p2
  have P3 := Lib.hid p3
  have P4 := Lib.hid p4
  have P5 := Lib.hid p5
  have P6 := Lib.hid p6
  have P7 := Lib.hid p7
  clear p1 p2 p3 p4 p5 p6 p7
  go_enter Tryz.func4, Tryz.ntmps4
  go_wp2_with (go_at_call 6; refine (o_new (OMem.start w)).mono ?_; rintro e w1 ⟨d, rfl, m⟩; refine Hid.out ?_)
  refine Lib.hid ?_
  have M1 := Lib.hid (show OMem w w1 [.disk d new] from m)
  clear m
  go_wp2_with (go_at_call 8; refine (o_open1 (i := 0) M1.out rfl 3 ⟨by decide, by decide⟩ he P1.out).mono ?_; rintro e w2 ⟨b, rfl, m⟩; refine Hid.out ?_)
  refine Lib.hid ?_
  have M2 := Lib.hid (show OMem w w2 [.disk d D1, .jour b d ⟨3, [], false⟩] from m)
  clear m M1
  go_wp2_with (go_at_call 12; refine (o_append1 (i := 0) (k := 1) M2.out rfl rfl (by decide) [97, 98] (M2.out.env he) P2.out).mono ?_; rintro e w3 ⟨rfl, m⟩; refine Hid.out ?_)
  refine Lib.hid ?_
  have M3 := Lib.hid (show OMem w w3 [.disk d D2, .jour b d ⟨3, [[97, 98]], false⟩] from m)
  clear m M2
  go_wp2_with (go_at_call 12; refine (o_append1 (i := 0) (k := 1) M3.out rfl rfl (by decide) [] (M3.out.env he) P3.out).mono ?_; rintro e w4 ⟨rfl, m⟩; refine Hid.out ?_)
  refine Lib.hid ?_
  have M4 := Lib.hid (show OMem w w4 [.disk d D3, .jour b d ⟨3, [[97, 98], []], false⟩] from m)
  clear m M3
  go_wp2_with (go_at_call 26; refine (o_read2 (i := 0) M4.out rfl 3 0 99 ⟨by decide, by decide⟩ I64.zero ⟨by decide, by decide⟩ P4.out ⟨#[50, 58, 97, 98, 44, 50, 57, 51, 59, 48, 58, 44, 48, 59]⟩ rfl).mono ?_; rintro e w5 ⟨rfl, m⟩; refine Hid.out ?_)
  refine Lib.hid ?_
  have M5 := Lib.hid m
  clear m M4
  go_wp2_with (go_at_call 30; refine (o_write1 (i := 0) M5.out rfl 4 0 [50, 58, 97, 98, 44, 50, 57, 51, 59, 49, 58, 97, 44, 57, 56, 59] ⟨by decide, by decide⟩ I64.zero (by decide) P5.out).mono ?_; rintro e w6 ⟨rfl, m⟩; refine Hid.out ?_)
  refine Lib.hid ?_
  have M6 := Lib.hid (show OMem w w6 [.disk d D4, .jour b d ⟨3, [[97, 98], []], false⟩] from m)
  clear m M5
  go_wp2_with (go_at_call 8; refine (o_open1 (i := 0) M6.out rfl 4 ⟨by decide, by decide⟩ he P6.out).mono ?_; rintro e w7 ⟨c, rfl, m⟩; refine Hid.out ?_)
  refine Lib.hid ?_
  have M7 := Lib.hid (show OMem w w7 [.disk d D5, .jour b d ⟨3, [[97, 98], []], false⟩, .jour c d ⟨4, [[97, 98]], false⟩] from m)
  clear m M6
  go_wp2_with (go_at_call 10; refine (sum_any [] (by decide) _).mono ?_; rintro e w8 ⟨rfl, rfl⟩; refine Hid.out ?_)
  refine Lib.hid ?_
  rw [sum_e.1]
  go_wp2_with (go_at_call 10; refine (sum_any [97] (by decide) _).mono ?_; rintro e w8 ⟨rfl, rfl⟩; refine Hid.out ?_)
  refine Lib.hid ?_
  rw [sum_e.2.1]
  go_wp2_with (go_at_call 10; refine (sum_any [97, 98] (by decide) _).mono ?_; rintro e w8 ⟨rfl, rfl⟩; refine Hid.out ?_)
  refine Lib.hid ?_
  rw [sum_e.2.2]
  go_wp2_with (go_at_call 31; refine (o_len1 (k := 1) M7.out rfl 2 rfl).mono ?_; rintro e w8 ⟨rfl, rfl⟩; refine Hid.out ?_)
  refine Lib.hid ?_
  go_wp2_with (go_at_call 32; refine (o_get1 (k := 1) M7.out rfl 0 I64.zero ⟨#[97, 98]⟩ rfl).mono ?_; rintro e w8 ⟨rfl, rfl⟩; refine Hid.out ?_)
  refine Lib.hid ?_
  go_wp2_with (go_at_call 25; refine (o_all (k := 2) M7.out rfl).mono ?_; rintro e w8 ⟨v, rfl, m⟩; refine Hid.out ?_)
  refine Lib.hid ?_
  have M8 := Lib.hid (show OMem w w8 [.disk d D5, .jour b d ⟨3, [[97, 98], []], false⟩, .jour c d ⟨4, [[97, 98]], false⟩, .own 9 v (strVs [[97, 98]])] from m)
  clear m M7
  have T1 := Lib.hid (texts_fresh (M8.out.texts (i := 3) rfl) (below_alloc w8 (.cells #[.string (bs [97, 98])] 9)))
  have T2 := Lib.hid (texts_one w8 [97, 98] 9)
  go_wp2_with (go_at_call 24; refine (sameTexts_any _ _ [[97, 98]] [[97, 98]] (by decide) _ T1.out T2.out).mono ?_; rintro e w9 ⟨rfl, b9⟩; refine Hid.out ?_)
  refine Lib.hid ?_
  have m9 := (M8.out.fresh (below_alloc w8 (.cells #[.string (bs [97, 98])] 9))).fresh b9
  have M9 := Lib.hid m9
  clear m9 b9 M8
  go_wp2_with (go_at_call 27; refine (o_size1 (i := 0) M9.out rfl 4 ⟨by decide, by decide⟩ P7.out).mono ?_; rintro e w10 ⟨rfl, rfl⟩; refine Hid.out ?_)
  refine Lib.hid ?_
  go_wp2
  go_ret
  exact ⟨rfl, M9.out.below⟩
end Go.Proofs.YtjbcgahdiolhhaaGreatDoor.D2
namespace Go.Proofs.YtjbcgahdiolhhaaGreatDoor.D2
open Go.RowKit Go.Maps Go.ChangeMaps Go.MapKept
open Dp Jp
attribute [local go_sem ↓] Go.wp_at_zero Go.wp_at_succ

/-- An operation. -/
structure Op1 where
  K : Int
  S : List UInt8
  N : Int
  Keep : List Int
structure Op1.Ok (x : Op1) : Prop where
  K : I64 x.K
  N : I64 x.N
  Keep : ∀ z ∈ x.Keep, I64 z
structure OCells (w : World) (b o : Nat) (x : Op1) (vk : Value) : Prop where
  c0 : w.cell? ⟨b, o, none⟩ = some (.int .i64 x.K)
  c1 : w.cell? ⟨b, o + 1, none⟩ = some (.string (bs x.S))
  c2 : w.cell? ⟨b, o + 2, none⟩ = some (.int .i64 x.N)
  c3 : w.cell? ⟨b, o + 3, none⟩ = some vk
def OpsIn (w : World) (a : Option Addr) (xs : List Op1) : Prop :=
  xs = [] ∨ ∃ b off, a = some ⟨b, off, none⟩ ∧ ∀ i x, xs[i]? = some x → ∃ vk, OCells w b (off + i * 4) x vk ∧ SrcIs w 1 vk x.Keep.length (intVs x.Keep)

def FewO1 (x : Op1) : Prop := x.S.length ≤ 200 ∧ x.Keep.length ≤ 50
open Classical in
noncomputable def fewO (xs : List Op1) : Bool := decide (xs.length ≤ 25 ∧ ∀ x ∈ xs, FewO1 x)
theorem fewO_true {xs : List Op1} (h : fewO xs = true) : xs.length ≤ 25 ∧ ∀ x ∈ xs, FewO1 x := by simpa [fewO] using h
theorem fewO_not {xs : List Op1} (h : ¬ (xs.length ≤ 25 ∧ ∀ x ∈ xs, FewO1 x)) : fewO xs = false := by
  unfold fewO; rw [decide_eq_false_iff_not]; exact h
theorem fewO_eq {xs : List Op1} (h : ∀ x ∈ xs, FewO1 x) : fewO xs = decide ((xs.length : Int) ≤ 25) := by
  unfold fewO
  rw [decide_eq_decide]
  exact ⟨fun q => by have := q.1; omega, fun q => ⟨by omega, h⟩⟩
theorem OpsIn.keep {w w' : World} {a : Option Addr} {xs : List Op1} (h : OpsIn w a xs) (hb : Below w.heap.size w w') : OpsIn w' a xs := by
  rcases h with h | ⟨b, off, h1, h2⟩
  · exact .inl h
  · refine .inr ⟨b, off, h1, fun i x hx => ?_⟩
    obtain ⟨vk, h3, h4⟩ := h2 i x hx
    exact ⟨vk, ⟨below_cell h3.c0 hb, below_cell h3.c1 hb, below_cell h3.c2 hb, below_cell h3.c3 hb⟩, src_keep h4 hb⟩
theorem OpsIn.get {w : World} {a : Option Addr} {xs : List Op1} (h : OpsIn w a xs) {i : Nat} {x : Op1} (hx : xs[i]? = some x) : ∃ b off vk, a = some ⟨b, off, none⟩ ∧ OCells w b (off + i * 4) x vk ∧ SrcIs w 1 vk x.Keep.length (intVs x.Keep) := by
  rcases h with h | ⟨b, off, h1, h2⟩
  · subst h; simp at hx
  · obtain ⟨vk, h3, h4⟩ := h2 i x hx
    exact ⟨b, off, vk, h1, h3, h4⟩
/-- The operations that came in. -/
structure OArgs (w0 : World) (a : Option Addr) (xs : List Op1) : Prop where
  at_ : OpsIn w0 a xs
  ok : ∀ x ∈ xs, x.Ok
theorem nums_src {w : World} {v : Value} {ks : List Int} (h : SrcIs w 1 v ks.length (intVs ks)) (hk : ∀ z ∈ ks, I64 z) : Nums w w v ks := by
  refine ⟨h, hk, fun ad n c hv hn => ?_⟩
  rcases h.2 with ⟨h1, _⟩ | ⟨ad', cap, h1, h2, _⟩
  · rw [h1] at hv; cases hv
  · rw [h1] at hv
    cases hv
    rcases ks with _ | ⟨z, ks⟩
    · simp at hn
    · have := Lib.lt_of_cell (h2 0 (.int .i64 z) rfl)
      have hb : (ad.add 0).block = ad.block := by cases ad; unfold Addr.add; split <;> rfl
      rwa [hb] at this
theorem OArgs.get {w0 w : World} {a : Option Addr} {xs : List Op1} (h : OArgs w0 a xs) (hb : Below w0.heap.size w0 w) {i : Nat} {x : Op1} (hx : xs[i]? = some x) :
    ∃ b off va vc, a = some ⟨b, off, none⟩ ∧ OCells w b (off + i * 4) x (.slice va x.Keep.length vc) ∧ Nums w0 w (.slice va x.Keep.length vc) x.Keep ∧ x.Ok := by
  obtain ⟨b, off, vk, h1, h2, h3⟩ := h.at_.get hx
  have hk := h.ok x (List.mem_of_getElem? hx)
  obtain ⟨va, vc, rfl⟩ := src_form h3
  exact ⟨b, off, va, vc, h1, ⟨below_cell h2.c0 hb, below_cell h2.c1 hb, below_cell h2.c2 hb, below_cell h2.c3 hb⟩, (nums_src h3 hk.Keep).to hb, hk⟩
set_option maxHeartbeats 2000000 in
set_option maxRecDepth 100000 in
theorem fewO_any (a : Option Addr) (cap : Nat) (xs : List Op1) (w : World) (hlen : xs.length ≤ 9223372036854775807) (h : OpsIn w a xs) :
    Calls Tryz.prog 5 #[.slice a xs.length cap] w fun e w' => e = .returned (.bool (fewO xs)) ∧ w = w' := by
  have HX := Lib.hid h
  clear h
  go_enter Tryz.func5, Tryz.ntmps5
  go_wp2
  go_loop [3] (fun i => ∃ k : Nat, k ≤ xs.length ∧ i = .int .i64 (k : Int) ∧ Hid (∀ j x, j < k → xs[j]? = some x → FewO1 x)) (fun i => xs.length - (intOf i).toNat)
  case atStart => exact ⟨0, Nat.zero_le _, rfl, Lib.hid fun j x hj => absurd hj (Nat.not_lt_zero j)⟩
  case round =>
    obtain ⟨k, hk, rfl, HS⟩ := hrel
    by_cases hlt : k < xs.length
    · obtain ⟨x, hx⟩ : ∃ x, xs[k]? = some x := ⟨_, List.getElem?_eq_getElem hlt⟩
      obtain ⟨b, off, vk, rfl, hc, hs⟩ := HX.out.get hx
      obtain ⟨ka, kc, rfl⟩ := src_form hs
      obtain ⟨_, c1, _, c3⟩ := hc
      have hm := List.mem_of_getElem? hx
      have HXX := Lib.hid hx
      have hsz : ((bs x.S).size : Int) = (x.S.length : Int) := by rw [bs_size]
      have HSZ := Lib.hid hsz
      clear hx hs hsz
      by_cases b1 : 200 < (bs x.S).size
      · have HF := Lib.hid (fewO_not (xs := xs) (fun h => by have := (h.2 x hm).1; have := HSZ.out; omega))
        go_wp2
        go_ret
        exact ⟨ret_bool HF.out.symm, rfl⟩
      by_cases b2 : 50 < x.Keep.length
      · have HF := Lib.hid (fewO_not (xs := xs) (fun h => by have := (h.2 x hm).2; omega))
        go_wp2
        go_ret
        exact ⟨ret_bool HF.out.symm, rfl⟩
      have HF := Lib.hid (show FewO1 x from ⟨by have := HSZ.out; omega, by omega⟩)
      go_wp2
      go_round
      case rel =>
        refine ⟨k + 1, by omega, by go_num, Lib.hid fun j y hj hy => ?_⟩
        by_cases he : j = k
        · subst he; rw [HXX.out] at hy; cases hy; exact HF.out
        · exact HS.out j y (by omega) hy
      case measure => simp [intOf]; omega
    · have HF := Lib.hid (fewO_eq (xs := xs) fun x hx => by
        obtain ⟨j, hj, rfl⟩ := List.mem_iff_getElem.1 hx
        exact HS.out j _ (by omega) (List.getElem?_eq_getElem hj))
      go_wp2
      go_ret
      exact ⟨ret_bool HF.out.symm, rfl⟩

/-! ### texts, begins, disky -/
def fewT (ts : List (List UInt8)) : Bool := decide (ts.length ≤ 8 ∧ ∀ t ∈ ts, t.length ≤ 200)
theorem fewT_true {ts : List (List UInt8)} (h : fewT ts = true) : ts.length ≤ 8 ∧ ∀ t ∈ ts, t.length ≤ 200 := by simpa [fewT] using h
theorem fewT_not {ts : List (List UInt8)} (h : ¬ (ts.length ≤ 8 ∧ ∀ t ∈ ts, t.length ≤ 200)) : fewT ts = false := by
  unfold fewT; rw [decide_eq_false_iff_not]; exact h
theorem fewT_eq {ts : List (List UInt8)} (h : ∀ t ∈ ts, t.length ≤ 200) : fewT ts = decide ((ts.length : Int) ≤ 8) := by
  unfold fewT
  rw [decide_eq_decide]
  exact ⟨fun q => by have := q.1; omega, fun q => ⟨by omega, h⟩⟩
theorem texts_at {w : World} {v : Value} {ts : List (List UInt8)} (h : TextsAt w v ts) : ∃ a cap, v = .slice a ts.length cap ∧ ∀ k x, ts[k]? = some x → ∃ b off, a = some ⟨b, off, none⟩ ∧ w.cell? ⟨b, off + k, none⟩ = some (.string (bs x)) := by
  obtain ⟨a, cap, h1, h2⟩ := h
  refine ⟨a, cap, h1, fun k x hk => ?_⟩
  obtain ⟨hlt, he⟩ := List.getElem?_eq_some_iff.1 hk
  rcases h2 with rfl | ⟨b, off, h3, _, h5⟩
  · simp at hlt
  · refine ⟨b, off, h3, ?_⟩
    have := h5 k hlt
    rw [List.getD_eq_getElem?_getD, hk] at this
    exact this
def isDisky (e : Int) : Bool := decide (e = 8) || decide (e = 9)
theorem texts_take {w : World} {a : Option Addr} {n cap : Nat} {ts : List (List UInt8)} (h : TextsAt w (.slice a n cap) ts) {m : Nat} (hm : m ≤ ts.length) (cap' : Nat) : TextsAt w (.slice a m cap') (ts.take m) := by
  obtain ⟨a', c, h1, h2⟩ := h
  simp only [Value.slice.injEq] at h1
  obtain ⟨rfl, _, _⟩ := h1
  refine ⟨a, cap', by rw [List.length_take, Nat.min_eq_left hm], ?_⟩
  rcases h2 with rfl | ⟨b, off, h3, h4, h5⟩
  · exact .inl (by simp)
  · refine .inr ⟨b, off, h3, h4, fun k hk => ?_⟩
    rw [List.length_take] at hk
    rw [h5 k (by omega), List.getD_eq_getElem?_getD, List.getD_eq_getElem?_getD, List.getElem?_take_of_lt (by omega)]
def beginsB (l a : List (List UInt8)) : Bool := decide (l.take a.length = a)
theorem beginsB_eq {l a : List (List UInt8)} : beginsB l a = decide (l.take a.length = a) := rfl
theorem beginsB_true {l a : List (List UInt8)} (h : a <+: l) : beginsB l a = true := decide_eq_true (List.prefix_iff_eq_take.1 h).symm
end Go.Proofs.YtjbcgahdiolhhaaGreatDoor.D2
