/- Clauses of two literals: assignments, refutations, what follows, the first assignment. No Go. -/
import Init
namespace Go.Proofs.Ytapgcahbccchfaa
namespace St
abbrev Cl := Int × Int
def opp (x : Int) : Int := x + 1 - 2 * (x % 2)
def tru (vs : List Bool) (x : Int) : Bool := (vs.getD (x / 2).toNat false) == decide (x % 2 = 0)
def right (l : List Cl) (n : Int) : Bool := decide ((0 ≤ n ∧ n ≤ 400) ∧ l.length ≤ 4000 ∧ ∀ c ∈ l, (0 ≤ c.1 ∧ c.1 < 2 * n) ∧ (0 ≤ c.2 ∧ c.2 < 2 * n))
def sat (l : List Cl) (vs : List Bool) : Bool := l.all fun c => tru vs c.1 || tru vs c.2
def check (l : List Cl) (n : Int) (vs : List Bool) : Bool := right l n && decide ((vs.length : Int) = n) && sat l vs
def impl (l : List Cl) (a b : Int) : Bool := l.any fun c => (c.1 == opp a && c.2 == b) || (c.2 == opp a && c.1 == b)
def ring (l : List Cl) (cy : List Int) : Bool := (List.range cy.length).all fun i => impl l (cy.getD i 0) (cy.getD ((i + 1) % cy.length) 0)
def both (cy : List Int) : Bool := cy.any fun x => cy.contains (opp x)
def lits (n : Int) (xs : List Int) : Bool := decide (∀ x ∈ xs, 0 ≤ x ∧ x < 2 * n)
def refute (l : List Cl) (n : Int) (cy : List Int) : Bool := right l n && decide (1 ≤ cy.length ∧ (cy.length : Int) ≤ 4 * n) && lits n cy && ring l cy && both cy
theorem right_iff {l : List Cl} {n : Int} : right l n = true ↔ (0 ≤ n ∧ n ≤ 400) ∧ l.length ≤ 4000 ∧ ∀ c ∈ l, (0 ≤ c.1 ∧ c.1 < 2 * n) ∧ (0 ≤ c.2 ∧ c.2 < 2 * n) := decide_eq_true_iff
theorem lits_iff {n : Int} {xs : List Int} : lits n xs = true ↔ ∀ x ∈ xs, 0 ≤ x ∧ x < 2 * n := decide_eq_true_iff
theorem check_iff {l : List Cl} {n : Int} {vs : List Bool} : check l n vs = true ↔ right l n = true ∧ (vs.length : Int) = n ∧ sat l vs = true := by
  unfold check; rw [Bool.and_eq_true, Bool.and_eq_true, decide_eq_true_iff, and_assoc]
theorem sat_iff {l : List Cl} {vs : List Bool} : sat l vs = true ↔ ∀ c ∈ l, tru vs c.1 = true ∨ tru vs c.2 = true := by
  unfold sat; rw [List.all_eq_true]; simp only [Bool.or_eq_true]
theorem sat_app {l m : List Cl} {vs : List Bool} : sat (l ++ m) vs = (sat l vs && sat m vs) := List.all_append
theorem right_app {l m : List Cl} {n : Int} (h : right l n = true) (hl : l.length + m.length ≤ 4000) (hm : ∀ c ∈ m, (0 ≤ c.1 ∧ c.1 < 2 * n) ∧ (0 ≤ c.2 ∧ c.2 < 2 * n)) : right (l ++ m) n = true := by
  have h := right_iff.1 h
  refine right_iff.2 ⟨h.1, by rw [List.length_append]; omega, fun c hc => ?_⟩
  rcases List.mem_append.1 hc with q | q
  · exact h.2.2 c q
  · exact hm c q
theorem opp_opp (x : Int) : opp (opp x) = x := by unfold opp; omega
theorem opp_half (x : Int) : opp x / 2 = x / 2 ∧ opp x % 2 = 1 - x % 2 := by unfold opp; omega
theorem opp_lit {n x : Int} (h : 0 ≤ x ∧ x < 2 * n) : 0 ≤ opp x ∧ opp x < 2 * n := by unfold opp; omega
theorem tru_opp (vs : List Bool) (x : Int) : tru vs (opp x) = !tru vs x := by
  have h := opp_half x
  unfold tru
  rw [h.1, h.2]
  have h2 : x % 2 = 0 ∨ x % 2 = 1 := by omega
  rcases h2 with e | e <;> rw [e] <;> cases vs.getD (x / 2).toNat false <;> rfl
theorem impl_tru {l : List Cl} {vs : List Bool} {a b : Int} (hs : sat l vs = true) (h : impl l a b = true) (ha : tru vs a = true) : tru vs b = true := by
  unfold impl at h
  rw [List.any_eq_true] at h
  obtain ⟨c, hc, h⟩ := h
  have h1 := sat_iff.1 hs c hc
  have h2 := tru_opp vs a
  rw [ha] at h2
  simp only [Bool.or_eq_true, Bool.and_eq_true, beq_iff_eq] at h
  rcases h with ⟨e1, e2⟩ | ⟨e1, e2⟩
  · rw [e1, e2, h2] at h1; simpa using h1
  · rw [e1, e2, h2] at h1; simpa using h1
theorem impl_lit {l : List Cl} {n a b : Int} (hr : right l n = true) (h : impl l a b = true) : (0 ≤ b ∧ b < 2 * n) ∧ (0 ≤ a ∧ a < 2 * n) := by
  unfold impl at h
  rw [List.any_eq_true] at h
  obtain ⟨c, hc, h⟩ := h
  have h1 := (right_iff.1 hr).2.2 c hc
  have h2 := opp_opp a
  simp only [Bool.or_eq_true, Bool.and_eq_true, beq_iff_eq] at h
  rcases h with ⟨e1, e2⟩ | ⟨e1, e2⟩
  · rw [e1, e2] at h1; exact ⟨h1.2, h2 ▸ opp_lit h1.1⟩
  · rw [e1, e2] at h1; exact ⟨h1.1, h2 ▸ opp_lit h1.2⟩
theorem impl_back {l : List Cl} {a b : Int} (h : impl l a b = true) : impl l (opp b) (opp a) = true := by
  unfold impl at h ⊢
  rw [List.any_eq_true] at h ⊢
  obtain ⟨c, hc, h⟩ := h
  refine ⟨c, hc, ?_⟩
  rw [opp_opp]
  simp only [Bool.or_eq_true, Bool.and_eq_true, beq_iff_eq] at h ⊢
  rcases h with ⟨e1, e2⟩ | ⟨e1, e2⟩
  · exact .inr ⟨e2, e1⟩
  · exact .inl ⟨e2, e1⟩
/-- All around a ring the same. -/
theorem ring_tru {l : List Cl} {vs : List Bool} {cy : List Int} (hs : sat l vs = true) (hr : ring l cy = true) {i : Nat} (hi : i < cy.length) (h : tru vs (cy.getD i 0) = true) (k : Nat) : tru vs (cy.getD ((i + k) % cy.length) 0) = true := by
  induction k with
  | zero => rwa [Nat.add_zero, Nat.mod_eq_of_lt hi]
  | succ k ih =>
    unfold ring at hr
    rw [List.all_eq_true] at hr
    have := hr ((i + k) % cy.length) (List.mem_range.2 (Nat.mod_lt _ (by omega)))
    rw [Nat.mod_add_mod] at this
    exact impl_tru hs this ih
theorem ring_all {l : List Cl} {vs : List Bool} {cy : List Int} (hs : sat l vs = true) (hr : ring l cy = true) {i j : Nat} (hi : i < cy.length) (hj : j < cy.length) (h : tru vs (cy.getD i 0) = true) : tru vs (cy.getD j 0) = true := by
  have := ring_tru hs hr hi h (j + cy.length - i)
  rwa [show i + (j + cy.length - i) = j + cy.length by omega, Nat.add_mod_right, Nat.mod_eq_of_lt hj] at this
theorem getD_of {α : Type} {l : List α} {d a : α} (h : a ∈ l) : ∃ i, i < l.length ∧ l.getD i d = a := by
  obtain ⟨i, hi, rfl⟩ := List.mem_iff_getElem.1 h
  exact ⟨i, hi, by simp [List.getD, List.getElem?_eq_getElem hi]⟩
theorem never_both {l : List Cl} {n : Int} {vs : List Bool} {cy : List Int} (h : check l n vs = true) (k : refute l n cy = true) : False := by
  have hs := (check_iff.1 h).2.2
  unfold refute at k
  rw [Bool.and_eq_true, Bool.and_eq_true] at k
  obtain ⟨⟨_, hr⟩, hb⟩ := k
  unfold both at hb
  rw [List.any_eq_true] at hb
  obtain ⟨x, hx, hc⟩ := hb
  rw [List.contains_iff_mem] at hc
  obtain ⟨i, hi, e1⟩ := getD_of (d := 0) hx
  obtain ⟨j, hj, e2⟩ := getD_of (d := 0) hc
  have ho := tru_opp vs x
  cases ht : tru vs x with
  | true =>
    have := ring_all hs hr hi hj (by rw [e1]; exact ht)
    rw [e2, ho, ht] at this; cases this
  | false =>
    have := ring_all hs hr hj hi (by rw [e2, ho, ht]; rfl)
    rw [e1, ht] at this; cases this
theorem check_not {l : List Cl} {n : Int} {vs : List Bool} {cy : List Int} (h : refute l n cy = true) : check l n vs = false := by
  cases hc : check l n vs with
  | false => rfl
  | true => exact (never_both hc h).elim
theorem refute_not {l : List Cl} {n : Int} {vs : List Bool} {cy : List Int} (h : check l n vs = true) : refute l n cy = false := by
  cases hc : refute l n cy with
  | false => rfl
  | true => exact (never_both h hc).elim

/-! ### The first assignment -/
structure Fst (l : List Cl) (n : Int) (a : List Bool) : Prop where
  ok : check l n a = true
  least : ∀ b, check l n b = true → ∀ k, a.take k = b.take k → a[k]? = some true → b[k]? = some true
def Can (l : List Cl) (n : Int) : Prop := ∃ vs, check l n vs = true
theorem len_of {l : List Cl} {n : Int} {a : List Bool} (h : check l n a = true) : (a.length : Int) = n := (check_iff.1 h).2.1
theorem Fst.unique {l : List Cl} {n : Int} {a b : List Bool} (h : Fst l n a) (k : Fst l n b) : a = b := by
  have e1 := len_of h.ok
  have e2 := len_of k.ok
  have : ∀ j, a.take j = b.take j := by
    intro j
    induction j with
    | zero => rfl
    | succ j ih =>
      rw [List.take_add_one, List.take_add_one, ih]
      congr 1
      by_cases hj : j < a.length
      · have ha := List.getElem?_eq_getElem hj
        have hb := List.getElem?_eq_getElem (show j < b.length by omega)
        rw [ha, hb]
        cases q : a[j] with
        | true =>
          have := h.least b k.ok j ih (by rw [ha, q])
          rw [hb] at this; rw [Option.some.inj this]
        | false =>
          cases q2 : b[j]'(by omega) with
          | true =>
            have := k.least a h.ok j ih.symm (by rw [hb, q2])
            rw [ha, q] at this; cases this
          | false => rfl
      · rw [List.getElem?_eq_none (by omega), List.getElem?_eq_none (by omega)]
  have h2 := this (a.length + b.length)
  rwa [List.take_of_length_le (by omega), List.take_of_length_le (by omega)] at h2
theorem Fst.can {l : List Cl} {n : Int} {a : List Bool} (h : Fst l n a) : Can l n := ⟨a, h.ok⟩
/-- What Solve answers. -/
def Solved (l : List Cl) (n : Int) (vs : List Bool) (cy : List Int) (er : Int) : Prop :=
  (right l n = false ∧ vs = [] ∧ cy = [] ∧ er = 1) ∨ (Fst l n vs ∧ cy = [] ∧ er = 0) ∨ (right l n = true ∧ ¬ Can l n ∧ vs = [] ∧ refute l n cy = true ∧ er = 17)

/-! ### What follows, what is forced -/
open Classical in
noncomputable def follows (l : List Cl) (n : Int) (xs : List Int) : Bool := right l n && lits n xs && decide (∀ vs, check l n vs = true → ∃ x ∈ xs, tru vs x = true)
open Classical in
theorem follows_iff {l : List Cl} {n : Int} {xs : List Int} : follows l n xs = true ↔ right l n = true ∧ lits n xs = true ∧ ∀ vs, check l n vs = true → ∃ x ∈ xs, tru vs x = true := by
  unfold follows; rw [Bool.and_eq_true, Bool.and_eq_true, decide_eq_true_iff, and_assoc]
noncomputable def forc (l : List Cl) (n : Int) (v : Nat) : Int := if follows l n [2 * (v : Int)] = true then 1 else if follows l n [2 * (v : Int) + 1] = true then 0 else -1
open Classical in
/-- What Forced answers. -/
noncomputable def forced (l : List Cl) (n : Int) : List Int × Int := if right l n = true then (if Can l n then ((List.range n.toNat).map (forc l n), 0) else ([], 17)) else ([], 1)
end St
end Go.Proofs.Ytapgcahbccchfaa
