/- Clauses of two literals: what a literal leads to, closed sets of literals, what makes an assignment the first one, rings out of paths. No Go. -/
import Derived.Test.YtapgcahbccchfaaSatF
namespace Go.Proofs.Ytapgcahbccchfaa
namespace St
/-- What a literal leads to. -/
inductive Reach (l : List Cl) (a : Int) : Int → Prop
  | here : Reach l a a
  | step {b c : Int} : Reach l a b → impl l b c = true → Reach l a c
theorem Reach.trans {l : List Cl} {a b c : Int} (h : Reach l a b) (k : Reach l b c) : Reach l a c := by
  induction k with
  | here => exact h
  | step _ hi ih => exact ih.step hi
theorem Reach.one {l : List Cl} {a b : Int} (h : impl l a b = true) : Reach l a b := Reach.here.step h
theorem Reach.tru {l : List Cl} {vs : List Bool} {a b : Int} (hs : sat l vs = true) (h : Reach l a b) (ha : tru vs a = true) : St.tru vs b = true := by
  induction h with
  | here => exact ha
  | step _ hi ih => exact impl_tru hs hi ih
theorem Reach.back {l : List Cl} {a b : Int} (h : Reach l a b) : Reach l (opp b) (opp a) := by
  induction h with
  | here => exact .here
  | step _ hi ih => exact (Reach.one (impl_back hi)).trans ih
theorem Reach.lit {l : List Cl} {n a b : Int} (hr : right l n = true) (h : Reach l a b) (ha : 0 ≤ a ∧ a < 2 * n) : 0 ≤ b ∧ b < 2 * n := by
  induction h with
  | here => exact ha
  | step _ hi _ => exact (impl_lit hr hi).1
/-- A literal that leads to its opposite, and back: no assignment. -/
theorem bad_not {l : List Cl} {n x : Int} (h : Reach l x (opp x)) (k : Reach l (opp x) x) : ¬ Can l n := by
  rintro ⟨vs, hc⟩
  have hs := (check_iff.1 hc).2.2
  have ho := tru_opp vs x
  cases ht : St.tru vs x with
  | true => have := h.tru hs ht; rw [ho, ht] at this; cases this
  | false => rw [ht] at ho; have := k.tru hs ho; rw [ht] at this; cases this

/-! ### Closed sets of literals -/
def Closed (l : List Cl) (T : Int → Prop) : Prop := ∀ x y, T x → impl l x y = true → T y
def Apart (T : Int → Prop) : Prop := ∀ x, T x → ¬ T (opp x)
theorem Closed.reach {l : List Cl} {T : Int → Prop} (h : Closed l T) {x y : Int} (hx : T x) (k : Reach l x y) : T y := by
  induction k with
  | here => exact hx
  | step _ hi ih => exact h _ _ ih hi
/-- Where what z leads to meets the opposite of what holds, or of itself, z leads to its own opposite. -/
theorem conflict {l : List Cl} {T : Int → Prop} (h : Closed l T) {z x : Int} (hz : ¬ T (opp z)) (hx : Reach l z x) (hc : T (opp x) ∨ Reach l z (opp x)) : Reach l z (opp z) := by
  rcases hc with hc | hc
  · exact (hz (h.reach hc hx.back)).elim
  · have := hc.back
    rw [opp_opp] at this
    exact hx.trans this
/-- One literal more, with all that it leads to. -/
theorem extend {l : List Cl} {T : Int → Prop} (h : Closed l T) (ha : Apart T) {z : Int} (hz : ¬ T (opp z)) (hn : ¬ Reach l z (opp z)) :
    Closed l (fun x => T x ∨ Reach l z x) ∧ Apart (fun x => T x ∨ Reach l z x) := by
  refine ⟨fun x y hx hi => hx.imp (fun q => h x y q hi) (fun q => q.step hi), fun x hx hq => ?_⟩
  rcases hx with hx | hx
  · rcases hq with hq | hq
    · exact ha x hx hq
    · exact hn (conflict h hz hq (.inl (by rw [opp_opp]; exact hx)))
  · exact hn (conflict h hz hx hq)
/-- Whole and closed: it satisfies. -/
theorem closed_sat {l : List Cl} {n : Int} {vs : List Bool} (hr : right l n = true) (h : ∀ x y, (0 ≤ x ∧ x < 2 * n) → tru vs x = true → impl l x y = true → tru vs y = true) : sat l vs = true := by
  rw [sat_iff]
  intro c hc
  cases ht : tru vs c.1 with
  | true => exact .inl rfl
  | false =>
    refine .inr (h (opp c.1) c.2 (opp_lit ((right_iff.1 hr).2.2 c hc).1) (by rw [tru_opp, ht]; rfl) ?_)
    unfold impl
    rw [List.any_eq_true]
    exact ⟨c, hc, by simp [opp_opp]⟩
theorem closed_check {l : List Cl} {n : Int} {vs : List Bool} (hr : right l n = true) (hl : (vs.length : Int) = n) (h : ∀ x y, (0 ≤ x ∧ x < 2 * n) → tru vs x = true → impl l x y = true → tru vs y = true) : check l n vs = true :=
  check_iff.2 ⟨hr, hl, closed_sat hr h⟩
/-- What is true in it must be: it is the first one. -/
theorem fst_of {l : List Cl} {n : Int} {a : List Bool} (hc : check l n a = true) (h : ∀ k : Nat, a[k]? = some true → Reach l (2 * (k : Int) + 1) (2 * (k : Int)) ∨ ∃ j, j < k ∧ Reach l (un a j) (2 * (k : Int))) : Fst l n a := by
  refine ⟨hc, fun b hb k ht hk => ?_⟩
  have e1 := len_of hc
  have e2 := len_of hb
  have hs := (check_iff.1 hb).2.2
  have hkl := (List.getElem?_eq_some_iff.1 hk).1
  have key : tru b (2 * (k : Int)) = true := by
    rcases h k hk with q | ⟨j, hj, q⟩
    · cases ht2 : tru b (2 * (k : Int)) with
      | true => rfl
      | false =>
        have : tru b (2 * (k : Int) + 1) = true := by rw [tru_odd]; rw [tru_even] at ht2; rw [ht2]; rfl
        rw [q.tru hs this] at ht2; cases ht2
    · refine q.tru hs ?_
      rw [tru_un, beq_iff_eq]
      have g1 : (a.take k)[j]? = a[j]? := List.getElem?_take_of_lt hj
      have g2 : (b.take k)[j]? = b[j]? := List.getElem?_take_of_lt hj
      rw [List.getD_eq_getElem?_getD, List.getD_eq_getElem?_getD, ← g1, ← g2, ht]
  rw [tru_even] at key
  rw [List.getElem?_eq_getElem (show k < b.length by omega)]
  rw [List.getD_eq_getElem?_getD, List.getElem?_eq_getElem (show k < b.length by omega)] at key
  exact congrArg some key

/-! ### Rings -/
/-- Each leads to the next one, and the last one to y. -/
def path (l : List Cl) : List Int → Int → Bool
  | [], _ => true
  | [x], y => impl l x y
  | x :: z :: r, y => impl l x z && path l (z :: r) y
theorem path_cons {l : List Cl} {x y : Int} {r : List Int} : path l (x :: r) y = (impl l x (r.headD y) && path l r y) := by
  cases r with
  | nil => simp [path]
  | cons z r => rfl
theorem path_append {l : List Cl} {p q : List Int} {y : Int} (hp : path l p (q.headD y) = true) (hq : path l q y = true) : path l (p ++ q) y = true := by
  induction p with
  | nil => exact hq
  | cons x p ih =>
    rw [path_cons, Bool.and_eq_true] at hp
    rw [List.cons_append, path_cons, Bool.and_eq_true]
    refine ⟨?_, ih hp.2⟩
    cases p with
    | nil => exact hp.1
    | cons z p => exact hp.1
theorem path_at {l : List Cl} {y : Int} : ∀ {p : List Int}, path l p y = true → ∀ i, i < p.length → impl l (p.getD i 0) (if i + 1 < p.length then p.getD (i + 1) 0 else y) = true
  | [], _, i, hi => by simp at hi
  | x :: r, h, 0, _ => by
    rw [path_cons, Bool.and_eq_true] at h
    cases r with
    | nil => simpa using h.1
    | cons z r => simpa using h.1
  | x :: r, h, i + 1, hi => by
    rw [path_cons, Bool.and_eq_true] at h
    have := path_at h.2 i (by simpa using hi)
    simpa using this
/-- A path back to where it begins. -/
theorem ring_of {l : List Cl} {p : List Int} (h : path l p (p.headD 0) = true) : ring l p = true := by
  unfold ring
  rw [List.all_eq_true]
  intro i hi
  have hi := List.mem_range.1 hi
  have := path_at h i hi
  by_cases hl : i + 1 < p.length
  · rw [if_pos hl] at this
    rw [Nat.mod_eq_of_lt hl]; exact this
  · rw [if_neg hl] at this
    rw [show i + 1 = p.length by omega, Nat.mod_self]
    cases p with
    | nil => simp at hi
    | cons x r => simpa using this
theorem path_reach {l : List Cl} {y : Int} : ∀ {p : List Int} {x : Int}, path l (x :: p) y = true → Reach l x y
  | [], x, h => Reach.one (by simpa [path] using h)
  | z :: p, x, h => by
    rw [path_cons, Bool.and_eq_true] at h
    exact (Reach.one h.1).trans (path_reach h.2)
theorem both_of {cy : List Int} {x : Int} (h : x ∈ cy) (k : opp x ∈ cy) : both cy = true := by
  unfold both
  rw [List.any_eq_true]
  exact ⟨x, h, by rw [List.contains_iff_mem]; exact k⟩
theorem path_lits {l : List Cl} {n y : Int} (hr : right l n = true) : ∀ {p : List Int}, path l p y = true → ∀ x ∈ p, 0 ≤ x ∧ x < 2 * n
  | [], _, x, hx => by cases hx
  | z :: p, h, x, hx => by
    rw [path_cons, Bool.and_eq_true] at h
    rcases List.mem_cons.1 hx with rfl | q
    · exact (impl_lit hr h.1).2
    · exact path_lits hr h.2 x q
/-- Two paths between a literal and its opposite are a refutation. -/
theorem refute_two {l : List Cl} {n x : Int} {p q : List Int} (hr : right l n = true) (hp : path l (x :: p) (opp x) = true) (hq : path l (opp x :: q) x = true) (hl : ((p.length + q.length + 2 : Nat) : Int) ≤ 4 * n) : refute l n (x :: p ++ opp x :: q) = true := by
  have h : path l (x :: p ++ opp x :: q) x = true := path_append hp hq
  unfold refute
  simp only [Bool.and_eq_true, decide_eq_true_eq]
  refine ⟨⟨⟨⟨hr, ?_⟩, lits_iff.2 (path_lits hr h)⟩, ring_of h⟩, both_of (x := x) (by simp) (by simp)⟩
  simp only [List.length_append, List.length_cons]
  omega
/-- A list of different literals is short. -/
theorem lits_short {n : Nat} {p : List Int} (h : ∀ x ∈ p, 0 ≤ x ∧ x < 2 * (n : Int)) (hd : p.Nodup) : p.length ≤ 2 * n := by
  have hs : ∀ (m : Nat) (p : List Int), (∀ x ∈ p, 0 ≤ x ∧ x < (m : Int)) → p.Nodup → p.length ≤ m := by
    intro m
    induction m with
    | zero =>
      intro p h _
      cases p with
      | nil => exact Nat.zero_le _
      | cons x p => have := h x (by simp); omega
    | succ m ih =>
      intro p h hd
      have h1 := ih (p.filter fun x => x != (m : Int)) (fun x hx => by
        have := List.mem_filter.1 hx
        have h2 := h x this.1
        have h3 := this.2
        simp only [bne_iff_ne] at h3
        omega) (hd.filter _)
      have h2 : p.length ≤ (p.filter fun x => x != (m : Int)).length + 1 := by
        clear h h1 ih
        induction p with
        | nil => simp
        | cons x p ih =>
          have hd2 := List.nodup_cons.1 hd
          rw [List.filter_cons]
          split
          · have := ih hd2.2; simp; omega
          · rename_i hx
            have hx : x = (m : Int) := by simpa using hx
            have e : p.filter (fun x => x != (m : Int)) = p := by
              rw [List.filter_eq_self]
              intro y hy
              simp only [bne_iff_ne]
              intro q
              exact hd2.1 (by rw [hx, ← q]; exact hy)
            rw [e]; simp
      omega
  exact hs (2 * n) p (fun x hx => by have := h x hx; omega) hd
end St
end Go.Proofs.Ytapgcahbccchfaa
