/- What the walks of layer 8 ask of package sat; the examples. -/
import Derived.Test.YtapgcahbccchfaaQf
namespace Go.Proofs.Ytapgcahbccchfaa
open Go.RowKit Go.Maps Go.ChangeMaps Go.MapKept
open St
attribute [local go_sem ↓] Go.wp_at_zero Go.wp_at_succ

/-- What Solve leaves. -/
def Solves (w : World) (l : List Cl) (n : Int) (e : Ending) (w' : World) : Prop := ∃ a c vs cy er, e = .returned (.tuple #[a, c, .int .i64 er]) ∧ BoolsAt w' a vs ∧ NumsAt w' c cy ∧ Below w.heap.size w w' ∧ Solved l n vs cy er
/-- What Forced leaves. -/
def Forces (w : World) (l : List Cl) (n : Int) (e : Ending) (w' : World) : Prop := ∃ u, e = .returned (.tuple #[u, .int .i64 (forced l n).2]) ∧ NumsAt w' u (forced l n).1 ∧ Below w.heap.size w w'
/-- The contracts of package sat. -/
structure SApi : Prop where
  right_ : ∀ {w : World} {v : Value} {l : List Cl} {n : Int}, ClAt w v l → l.length ≤ 1000 → I64 n → Calls Try.prog 9 #[v, .int .i64 n] w (Reads w (.bool (right l n)))
  check_ : ∀ {w : World} {v u : Value} {l : List Cl} {n : Int} {vs : List Bool}, ClAt w v l → l.length ≤ 1000 → I64 n → BoolsAt w u vs → vs.length ≤ 1000 → Calls Try.prog 11 #[v, .int .i64 n, u] w (Reads w (.bool (check l n vs)))
  refute_ : ∀ {w : World} {v u : Value} {l : List Cl} {n : Int} {cy : List Int}, ClAt w v l → l.length ≤ 1000 → I64 n → NumsAt w u cy → cy.length ≤ 2000 → Calls Try.prog 13 #[v, .int .i64 n, u] w (Reads w (.bool (refute l n cy)))
  follows_ : ∀ {w : World} {v u : Value} {l : List Cl} {n : Int} {xs : List Int}, ClAt w v l → l.length ≤ 1000 → I64 n → NumsAt w u xs → xs.length ≤ 1000 → Calls Try.prog 15 #[v, .int .i64 n, u] w (Reads w (.bool (follows l n xs)))
  solve_ : ∀ {w : World} {v : Value} {l : List Cl} {n : Int}, ClAt w v l → l.length ≤ 1000 → I64 n → Calls Try.prog 17 #[v, .int .i64 n] w (Solves w l n)
  forced_ : ∀ {w : World} {v : Value} {l : List Cl} {n : Int}, ClAt w v l → l.length ≤ 1000 → I64 n → Calls Try.prog 18 #[v, .int .i64 n] w (Forces w l n)
theorem solved_fst {l : List Cl} {n : Int} {vs a : List Bool} {cy : List Int} {er : Int} (h : Solved l n vs cy er) (k : Fst l n a) : vs = a ∧ cy = [] ∧ er = 0 := by
  rcases h with ⟨h, _⟩ | ⟨h1, h2, h3⟩ | ⟨_, h, _⟩
  · have := (check_iff.1 k.ok).1; rw [h] at this; cases this
  · exact ⟨h1.unique k, h2, h3⟩
  · exact (h k.can).elim
theorem solved_none {l : List Cl} {n : Int} {vs : List Bool} {cy : List Int} {er : Int} (h : Solved l n vs cy er) (hr : right l n = true) (k : ¬ St.Can l n) : vs = [] ∧ refute l n cy = true ∧ er = 17 := by
  rcases h with ⟨h, _⟩ | ⟨h1, h2, h3⟩ | ⟨_, _, h1, h2, h3⟩
  · rw [h] at hr; cases hr
  · exact (k h1.can).elim
  · exact ⟨h1, h2, h3⟩
theorem solved_arg {l : List Cl} {n : Int} {vs : List Bool} {cy : List Int} {er : Int} (h : Solved l n vs cy er) (hr : right l n = false) : vs = [] ∧ cy = [] ∧ er = 1 := by
  rcases h with ⟨_, h⟩ | ⟨h1, h2, h3⟩ | ⟨h, _⟩
  · exact h
  · have := (check_iff.1 h1.ok).1; rw [hr] at this; cases this
  · rw [hr] at h; cases h
section
variable {w : World} {v : Value} {l : List Cl} {n : Int}
theorem SApi.solve_fst (A : SApi) {a : List Bool} (hv : ClAt w v l) (hl : l.length ≤ 1000) (hn : I64 n) (k : Fst l n a) : Calls Try.prog 17 #[v, .int .i64 n] w fun e w' => ∃ u c, e = .returned (.tuple #[u, c, .int .i64 0]) ∧ BoolsAt w' u a ∧ NumsAt w' c [] ∧ Below w.heap.size w w' := by
  refine (A.solve_ hv hl hn).mono ?_
  rintro e w' ⟨u, c, vs, cy, er, he, h1, h2, h3, h4⟩
  obtain ⟨rfl, rfl, rfl⟩ := solved_fst h4 k
  exact ⟨u, c, he, h1, h2, h3⟩
theorem SApi.solve_none (A : SApi) (hv : ClAt w v l) (hl : l.length ≤ 1000) (hn : I64 n) (hr : right l n = true) (k : ¬ St.Can l n) : Calls Try.prog 17 #[v, .int .i64 n] w fun e w' => ∃ u c cy, e = .returned (.tuple #[u, c, .int .i64 17]) ∧ BoolsAt w' u [] ∧ NumsAt w' c cy ∧ Below w.heap.size w w' ∧ refute l n cy = true := by
  refine (A.solve_ hv hl hn).mono ?_
  rintro e w' ⟨u, c, vs, cy, er, he, h1, h2, h3, h4⟩
  obtain ⟨rfl, h5, rfl⟩ := solved_none h4 hr k
  exact ⟨u, c, cy, he, h1, h2, h3, h5⟩
theorem SApi.solve_arg (A : SApi) (hv : ClAt w v l) (hl : l.length ≤ 1000) (hn : I64 n) (hr : right l n = false) : Calls Try.prog 17 #[v, .int .i64 n] w fun e w' => ∃ u c, e = .returned (.tuple #[u, c, .int .i64 1]) ∧ BoolsAt w' u [] ∧ NumsAt w' c [] ∧ Below w.heap.size w w' := by
  refine (A.solve_ hv hl hn).mono ?_
  rintro e w' ⟨u, c, vs, cy, er, he, h1, h2, h3, h4⟩
  obtain ⟨rfl, rfl, rfl⟩ := solved_arg h4 hr
  exact ⟨u, c, he, h1, h2, h3⟩
end
theorem refute_len {l : List Cl} {n : Int} {cy : List Int} (h : refute l n cy = true) : cy.length ≤ 2000 := by
  have hr : right l n = true := by
    cases hr : right l n with
    | true => rfl
    | false => rw [ref_right hr] at h; cases h
  have hn := (right_iff.1 hr).1
  by_cases hc : 1 ≤ cy.length ∧ (cy.length : Int) ≤ 4 * n
  · omega
  · rw [ref_len hc] at h; cases h

/-! ### The examples, plain -/
def x2 : List Cl := [(0, 2), (1, 3)]
def x1 : List Cl := [(0, 0), (1, 2)]
def x0 : List Cl := [(0, 0), (1, 1)]
theorem x_e : Fst [] 2 [false, false] := first_aft (n := 2) (k := 0) (by decide) (by decide) (by decide)
theorem x_2 : Fst x2 2 [false, true] := first_aft (n := 2) (k := 1) (by decide) (by decide) (by decide)
theorem x_1 : Fst x1 2 [true, true] := first_aft (n := 2) (k := 3) (by decide) (by decide) (by decide)
theorem x_0 : ¬ St.Can x0 1 := none_aft (n := 1) (by decide)
theorem fol_dec {l : List Cl} {n : Nat} {xs : List Int} {b : Bool} (h : right l (n : Int) = true) (hx : lits (n : Int) xs = true) (hd : decide (∀ j, j < 2 ^ n → check l (n : Int) (aft n j) = true → ∃ x ∈ xs, tru (aft n j) x = true) = b) : follows l (n : Int) xs = b := by
  cases b with
  | true => exact (follows_aft h hx).2 (of_decide_eq_true hd)
  | false =>
    cases hf : follows l (n : Int) xs with
    | false => rfl
    | true => exact (of_decide_eq_false hd ((follows_aft h hx).1 hf)).elim
theorem y_2a : follows x2 2 [0, 2] = true := fol_dec (n := 2) (by decide) (by decide) (by decide)
theorem y_2b : follows x2 2 [0] = false := fol_dec (n := 2) (by decide) (by decide) (by decide)
theorem z_2 : forced x2 2 = ([-1, -1], 0) := by
  have h0 : forc x2 2 0 = -1 := by
    unfold forc
    rw [show follows x2 2 [2 * ((0 : Nat) : Int)] = false from fol_dec (n := 2) (by decide) (by decide) (by decide), show follows x2 2 [2 * ((0 : Nat) : Int) + 1] = false from fol_dec (n := 2) (by decide) (by decide) (by decide)]; rfl
  have h1 : forc x2 2 1 = -1 := by
    unfold forc
    rw [show follows x2 2 [2 * ((1 : Nat) : Int)] = false from fol_dec (n := 2) (by decide) (by decide) (by decide), show follows x2 2 [2 * ((1 : Nat) : Int) + 1] = false from fol_dec (n := 2) (by decide) (by decide) (by decide)]; rfl
  rw [forced_ok x_2.can]
  show ([forc x2 2 0, forc x2 2 1], (0 : Int)) = _
  rw [h0, h1]
theorem z_1 : forced x1 2 = ([1, 1], 0) := by
  have h0 : forc x1 2 0 = 1 := forc_yes.2 (fol_dec (n := 2) (by decide) (by decide) (by decide))
  have h1 : forc x1 2 1 = 1 := forc_yes.2 (fol_dec (n := 2) (by decide) (by decide) (by decide))
  rw [forced_ok x_1.can]
  show ([forc x1 2 0, forc x1 2 1], (0 : Int)) = _
  rw [h0, h1]
end Go.Proofs.Ytapgcahbccchfaa
