/- Polynomials over the field: few zeros, one through given points. No Go. -/
import Derived.Test.YtemokedoeneibaaFld
namespace Go.Proofs.Ytemokedoeneibaa
namespace Sp
/-- The value of a polynomial, given by its factors. -/
def ev : List Int → Int → Int
  | [], _ => 0
  | c :: cs, x => c + x * ev cs x
/-- Division by X - a: the quotient and the rest. -/
def dv (a : Int) : List Int → List Int × Int
  | [] => ([], 0)
  | c :: cs => match cs with
    | [] => ([], c)
    | d :: ds => ((dv a (d :: ds)).2 :: (dv a (d :: ds)).1, c + a * (dv a (d :: ds)).2)
theorem dv_ev (a x : Int) : ∀ cs : List Int, ev cs x = (x - a) * ev (dv a cs).1 x + (dv a cs).2
  | [] => by simp [ev, dv]
  | [c] => by simp [ev, dv]
  | c :: d :: ds => by
    have ih := dv_ev a x (d :: ds)
    show c + x * ev (d :: ds) x = _
    simp only [dv, ev] at ih ⊢
    generalize (dv a (d :: ds)).1 = q at *
    generalize (dv a (d :: ds)).2 = r at *
    generalize ev q x = e at *
    generalize ev ds x = f at *
    grind
theorem dv_len (a : Int) : ∀ cs : List Int, (dv a cs).1.length = cs.length - 1
  | [] => rfl
  | [c] => rfl
  | c :: d :: ds => by
    have ih := dv_len a (d :: ds)
    simp only [dv, List.length_cons] at ih ⊢
    omega
theorem dv_rest (a : Int) (cs : List Int) : (dv a cs).2 = ev cs a := by
  have := dv_ev a a cs
  rw [Int.sub_self, Int.zero_mul, Int.zero_add] at this
  exact this.symm
/-- All factors are multiples. -/
def Nil (cs : List Int) : Prop := ∀ c ∈ cs, P ∣ c
theorem nil_ev {cs : List Int} (h : Nil cs) (x : Int) : P ∣ ev cs x := by
  induction cs with
  | nil => exact Int.dvd_zero _
  | cons c cs ih => exact Int.dvd_add (h c (by simp)) (Int.dvd_mul_of_dvd_right (ih fun d hd => h d (by simp [hd])))
theorem dv_nil (a : Int) : ∀ cs : List Int, Nil (dv a cs).1 → P ∣ (dv a cs).2 → Nil cs
  | [], _, _ => fun c h => by cases h
  | [c], _, h => fun d hd => by simp at hd; subst hd; exact h
  | c :: d :: ds, h1, h2 => by
    simp only [dv] at h1 h2
    have h3 : P ∣ (dv a (d :: ds)).2 := h1 _ (by simp)
    have ih := dv_nil a (d :: ds) (fun e he => h1 e (by simp [he])) h3
    intro e he
    rcases List.mem_cons.1 he with rfl | he
    · have := Int.dvd_sub h2 (Int.dvd_mul_of_dvd_right (b := a) h3)
      rwa [Int.add_sub_cancel] at this
    · exact ih e he
/-- Numbers of which no two are the same. -/
def Diff : List Int → Prop
  | [] => True
  | x :: xs => (∀ y ∈ xs, ¬ P ∣ y - x) ∧ Diff xs
theorem dvd_swap {a b : Int} (h : P ∣ a - b) : P ∣ b - a := by
  have := Int.dvd_neg.2 h
  rwa [Int.neg_sub] at this
/-- A polynomial with as many zeros as factors is none. -/
theorem roots : ∀ (xs cs : List Int), Diff xs → cs.length ≤ xs.length → (∀ x ∈ xs, P ∣ ev cs x) → Nil cs
  | [], cs, _, hl, _ => by
    have : cs = [] := List.eq_nil_of_length_eq_zero (by simpa using hl)
    subst this
    intro c h; cases h
  | a :: xs, cs, hd, hl, hz => by
    have hr : P ∣ (dv a cs).2 := by rw [dv_rest]; exact hz a (by simp)
    refine dv_nil a cs (roots xs _ hd.2 (by rw [dv_len]; simp at hl; omega) fun x hx => ?_) hr
    have h1 := hz x (by simp [hx])
    rw [dv_ev a x cs] at h1
    have h2 := Int.dvd_sub h1 hr
    rw [Int.add_sub_cancel] at h2
    exact dvd_cancel h2 (hd.1 x hx)
/-- Point by point. -/
def sub : List Int → List Int → List Int
  | [], ds => ds.map fun d => -d
  | cs, [] => cs
  | c :: cs, d :: ds => (c - d) :: sub cs ds
theorem ev_neg (ds : List Int) (x : Int) : ev (ds.map fun d => -d) x = - ev ds x := by
  induction ds with
  | nil => rfl
  | cons d ds ih => simp only [List.map_cons, ev, ih]; grind
theorem sub_ev (x : Int) : ∀ cs ds : List Int, ev (sub cs ds) x = ev cs x - ev ds x
  | [], ds => by rw [show sub [] ds = ds.map fun d => -d from rfl, ev_neg]; simp [ev]
  | c :: cs, [] => by simp [sub, ev]
  | c :: cs, d :: ds => by
    have ih := sub_ev x cs ds
    simp only [sub, ev, ih]
    grind
theorem sub_len : ∀ cs ds : List Int, (sub cs ds).length = max cs.length ds.length
  | [], ds => by simp [sub]
  | c :: cs, [] => by simp [sub]
  | c :: cs, d :: ds => by
    have ih := sub_len cs ds
    simp only [sub, List.length_cons, ih]
    omega
/-- Two polynomials that agree often enough agree everywhere. -/
theorem agree {xs cs ds : List Int} (h : Diff xs) (hc : cs.length ≤ xs.length) (hd : ds.length ≤ xs.length) (he : ∀ x ∈ xs, P ∣ ev cs x - ev ds x) (x : Int) : P ∣ ev cs x - ev ds x := by
  have := nil_ev (roots xs (sub cs ds) h (by rw [sub_len]; omega) fun y hy => by rw [sub_ev]; exact he y hy) x
  rwa [sub_ev] at this

/-! ### A polynomial through points -/
def add : List Int → List Int → List Int
  | [], ds => ds
  | cs, [] => cs
  | c :: cs, d :: ds => (c + d) :: add cs ds
theorem add_ev (x : Int) : ∀ cs ds : List Int, ev (add cs ds) x = ev cs x + ev ds x
  | [], ds => by simp [add, ev]
  | c :: cs, [] => by simp [add, ev]
  | c :: cs, d :: ds => by
    have ih := add_ev x cs ds
    simp only [add, ev, ih]
    grind
theorem add_len : ∀ cs ds : List Int, (add cs ds).length = max cs.length ds.length
  | [], ds => by simp [add]
  | c :: cs, [] => by simp [add]
  | c :: cs, d :: ds => by
    have ih := add_len cs ds
    simp only [add, List.length_cons, ih]
    omega
def scale (u : Int) (cs : List Int) : List Int := cs.map fun c => u * c
theorem scale_ev (u x : Int) (cs : List Int) : ev (scale u cs) x = u * ev cs x := by
  induction cs with
  | nil => simp [scale, ev]
  | cons c cs ih => simp only [scale, List.map_cons, ev] at ih ⊢; rw [ih]; grind
theorem scale_len (u : Int) (cs : List Int) : (scale u cs).length = cs.length := by simp [scale]
/-- The product with X - a. -/
def tim (a : Int) (cs : List Int) : List Int := sub (0 :: cs) (scale a cs)
theorem tim_ev (a x : Int) (cs : List Int) : ev (tim a cs) x = (x - a) * ev cs x := by
  unfold tim
  rw [sub_ev, scale_ev]
  simp only [ev]
  grind
theorem tim_len (a : Int) (cs : List Int) : (tim a cs).length = cs.length + 1 := by
  unfold tim
  rw [sub_len, scale_len, List.length_cons]
  omega
/-- The product of all X - a. -/
def zeros : List Int → List Int
  | [] => [1]
  | a :: xs => tim a (zeros xs)
theorem zeros_len (xs : List Int) : (zeros xs).length = xs.length + 1 := by
  induction xs with
  | nil => rfl
  | cons a xs ih => simp only [zeros, tim_len, ih, List.length_cons]
theorem zeros_at {xs : List Int} {x : Int} (h : x ∈ xs) : ev (zeros xs) x = 0 := by
  induction xs with
  | nil => cases h
  | cons a xs ih =>
    rw [zeros, tim_ev]
    rcases List.mem_cons.1 h with rfl | h
    · rw [Int.sub_self, Int.zero_mul]
    · rw [ih h, Int.mul_zero]
theorem one_not : ¬ P ∣ 1 := not_dvd_small (by decide) (by decide)
theorem zeros_off {xs : List Int} {x : Int} (h : ∀ a ∈ xs, ¬ P ∣ x - a) : ¬ P ∣ ev (zeros xs) x := by
  induction xs with
  | nil => simpa [zeros, ev] using one_not
  | cons a xs ih =>
    rw [zeros, tim_ev]
    intro hd
    rcases prime hd with q | q
    · exact h a (by simp) q
    · exact ih (fun b hb => h b (by simp [hb])) q
/-- Through points at different places there is a polynomial with as many factors. -/
theorem through : ∀ ps : List (Int × Int), Diff (ps.map (·.1)) → ∃ cs : List Int, cs.length = ps.length ∧ ∀ q ∈ ps, P ∣ ev cs q.1 - q.2
  | [], _ => ⟨[], rfl, fun q h => by cases h⟩
  | (a, y) :: ps, h => by
    obtain ⟨cs, hl, hc⟩ := through ps h.2
    have hoff : ¬ P ∣ ev (zeros (ps.map (·.1))) a := zeros_off fun b hb hd => h.1 b hb (dvd_swap hd)
    obtain ⟨i, hi⟩ := inverse hoff
    refine ⟨add cs (scale (i * (y - ev cs a)) (zeros (ps.map (·.1)))), ?_, fun q hq => ?_⟩
    · rw [add_len, scale_len, zeros_len, List.length_map, List.length_cons]; omega
    · rw [add_ev, scale_ev]
      rcases List.mem_cons.1 hq with rfl | hq
      · obtain ⟨u, hu⟩ := hi
        refine ⟨u * (y - ev cs a), ?_⟩
        generalize ev (zeros (ps.map (·.1))) a = z at *
        generalize ev cs a = e at *
        show e + i * (y - e) * z - y = _
        grind
      · rw [zeros_at (List.mem_map.2 ⟨q, hq, rfl⟩), Int.mul_zero, Int.add_zero]
        exact hc q hq
end Sp
end Go.Proofs.Ytemokedoeneibaa
