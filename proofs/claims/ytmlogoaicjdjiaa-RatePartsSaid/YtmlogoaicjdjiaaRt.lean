/- Buckets of places: what is there at a step, the first step for so many. No Go. -/
import Init
namespace Go.Proofs.Ytmlogoaicjdjiaa
namespace Rt
def right (L S r b : Int) : Bool := decide (((0 ≤ r ∧ r ≤ 1099511627776) ∧ (0 ≤ b ∧ b ≤ 1099511627776)) ∧ (0 ≤ L ∧ L ≤ b) ∧ (0 ≤ S ∧ S ≤ 1073741824))
def mn (x y : Int) : Int := if x ≤ y then x else y
def places (L S r b t : Int) : Int := mn (L + (t - S) * r) b
def free (L S r b t : Int) : Int × Int := if right L S r b = true then (if 0 ≤ t ∧ t ≤ 1073741824 then (if S ≤ t then (places L S r b t, 0) else (0, 16)) else (0, 3)) else (0, 1)
def take (L S r b t n : Int) : (Int × Int) × Int := if n < 0 then ((L, S), 1) else if (free L S r b t).2 = 0 then (if n ≤ (free L S r b t).1 then (((free L S r b t).1 - n, t), 0) else ((L, S), 6)) else ((L, S), (free L S r b t).2)
def least (L S r n : Int) : Int := if n ≤ L then S else S + (n - L + r - 1) / r
def next (L S r b n : Int) : Int × Int := if 0 ≤ n ∧ right L S r b = true then (if n ≤ places L S r b 1073741824 then (least L S r n, 0) else (0, 6)) else (0, 1)
theorem right_iff {L S r b : Int} : right L S r b = true ↔ ((0 ≤ r ∧ r ≤ 1099511627776) ∧ (0 ≤ b ∧ b ≤ 1099511627776)) ∧ (0 ≤ L ∧ L ≤ b) ∧ (0 ≤ S ∧ S ≤ 1073741824) := decide_eq_true_iff
theorem mn_le (x y : Int) : mn x y ≤ x ∧ mn x y ≤ y ∧ (mn x y = x ∨ mn x y = y) := by unfold mn; split <;> omega
theorem free_right {L S r b t : Int} (h : right L S r b = false) : free L S r b t = (0, 1) := by unfold free; rw [h]; rfl
theorem free_range {L S r b t : Int} (h : right L S r b = true) (ht : ¬ (0 ≤ t ∧ t ≤ 1073741824)) : free L S r b t = (0, 3) := by unfold free; rw [if_pos h, if_neg ht]
theorem free_late {L S r b t : Int} (h : right L S r b = true) (ht : 0 ≤ t ∧ t ≤ 1073741824) (hs : t < S) : free L S r b t = (0, 16) := by unfold free; rw [if_pos h, if_pos ht, if_neg (by omega)]
theorem free_ok {L S r b t : Int} (h : right L S r b = true) (ht : t ≤ 1073741824) (hs : S ≤ t) : free L S r b t = (places L S r b t, 0) := by
  have := (right_iff.1 h).2.2
  unfold free; rw [if_pos h, if_pos (by omega), if_pos hs]
theorem mul_nn {a b : Int} (ha : 0 ≤ a) (hb : 0 ≤ b) : 0 ≤ a * b := Int.mul_nonneg ha hb
theorem mul_le {a b c d : Int} (ha : 0 ≤ a) (hc : a ≤ c) (hb : 0 ≤ b) (hd : b ≤ d) : a * b ≤ c * d := Int.mul_le_mul hc hd hb (by omega)
theorem places_in {L S r b t : Int} (h : right L S r b = true) (hs : S ≤ t) : L ≤ places L S r b t ∧ places L S r b t ≤ b ∧ places L S r b t ≤ L + (t - S) * r := by
  have h1 := right_iff.1 h
  have h2 : 0 ≤ (t - S) * r := mul_nn (by omega) (by omega)
  have h3 := mn_le (L + (t - S) * r) b
  unfold places
  omega
theorem take_neg {L S r b t n : Int} (h : n < 0) : take L S r b t n = ((L, S), 1) := by unfold take; rw [if_pos h]
theorem take_err {L S r b t n e x : Int} (h : ¬ n < 0) (hf : free L S r b t = (x, e)) (he : e ≠ 0) : take L S r b t n = ((L, S), e) := by
  unfold take; rw [if_neg h, hf]; rw [if_neg he]
theorem take_full {L S r b t n x : Int} (h : ¬ n < 0) (hf : free L S r b t = (x, 0)) (he : x < n) : take L S r b t n = ((L, S), 6) := by
  unfold take; rw [if_neg h, hf]; simp only [if_pos]; rw [if_neg (by omega)]
theorem take_ok {L S r b t n x : Int} (h : ¬ n < 0) (hf : free L S r b t = (x, 0)) (he : n ≤ x) : take L S r b t n = ((x - n, t), 0) := by
  unfold take; rw [if_neg h, hf]; simp only [if_pos]; rw [if_pos he]
theorem free_val {L S r b t x : Int} (h : free L S r b t = (x, 0)) : 0 ≤ x ∧ x ≤ 1099511627776 := by
  unfold free at h
  split at h
  · rename_i hr
    split at h
    · split at h
      · rename_i hs
        have h1 := right_iff.1 hr
        have := places_in hr hs
        cases h; omega
      · cases h
    · cases h
  · cases h
/-- The step from which on n places are there. -/
theorem least_iff {L S r b n t : Int} (h : right L S r b = true) (hm : n ≤ places L S r b 1073741824) (hs : S ≤ t) : n ≤ places L S r b t ↔ least L S r n ≤ t := by
  have h1 := right_iff.1 h
  unfold least
  by_cases hl : n ≤ L
  · rw [if_pos hl]
    have := places_in h hs
    omega
  · rw [if_neg hl]
    have hp := places_in h (show S ≤ 1073741824 by omega)
    have hr : 0 < r := by
      refine Classical.byContradiction fun q => ?_
      have : r = 0 := by omega
      subst this
      simp at hp
      omega
    have h2 : (n - L + r - 1) / r < t - S + 1 ↔ n - L + r - 1 < (t - S + 1) * r := Int.ediv_lt_iff_lt_mul hr
    rw [Int.add_mul, Int.one_mul] at h2
    unfold places mn
    have hb : n ≤ b := by omega
    split <;> omega
theorem least_in {L S r b n : Int} (h : right L S r b = true) (hm : n ≤ places L S r b 1073741824) : S ≤ least L S r n ∧ least L S r n ≤ 1073741824 := by
  have h1 := right_iff.1 h
  refine ⟨?_, (least_iff h hm (by omega)).1 hm⟩
  unfold least
  by_cases hl : n ≤ L
  · rw [if_pos hl]; exact Int.le_refl _
  · rw [if_neg hl]
    have : 0 ≤ (n - L + r - 1) / r := Int.ediv_nonneg (by omega) (by omega)
    omega
theorem next_arg {L S r b n : Int} (h : ¬ (0 ≤ n ∧ right L S r b = true)) : next L S r b n = (0, 1) := by unfold next; rw [if_neg h]
theorem next_full {L S r b n : Int} (h : right L S r b = true) (hn : 0 ≤ n) (hm : places L S r b 1073741824 < n) : next L S r b n = (0, 6) := by
  unfold next; rw [if_pos ⟨hn, h⟩, if_neg (by omega)]
theorem next_ok {L S r b n : Int} (h : right L S r b = true) (hn : 0 ≤ n) (hm : n ≤ places L S r b 1073741824) : next L S r b n = (least L S r n, 0) := by
  unfold next; rw [if_pos ⟨hn, h⟩, if_pos hm]
/-! ### Doubling steps -/
theorem mn_odd {l m b t : Int} (hl : 0 ≤ l ∧ l ≤ b) (hb : b ≤ 1099511627776) (hm : 0 ≤ m ∧ m ≤ 1099511627777) (ht : 0 ≤ t) :
    mn (mn (l + m) b + t * mn (2 * m) 1099511627777) b = mn (l + (2 * t + 1) * m) b := by
  have e : (2 * t + 1) * m = 2 * (t * m) + m := by grind
  have p0 : 0 ≤ t * m := mul_nn ht hm.1
  rw [e]
  have a := mn_le (l + m) b
  rcases (show 2 * m ≤ 1099511627777 ∨ 1099511627777 < 2 * m by omega) with h | h
  · have h2 : mn (2 * m) 1099511627777 = 2 * m := by unfold mn; rw [if_pos h]
    have e2 : t * (2 * m) = 2 * (t * m) := by grind
    rw [h2, e2]
    generalize t * m = p at p0
    unfold mn at *
    split <;> split <;> split <;> omega
  · have h2 : mn (2 * m) 1099511627777 = 1099511627777 := by unfold mn; rw [if_neg (by omega)]
    rw [h2]
    by_cases h0 : t = 0
    · subst h0
      simp only [Int.zero_mul]
      unfold mn at *
      split <;> split <;> split <;> omega
    · have p1 : m ≤ t * m := by
        have := mul_le (a := 1) (b := m) (c := t) (d := m) (by omega) (by omega) hm.1 (Int.le_refl _)
        omega
      generalize t * m = p at p0 p1
      unfold mn at *
      split <;> split <;> split <;> omega
theorem mn_even {l m b t : Int} (hl : 0 ≤ l ∧ l ≤ b) (hb : b ≤ 1099511627776) (hm : 0 ≤ m ∧ m ≤ 1099511627777) (ht : 0 ≤ t) :
    mn (l + t * mn (2 * m) 1099511627777) b = mn (l + (2 * t) * m) b := by
  have e : (2 * t) * m = 2 * (t * m) := by grind
  have p0 : 0 ≤ t * m := mul_nn ht hm.1
  rw [e]
  rcases (show 2 * m ≤ 1099511627777 ∨ 1099511627777 < 2 * m by omega) with h | h
  · have h2 : mn (2 * m) 1099511627777 = 2 * m := by unfold mn; rw [if_pos h]
    have e2 : t * (2 * m) = 2 * (t * m) := by grind
    rw [h2, e2]
  · have h2 : mn (2 * m) 1099511627777 = 1099511627777 := by unfold mn; rw [if_neg (by omega)]
    rw [h2]
    by_cases h0 : t = 0
    · subst h0; simp
    · have p1 : m ≤ t * m := by
        have := mul_le (a := 1) (b := m) (c := t) (d := m) (by omega) (by omega) hm.1 (Int.le_refl _)
        omega
      generalize t * m = p at p0 p1
      unfold mn
      split <;> split <;> omega
end Rt
end Go.Proofs.Ytmlogoaicjdjiaa
