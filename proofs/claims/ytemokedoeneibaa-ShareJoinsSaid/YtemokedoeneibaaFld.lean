/- The field of 2147483647 numbers, as the whole numbers up to multiples: it is prime; inverses. No Go. -/
import Derived.KernelRfl
namespace Go.Proofs.Ytemokedoeneibaa
namespace Sp
def P : Int := 2147483647
def PN : Nat := 2147483647
/-- No number from lo on, of 2^n, divides. -/
def chk : Nat → Nat → Bool
  | 0, lo => PN % lo != 0
  | n + 1, lo => chk n lo && chk n (lo + 2 ^ n)
theorem chk_spec : ∀ (n lo : Nat), chk n lo = true → ∀ d, lo ≤ d → d < lo + 2 ^ n → PN % d ≠ 0
  | 0, lo, h, d, h1, h2 => by
    obtain rfl : d = lo := by simp at h2; omega
    simpa [chk] using h
  | n + 1, lo, h, d, h1, h2 => by
    simp only [chk, Bool.and_eq_true] at h
    by_cases hd : d < lo + 2 ^ n
    · exact chk_spec n lo h.1 d h1 hd
    · exact chk_spec n _ h.2 d (by omega) (by rw [Nat.pow_succ] at h2; omega)
theorem chk_all : chk 16 2 = true := by decide +kernel
theorem prime_nat {d : Nat} (h : d ∣ PN) : d = 1 ∨ d = PN := by
  obtain ⟨e, he⟩ := h
  have hP : PN = 2147483647 := rfl
  have small : ∀ x y : Nat, PN = x * y → 2 ≤ x → x < 65538 → False := fun x y hxy h2 h3 => by
    have := chk_spec 16 2 chk_all x h2 (by simpa using h3)
    exact this (by rw [hxy]; exact Nat.mul_mod_right x y)
  by_cases h1 : d < 65538
  · by_cases h2 : 2 ≤ d
    · exact (small d e he h2 h1).elim
    · have : d ≠ 0 := fun h0 => by subst h0; omega
      left; omega
  · by_cases h3 : e < 65538
    · by_cases h4 : 2 ≤ e
      · exact (small e d (by rw [he, Nat.mul_comm]) h4 h3).elim
      · have h5 : e ≠ 0 := fun h0 => by subst h0; omega
        obtain rfl : e = 1 := by omega
        right; omega
    · have : 65538 * 65538 ≤ d * e := Nat.mul_le_mul (by omega) (by omega)
      omega
theorem prime {a b : Int} (h : P ∣ a * b) : P ∣ a ∨ P ∣ b := by
  have h1 : PN ∣ a.natAbs * b.natAbs := by rw [← Int.natAbs_mul]; exact Int.natAbs_dvd_natAbs.2 h
  have key : PN ∣ a.natAbs ∨ PN ∣ b.natAbs := by
    rcases prime_nat (Nat.gcd_dvd_left PN a.natAbs) with hg | hg
    · right
      exact Nat.Coprime.dvd_of_dvd_mul_left (show Nat.Coprime PN a.natAbs from hg) h1
    · left
      rw [← hg]; exact Nat.gcd_dvd_right _ _
  rcases key with h | h
  · left; exact Int.natAbs_dvd_natAbs.1 h
  · right; exact Int.natAbs_dvd_natAbs.1 h
theorem dvd_cancel {a b : Int} (h : P ∣ a * b) (ha : ¬ P ∣ a) : P ∣ b := (prime h).resolve_left ha
/-- Euclid's way to the inverse. -/
def euc : Nat → Int → Int → Int → Int → Int × Int
  | 0, a, _, x, _ => (a, x)
  | f + 1, a, b, x, y => if b ≤ 0 then (a, x) else euc f b (a - a / b * b) y ((x - a / b * y) % P)
theorem euc_spec (n : Int) : ∀ (f : Nat) (a b x y : Int), 0 ≤ a → 0 ≤ b → b.toNat < f → P ∣ x * n - a → P ∣ y * n - b → 0 ≤ x → x < P → 0 ≤ y → y < P → (∀ d : Int, d ∣ a → d ∣ b → d ∣ P ∧ d ∣ n) →
    P ∣ (euc f a b x y).2 * n - (euc f a b x y).1 ∧ 0 ≤ (euc f a b x y).2 ∧ (euc f a b x y).2 < P ∧ (euc f a b x y).1 ∣ P ∧ (euc f a b x y).1 ∣ n ∧ 0 ≤ (euc f a b x y).1
  | 0, a, b, x, y, _, _, hf, _, _, _, _, _, _, _ => by omega
  | f + 1, a, b, x, y, ha, hb, hf, hx, hy, x0, x1, y0, y1, hd => by
    unfold euc
    by_cases h0 : b ≤ 0
    · rw [if_pos h0]
      obtain rfl : b = 0 := by omega
      have := hd a (Int.dvd_refl a) (Int.dvd_zero a)
      exact ⟨hx, x0, x1, this.1, this.2, ha⟩
    · rw [if_neg h0]
      have hPp : (0 : Int) < P := by decide
      have hr : a - a / b * b = a % b := by have := Int.emod_add_mul_ediv a b; rw [Int.mul_comm (a / b) b]; omega
      have r0 : 0 ≤ a % b := Int.emod_nonneg a (by omega)
      have r1 : a % b < b := Int.emod_lt_of_pos a (by omega)
      refine euc_spec n f b (a - a / b * b) y ((x - a / b * y) % P) hb (by omega) (by omega) hy ?_ y0 y1 (Int.emod_nonneg _ (by omega)) (Int.emod_lt_of_pos _ hPp) ?_
      · have h1 : (x - a / b * y) % P = (x - a / b * y) - P * ((x - a / b * y) / P) := by have := Int.emod_add_mul_ediv (x - a / b * y) P; omega
        obtain ⟨u, hu⟩ := hx
        obtain ⟨v, hv⟩ := hy
        refine ⟨u - a / b * v - (x - a / b * y) / P * n, ?_⟩
        rw [h1]
        generalize a / b = q at *
        generalize (x - q * y) / P = s at *
        grind
      · intro d h1 h2
        refine hd d ?_ h1
        have : a = (a - a / b * b) + a / b * b := by omega
        rw [this]
        exact Int.dvd_add h2 (Int.dvd_mul_of_dvd_right h1)
theorem not_dvd_small {n : Int} (h0 : 0 < n) (h1 : n < P) : ¬ P ∣ n := fun h => by
  have := Int.le_of_dvd h0 h; omega
theorem euc_inv {n : Int} (h0 : 0 < n) (h1 : n < P) {f : Nat} (hf : n.toNat < f) : P ∣ (euc f P n 0 1).2 * n - 1 ∧ 0 ≤ (euc f P n 0 1).2 ∧ (euc f P n 0 1).2 < P := by
  obtain ⟨k1, k2, k3, k4, k5, k6⟩ := euc_spec n f P n 0 1 (by decide) (by omega) hf ⟨-1, by grind⟩ ⟨0, by grind⟩ (by decide) (by decide) (by decide) (by decide) (fun d h1 h2 => ⟨h1, h2⟩)
  have hg : (euc f P n 0 1).1 = 1 := by
    have h4 : (euc f P n 0 1).1.toNat ∣ PN := by
      have := Int.natAbs_dvd_natAbs.2 k4
      have e : (euc f P n 0 1).1.natAbs = (euc f P n 0 1).1.toNat := by omega
      rw [e] at this; exact this
    rcases prime_nat h4 with h | h
    · omega
    · have hPN : (PN : Int) = P := rfl
      have : (euc f P n 0 1).1 = P := by omega
      rw [this] at k5
      exact absurd k5 (not_dvd_small h0 h1)
  rw [hg] at k1
  exact ⟨k1, k2, k3⟩
/-- Each number that is no multiple has an inverse. -/
theorem inverse {a : Int} (ha : ¬ P ∣ a) : ∃ b : Int, P ∣ b * a - 1 := by
  have hP : P = 2147483647 := rfl
  have h0 : 0 ≤ a % P := Int.emod_nonneg _ (by decide)
  have h1 : a % P < P := Int.emod_lt_of_pos _ (by decide)
  have h2 : a % P ≠ 0 := fun h => ha (Int.dvd_of_emod_eq_zero h)
  obtain ⟨k1, _, _⟩ := euc_inv (n := a % P) (by omega) h1 (f := (a % P).toNat + 1) (by omega)
  refine ⟨(euc ((a % P).toNat + 1) P (a % P) 0 1).2, ?_⟩
  generalize (euc ((a % P).toNat + 1) P (a % P) 0 1).2 = x at *
  have h3 : a % P = a - P * (a / P) := by have := Int.emod_add_mul_ediv a P; omega
  obtain ⟨u, hu⟩ := k1
  refine ⟨u + x * (a / P), ?_⟩
  rw [h3] at hu
  generalize a / P = s at *
  grind
end Sp
end Go.Proofs.Ytemokedoeneibaa
