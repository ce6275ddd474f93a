/- The inverse as a power: Fermat. No Go. -/
import Derived.Test.YtemokedoeneibaaSpl2
namespace Go.Proofs.Ytemokedoeneibaa
namespace Sp
theorem perm_of : ∀ {l m : List Int}, l.Nodup → (∀ a ∈ l, a ∈ m) → l.length = m.length → l.Perm m
  | [], m, _, _, hl => by
    have : m = [] := List.eq_nil_of_length_eq_zero (by simpa using hl.symm)
    subst this; exact .nil
  | a :: l, m, hn, hs, hl => by
    obtain ⟨h1, h2⟩ := List.nodup_cons.1 hn
    have ha := hs a (by simp)
    refine .trans (.cons a (perm_of h2 (fun b hb => ?_) ?_)) (List.perm_cons_erase ha).symm
    · have hne : b ≠ a := fun e => h1 (e ▸ hb)
      exact (List.mem_erase_of_ne hne).2 (hs b (by simp [hb]))
    · rw [List.length_erase_of_mem ha]; simp at hl; omega
def prod : List Int → Int
  | [] => 1
  | a :: l => a * prod l
theorem prod_perm {l m : List Int} (h : l.Perm m) : prod l = prod m := by
  induction h with
  | nil => rfl
  | cons a _ ih => simp only [prod, ih]
  | swap a b l => simp only [prod]; grind
  | trans _ _ h1 h2 => exact h1.trans h2
theorem prod_scale (a : Int) : ∀ l : List Int, P ∣ prod (l.map fun x => a * x % P) - a ^ l.length * prod l
  | [] => ⟨0, by simp [prod]⟩
  | x :: l => by
    obtain ⟨u, hu⟩ := prod_scale a l
    obtain ⟨v, hv⟩ := dvd_emod (a * x)
    simp only [List.map_cons, prod, List.length_cons, Int.pow_succ]
    generalize a * x % P = y at *
    generalize prod (l.map fun x => a * x % P) = z at *
    generalize prod l = p at *
    generalize a ^ l.length = w at *
    exact ⟨y * u - v * w * p, by grind⟩
theorem prod_unit : ∀ {l : List Int}, (∀ x ∈ l, ¬ P ∣ x) → ¬ P ∣ prod l
  | [], _ => one_not
  | a :: l, h => fun hd => by
    rcases prime hd with q | q
    · exact h a (by simp) q
    · exact prod_unit (fun x hx => h x (by simp [hx])) q
theorem fermat {a : Int} (ha : ¬ P ∣ a) {n : Nat} (hn : (n : Int) + 1 = P) : P ∣ a ^ n - 1 := by
  have hl : ∀ x ∈ (List.range n).map (fun (i : Nat) => (i : Int) + 1), 0 < x ∧ x < P := fun x hx => by
    obtain ⟨i, hi, rfl⟩ := List.mem_map.1 hx
    have := List.mem_range.1 hi
    omega
  have hu : ∀ x ∈ (List.range n).map (fun (i : Nat) => (i : Int) + 1), ¬ P ∣ x := fun x hx => not_dvd_small (hl x hx).1 (hl x hx).2
  have hd : ((List.range n).map (fun (i : Nat) => (i : Int) + 1)).Nodup := nodup_map List.nodup_range fun i _ j _ h => by omega
  have hlen : ((List.range n).map (fun (i : Nat) => (i : Int) + 1)).length = n := by simp
  have hin : ∀ x, 0 < x → x < P → x ∈ (List.range n).map (fun (i : Nat) => (i : Int) + 1) := fun x h1 h2 => List.mem_map.2 ⟨(x - 1).toNat, List.mem_range.2 (by omega), by omega⟩
  generalize (List.range n).map (fun (i : Nat) => (i : Int) + 1) = l at *
  have hp : (l.map fun x => a * x % P).Perm l := by
    refine perm_of (nodup_map hd fun x hx y hy h => ?_) (fun y hy => ?_) (by simp)
    · have h1 : P ∣ a * (x - y) := by
        have h3 := Int.dvd_sub (dvd_emod (a * x)) (dvd_emod (a * y))
        rw [h] at h3
        have e : a * x - a * y % P - (a * y - a * y % P) = a * (x - y) := by grind
        rwa [e] at h3
      have h2 := dvd_cancel h1 ha
      have hx' := hl x hx
      have hy' := hl y hy
      exact same_small h2 ⟨by omega, hx'.2⟩ ⟨by omega, hy'.2⟩
    · obtain ⟨x, hx, rfl⟩ := List.mem_map.1 hy
      have h0 : 0 ≤ a * x % P := Int.emod_nonneg _ (by decide)
      have h1 : a * x % P < P := Int.emod_lt_of_pos _ ppos
      refine hin _ ?_ h1
      rcases Int.lt_or_eq_of_le h0 with q | q
      · exact q
      · have hd := Int.dvd_of_emod_eq_zero q.symm
        rcases prime hd with q | q
        · exact absurd q ha
        · exact absurd q (hu x hx)
  have h1 := prod_scale a l
  rw [prod_perm hp, hlen] at h1
  have e : prod l - a ^ n * prod l = prod l * (1 - a ^ n) := by grind
  rw [e] at h1
  exact dvd_swap (dvd_cancel h1 (prod_unit hu))
theorem pow_same {x y : Int} (h : P ∣ x - y) : ∀ m : Nat, P ∣ x ^ m - y ^ m
  | 0 => ⟨0, by simp⟩
  | m + 1 => by
    obtain ⟨u, hu⟩ := pow_same h m
    obtain ⟨v, hv⟩ := h
    rw [Int.pow_succ, Int.pow_succ]
    generalize x ^ m = a at *
    generalize y ^ m = b at *
    exact ⟨u * x + b * v, by grind⟩
theorem mul_same {x y u v : Int} (h1 : P ∣ x - y) (h2 : P ∣ u - v) : P ∣ x * u - y * v := by
  obtain ⟨a, ha⟩ := h1
  obtain ⟨b, hb⟩ := h2
  exact ⟨a * u + y * b, by grind⟩
theorem add_same {x y u v : Int} (h1 : P ∣ x - y) (h2 : P ∣ u - v) : P ∣ x + u - (y + v) := by
  obtain ⟨a, ha⟩ := h1
  obtain ⟨b, hb⟩ := h2
  exact ⟨a + b, by grind⟩
theorem sub_same {x y u v : Int} (h1 : P ∣ x - y) (h2 : P ∣ u - v) : P ∣ x - u - (y - v) := by
  obtain ⟨a, ha⟩ := h1
  obtain ⟨b, hb⟩ := h2
  exact ⟨a - b, by grind⟩
theorem same_refl (x : Int) : P ∣ x - x := ⟨0, by omega⟩
theorem mod_same (x : Int) : P ∣ x % P - x := dvd_swap (dvd_emod x)
theorem mod_in (x : Int) : 0 ≤ x % P ∧ x % P < P := ⟨Int.emod_nonneg _ (by decide), Int.emod_lt_of_pos _ ppos⟩
theorem mod_small {x : Int} (h : 0 ≤ x ∧ x < P) : x % P = x := Int.emod_eq_of_lt h.1 h.2
/-- A round of the fast power. -/
theorem pow_even {v a C : Int} {m : Nat} (h : P ∣ v * a ^ (2 * m) - C) : P ∣ v * (a * a % P) ^ m - C := by
  refine dvd_trans3 (mul_same (same_refl v) (pow_same (mod_same (a * a)) m)) ?_
  rw [Int.mul_pow, ← Int.pow_add, ← Nat.two_mul]
  exact h
theorem pow_odd {v a C : Int} {m : Nat} (h : P ∣ v * a ^ (2 * m + 1) - C) : P ∣ (v * a % P) * (a * a % P) ^ m - C := by
  refine pow_even (dvd_trans3 (mul_same (mod_same (v * a)) (same_refl _)) ?_)
  rw [Int.pow_succ] at h
  have e : v * a * a ^ (2 * m) = v * (a ^ (2 * m) * a) := by grind
  rw [e]; exact h
theorem pow_inv {a : Int} (ha : ¬ P ∣ a) {n : Nat} (hn : (n : Int) + 2 = P) : ∃ C : Int, P ∣ C * a - 1 ∧ P ∣ 1 * a ^ n - C := by
  refine ⟨a ^ n, ?_, by rw [Int.one_mul]; exact same_refl _⟩
  have := fermat ha (n := n + 1) (by omega)
  rwa [Int.pow_succ] at this
end Sp
end Go.Proofs.Ytemokedoeneibaa
