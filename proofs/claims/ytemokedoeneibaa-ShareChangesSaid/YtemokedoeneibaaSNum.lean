/- Numbers of the field: both sides. -/
import Derived.Test.YtemokedoeneibaaFer
import Derived.Test.YtemokedoeneibaaGen
namespace Go.Proofs.Ytemokedoeneibaa
open Go.RowKit Go.Maps Go.ChangeMaps Go.MapKept
open Sp
attribute [local go_sem ↓] Go.wp_at_zero Go.wp_at_succ

/-- A number of the field; a number of shares. -/
def inF (n : Int) : Bool := decide (0 ≤ n ∧ n < P)
def isN (n : Int) : Bool := decide (1 ≤ n ∧ n ≤ 20)
section
variable {w : World}
theorem g_plus {a b : Int} (ha : 0 ≤ a ∧ a ≤ 2147483648) (hb : 0 ≤ b ∧ b ≤ 2147483648) :
    Calls Try.prog 28 #[.int .i64 a, .int .i64 b] w fun e w' => e = .returned (.int .i64 ((a + b) % P)) ∧ w = w' := by
  go_enter Try.func28, Try.ntmps28
  go_wp2
  go_ret
  exact ⟨rfl, rfl⟩
theorem g_times {a b : Int} (ha : 0 ≤ a ∧ a < P) (hb : 0 ≤ b ∧ b < P) :
    Calls Try.prog 29 #[.int .i64 a, .int .i64 b] w fun e w' => e = .returned (.int .i64 (a * b % P)) ∧ w = w' := by
  have hp : 0 ≤ a * b := Int.mul_nonneg ha.1 hb.1
  have hq : a * b ≤ 2147483646 * 2147483646 := by
    have := P_eq
    exact Int.mul_le_mul (by omega) (by omega) hb.1 (by decide)
  go_enter Try.func29, Try.ntmps29
  go_wp2
  go_ret
  exact ⟨rfl, rfl⟩
theorem tmod_range (n : Int) : -2147483647 < n.tmod 2147483647 ∧ n.tmod 2147483647 < 2147483647 := by
  have := Int.natAbs_tmod n 2147483647
  rw [show (2147483647 : Int).natAbs = 2147483647 from rfl] at this
  have := Nat.mod_lt n.natAbs (show 0 < 2147483647 by decide)
  omega
theorem g_mod (n : Int) : Calls Try.prog 16 #[.int .i64 n] w fun e w' => e = .returned (.int .i64 (n % P)) ∧ w = w' := by
  have hr := tmod_range n
  have hm := go_mod n
  have HM := Lib.hid hm
  have hz : 0 ≤ n.tmod 2147483647 + 2147483647 := by omega
  clear hm
  go_enter Try.func16, Try.ntmps16
  go_wp2
  go_ret
  refine ⟨ret_int ?_, rfl⟩
  rw [← HM.out, Int.tmod_eq_emod_of_nonneg (show 0 ≤ n.tmod P + P from hz)]
  rfl
theorem g_minus {a b : Int} (ha : 0 ≤ a ∧ a ≤ 2147483648) (hb : 0 ≤ b ∧ b ≤ 2147483647) :
    Calls Try.prog 30 #[.int .i64 a, .int .i64 b] w fun e w' => e = .returned (.int .i64 ((a - b) % P)) ∧ w = w' := by
  have HC := Lib.hid (g_plus (w := w) ha (b := 2147483647 - b) (by omega))
  have HR := Lib.hid (show (a + (2147483647 - b)) % P = (a - b) % P from emod_same ⟨1, by rw [P_eq]; omega⟩)
  go_enter Try.func30, Try.ntmps30
  go_wp2_with (go_at_call 28; refine (HC.out).mono ?_; rintro e w1 ⟨rfl, rfl⟩; refine Hid.out ?_)
  refine Lib.hid ?_
  go_wp2
  go_ret
  exact ⟨ret_int HR.out, rfl⟩
theorem g_elem (n : Int) : Calls Try.prog 18 #[.int .i64 n] w fun e w' => e = .returned (.bool (inF n)) ∧ w = w' := by
  by_cases h0 : 0 ≤ n
  · by_cases h1 : n < 2147483647
    · have HR := Lib.hid (show inF n = true from decide_eq_true (show 0 ≤ n ∧ n < P from ⟨h0, h1⟩))
      go_enter Try.func18, Try.ntmps18
      go_wp2
      go_ret
      exact ⟨ret_bool HR.out.symm, rfl⟩
    · have HR := Lib.hid (show inF n = false from decide_eq_false (show ¬ (0 ≤ n ∧ n < P) from fun q => h1 q.2))
      go_enter Try.func18, Try.ntmps18
      go_wp2
      go_ret
      exact ⟨ret_bool HR.out.symm, rfl⟩
  · have HR := Lib.hid (show inF n = false from decide_eq_false (show ¬ (0 ≤ n ∧ n < P) from fun q => h0 q.1))
    go_enter Try.func18, Try.ntmps18
    go_wp2
    go_ret
    exact ⟨ret_bool HR.out.symm, rfl⟩
theorem g_count (n : Int) : Calls Try.prog 19 #[.int .i64 n] w fun e w' => e = .returned (.bool (isN n)) ∧ w = w' := by
  by_cases h0 : 1 ≤ n
  · by_cases h1 : n ≤ 20
    · have HR := Lib.hid (show isN n = true from decide_eq_true (show 1 ≤ n ∧ n ≤ 20 from ⟨h0, h1⟩))
      go_enter Try.func19, Try.ntmps19
      go_wp2
      go_ret
      exact ⟨ret_bool HR.out.symm, rfl⟩
    · have HR := Lib.hid (show isN n = false from decide_eq_false (show ¬ (1 ≤ n ∧ n ≤ 20) from fun q => h1 q.2))
      go_enter Try.func19, Try.ntmps19
      go_wp2
      go_ret
      exact ⟨ret_bool HR.out.symm, rfl⟩
  · have HR := Lib.hid (show isN n = false from decide_eq_false (show ¬ (1 ≤ n ∧ n ≤ 20) from fun q => h0 q.1))
    go_enter Try.func19, Try.ntmps19
    go_wp2
    go_ret
    exact ⟨ret_bool HR.out.symm, rfl⟩
theorem g_next {x : Int} (hx : 0 ≤ x ∧ x < 2147483648) :
    Calls Try.prog 27 #[.int .i64 x] w fun e w' => e = .returned (.int .i64 ((1103515245 * x + 12345) % 2147483648)) ∧ w = w' := by
  go_enter Try.func27, Try.ntmps27
  go_wp2
  go_ret
  exact ⟨rfl, rfl⟩
/-- The inverse, as a power. -/
theorem g_inverse {a : Int} (ha : 0 ≤ a ∧ a < P) (hn : ¬ P ∣ a) :
    Calls Try.prog 31 #[.int .i64 a] w fun e w' => ∃ b, e = .returned (.int .i64 b) ∧ 0 ≤ b ∧ b < P ∧ P ∣ b * a - 1 ∧ w = w' := by
  obtain ⟨C, hC, hstart⟩ := pow_inv hn (n := (2147483645 : Int).toNat) (by rfl)
  obtain ⟨E, hE⟩ : ∃ E : Nat, E = (2147483645 : Int).toNat := ⟨_, rfl⟩
  rw [← hE] at hstart
  have hEi : (2147483645 : Int) = (E : Int) := by omega
  have HC := Lib.hid hC
  have HS := Lib.hid hstart
  have HE := Lib.hid hEi
  have hP := P_eq
  clear hC hstart hE hEi hn
  go_enter Try.func31, Try.ntmps31
  go_wp2
  go_loopw [0, 3, 4] (fun x v n wr => ∃ (y u : Int) (m : Nat), x = .int .i64 y ∧ v = .int .i64 u ∧ n = .int .i64 (m : Int) ∧ m ≤ 2147483645 ∧ (0 ≤ y ∧ y < P) ∧ (0 ≤ u ∧ u < P) ∧ Hid (P ∣ u * y ^ m - C) ∧ w = wr) (fun _ _ n _ => (intOf n).toNat)
  case atStart => exact ⟨a, 1, E, rfl, rfl, by rw [HE.out], by have := HE.out; omega, ha, ⟨by decide, by decide⟩, HS, rfl⟩
  case round =>
    obtain ⟨y, u, m, rfl, rfl, rfl, hm, hy, hu, H, rfl⟩ := hrel
    have HA := Lib.hid (g_times (w := w) hy hy)
    have HU := Lib.hid (g_times (w := w) hu hy)
    by_cases h0 : 0 < m
    · rcases Nat.mod_two_eq_zero_or_one m with hpar | hpar
      · obtain ⟨q, rfl⟩ : ∃ q, m = 2 * q := ⟨m / 2, by omega⟩
        have HN := Lib.hid (pow_even H.out)
        have e1 : ((2 * q : Nat) : Int) % 2 = 0 := by omega
        have e2 : ((2 * q : Nat) : Int) / 2 = (q : Int) := by omega
        go_wp2_with (go_at_call 29; refine (HA.out).mono ?_; rintro e w1 ⟨rfl, rfl⟩; refine Hid.out ?_)
        refine Lib.hid ?_
        go_wp2
        go_roundw
        case rel => exact ⟨_, _, q, rfl, rfl, rfl, by omega, mod_in _, hu, HN, by trivial⟩
        case measure => simp only [intOf]; omega
      · obtain ⟨q, rfl⟩ : ∃ q, m = 2 * q + 1 := ⟨m / 2, by omega⟩
        have HN := Lib.hid (pow_odd H.out)
        have e1 : ((2 * q + 1 : Nat) : Int) % 2 = 1 := by omega
        have e2 : ((2 * q + 1 : Nat) : Int) / 2 = (q : Int) := by omega
        go_wp2_with (go_at_call 29; refine (HU.out).mono ?_; rintro e w1 ⟨rfl, rfl⟩; refine Hid.out ?_)
        refine Lib.hid ?_
        go_wp2_with (go_at_call 29; refine (HA.out).mono ?_; rintro e w1 ⟨rfl, rfl⟩; refine Hid.out ?_)
        refine Lib.hid ?_
        go_wp2
        go_roundw
        case rel => exact ⟨_, _, q, rfl, rfl, congrArg _ (by omega), by omega, mod_in _, mod_in _, HN, by trivial⟩
        case measure => simp only [intOf]; omega
    · obtain rfl : m = 0 := by omega
      go_wp2
      go_ret
      refine ⟨u, rfl, hu.1, hu.2, ?_, rfl⟩
      have h1 := H.out
      rw [Int.pow_zero, Int.mul_one] at h1
      exact dvd_trans3 (mul_same h1 (same_refl a)) HC.out
end
end Go.Proofs.Ytemokedoeneibaa
