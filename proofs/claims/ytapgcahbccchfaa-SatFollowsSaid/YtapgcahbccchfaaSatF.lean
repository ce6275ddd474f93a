/- What the statements of layer 8 say, plainly. No Go. -/
import Derived.Test.YtapgcahbccchfaaSat
namespace Go.Proofs.Ytapgcahbccchfaa
namespace St
theorem tru_even (b : List Bool) (v : Nat) : tru b (2 * (v : Int)) = b.getD v false := by
  unfold tru
  rw [show (2 * (v : Int)) / 2 = (v : Int) by omega, show (2 * (v : Int)) % 2 = 0 by omega]
  simp
theorem tru_odd (b : List Bool) (v : Nat) : tru b (2 * (v : Int) + 1) = !b.getD v false := by
  unfold tru
  rw [show (2 * (v : Int) + 1) / 2 = (v : Int) by omega, show (2 * (v : Int) + 1) % 2 = 1 by omega, Int.toNat_natCast]
  cases b.getD v false <;> rfl
theorem lit_in {n : Int} {v : Nat} (h : (v : Int) < n) : (0 ≤ 2 * (v : Int) ∧ 2 * (v : Int) < 2 * n) ∧ (0 ≤ 2 * (v : Int) + 1 ∧ 2 * (v : Int) + 1 < 2 * n) := by omega

/-! ### Clauses of one literal that fix values -/
def un (a : List Bool) (v : Nat) : Int := if a.getD v false = true then 2 * (v : Int) else 2 * (v : Int) + 1
def units (a : List Bool) (k : Nat) : List Cl := (List.range k).map fun v => (un a v, un a v)
theorem units_len (a : List Bool) (k : Nat) : (units a k).length = k := by simp [units]
theorem units_next (a : List Bool) (k : Nat) : units a (k + 1) = units a k ++ [(un a k, un a k)] := by simp [units, List.range_succ]
theorem un_in {n : Int} {a : List Bool} {v : Nat} (h : (v : Int) < n) : 0 ≤ un a v ∧ un a v < 2 * n := by unfold un; split <;> omega
theorem units_in {n : Int} {a : List Bool} {k : Nat} (h : (k : Int) ≤ n) : ∀ c ∈ units a k, (0 ≤ c.1 ∧ c.1 < 2 * n) ∧ (0 ≤ c.2 ∧ c.2 < 2 * n) := by
  intro c hc
  obtain ⟨v, hv, rfl⟩ := List.mem_map.1 hc
  have hv := List.mem_range.1 hv
  exact ⟨un_in (by omega), un_in (by omega)⟩
theorem tru_un {a b : List Bool} {v : Nat} : tru b (un a v) = (b.getD v false == a.getD v false) := by
  unfold un
  cases h : a.getD v false with
  | true => rw [if_pos rfl, tru_even]; cases b.getD v false <;> rfl
  | false => rw [if_neg (by simp), tru_odd]; cases b.getD v false <;> rfl
theorem sat_units {a b : List Bool} {k : Nat} : sat (units a k) b = true ↔ ∀ v, v < k → b.getD v false = a.getD v false := by
  rw [sat_iff]
  constructor
  · intro h v hv
    have := h (un a v, un a v) (List.mem_map.2 ⟨v, List.mem_range.2 hv, rfl⟩)
    simp only [or_self, tru_un, beq_iff_eq] at this
    exact this
  · intro h c hc
    obtain ⟨v, hv, rfl⟩ := List.mem_map.1 hc
    left; rw [tru_un, beq_iff_eq]; exact h v (List.mem_range.1 hv)
theorem take_of_getD {a b : List Bool} {k : Nat} (hl : a.length = b.length) (h : ∀ v, v < k → b.getD v false = a.getD v false) : a.take k = b.take k := by
  apply List.ext_getElem?
  intro j
  rw [List.getElem?_take, List.getElem?_take]
  split
  · rename_i hj
    by_cases hja : j < a.length
    · have := h j hj
      simp only [List.getD, List.getElem?_eq_getElem hja, List.getElem?_eq_getElem (show j < b.length by omega), Option.getD_some] at this
      rw [List.getElem?_eq_getElem hja, List.getElem?_eq_getElem (show j < b.length by omega), this]
    · rw [List.getElem?_eq_none (by omega), List.getElem?_eq_none (by omega)]
  · rfl
theorem one_right {l : List Cl} {n : Int} {a : List Bool} {k : Nat} {x : Int} (h : right l n = true) (hl : l.length ≤ 1000) (hk : (k : Int) ≤ n) (hx : 0 ≤ x ∧ x < 2 * n) : right (l ++ units a k ++ [(x, x)]) n = true := by
  have hn := (right_iff.1 h).1
  refine right_app (right_app h (by rw [units_len]; omega) (units_in hk)) (by rw [List.length_append, units_len]; simp; omega) fun c hc => ?_
  simp at hc; subst hc; exact ⟨hx, hx⟩
/-- Where the first assignment is true, nothing with these values before and false there satisfies. -/
theorem first_no {l : List Cl} {n : Int} {a : List Bool} {k : Nat} (h : Fst l n a) (hk : a[k]? = some true) : ¬ Can (l ++ units a k ++ [(2 * (k : Int) + 1, 2 * (k : Int) + 1)]) n := by
  rintro ⟨b, hb⟩
  obtain ⟨hr, hlen, hs⟩ := check_iff.1 hb
  rw [sat_app, sat_app, Bool.and_eq_true, Bool.and_eq_true, sat_units] at hs
  have hln := len_of h.ok
  have hc : check l n b = true := check_iff.2 ⟨(check_iff.1 h.ok).1, hlen, hs.1.1⟩
  have := h.least b hc k (take_of_getD (by omega) hs.1.2) hk
  have h2 := sat_iff.1 hs.2 (2 * (k : Int) + 1, 2 * (k : Int) + 1) (by simp)
  simp only [or_self, tru_odd, List.getD, this] at h2
  cases h2
/-- Values that satisfy too, and where they first differ. -/
theorem first_at {l : List Cl} {n : Int} {a b : List Bool} {k : Nat} (h : Fst l n a) (hb : check l n b = true) (ht : a.take k = b.take k) (hne : a[k]? ≠ b[k]?) : a[k]? ≠ some true := fun e => hne (by rw [e, h.least b hb k ht e])
theorem getD_at {a : List Bool} {k : Nat} {x : Bool} (h : a[k]? = some x) : a.getD k false = x := by simp [List.getD, h]
theorem un_true {a : List Bool} {k : Nat} (h : a[k]? = some true) : un a k = 2 * (k : Int) := by unfold un; rw [getD_at h, if_pos rfl]
theorem un_false {a : List Bool} {k : Nat} (h : a[k]? = some false) : un a k = 2 * (k : Int) + 1 := by unfold un; rw [getD_at h, if_neg (by simp)]

/-! ### What follows -/
def oppc (xs : List Int) : List Cl := xs.map fun x => (opp x, opp x)
theorem oppc_len (xs : List Int) : (oppc xs).length = xs.length := by simp [oppc]
theorem oppc_right {l : List Cl} {n : Int} {xs : List Int} (h : right l n = true) (hl : l.length + xs.length ≤ 4000) (hx : lits n xs = true) : right (l ++ oppc xs) n = true := by
  refine right_app h (by rw [oppc_len]; exact hl) fun c hc => ?_
  obtain ⟨x, hx', rfl⟩ := List.mem_map.1 hc
  have := opp_lit (lits_iff.1 hx x hx')
  exact ⟨this, this⟩
theorem sat_oppc {xs : List Int} {b : List Bool} : sat (oppc xs) b = true ↔ ∀ x ∈ xs, tru b x = false := by
  rw [sat_iff]
  constructor
  · intro h x hx
    have := h (opp x, opp x) (List.mem_map.2 ⟨x, hx, rfl⟩)
    simp only [or_self, tru_opp, Bool.not_eq_true'] at this
    exact this
  · intro h c hc
    obtain ⟨x, hx, rfl⟩ := List.mem_map.1 hc
    left; rw [tru_opp, h x hx]; rfl
theorem follows_can {l : List Cl} {n : Int} {xs : List Int} (h : right l n = true) (hl : l.length + xs.length ≤ 4000) (hx : lits n xs = true) : follows l n xs = true ↔ ¬ Can (l ++ oppc xs) n := by
  rw [follows_iff]
  constructor
  · rintro ⟨_, _, hf⟩ ⟨b, hb⟩
    obtain ⟨_, hlen, hs⟩ := check_iff.1 hb
    rw [sat_app, Bool.and_eq_true, sat_oppc] at hs
    obtain ⟨x, hx, ht⟩ := hf b (check_iff.2 ⟨h, hlen, hs.1⟩)
    rw [hs.2 x hx] at ht; cases ht
  · intro hc
    refine ⟨h, hx, fun b hb => Classical.byContradiction fun hn => hc ⟨b, ?_⟩⟩
    obtain ⟨_, hlen, hs⟩ := check_iff.1 hb
    refine check_iff.2 ⟨oppc_right h hl hx, hlen, ?_⟩
    rw [sat_app, hs, Bool.true_and, sat_oppc]
    intro x hx'
    cases ht : tru b x with
    | false => rfl
    | true => exact (hn ⟨x, hx', ht⟩).elim
theorem follows_bad {l : List Cl} {n : Int} {xs : List Int} {x : Int} (hx : x ∈ xs) (hb : ¬ (0 ≤ x ∧ x < 2 * n)) : follows l n xs = false := by
  cases h : follows l n xs with
  | false => rfl
  | true => exact (hb (lits_iff.1 (follows_iff.1 h).2.1 x hx)).elim
theorem check_less {l m : List Cl} {n : Int} {b : List Bool} (h : right l n = true) (hc : check (l ++ m) n b = true) : check l n b = true := by
  obtain ⟨_, h2, h3⟩ := check_iff.1 hc
  rw [sat_app, Bool.and_eq_true] at h3
  exact check_iff.2 ⟨h, h2, h3.1⟩
theorem follows_more {l m : List Cl} {n : Int} {xs : List Int} (hm : right (l ++ m) n = true) (h : follows l n xs = true) : follows (l ++ m) n xs = true := by
  obtain ⟨h1, h2, h3⟩ := follows_iff.1 h
  exact follows_iff.2 ⟨hm, h2, fun b hb => h3 b (check_less h1 hb)⟩
theorem follows_clause {l : List Cl} {n : Int} {c : Cl} (hm : right (l ++ [c]) n = true) : follows (l ++ [c]) n [c.1, c.2] = true := by
  refine follows_iff.2 ⟨hm, lits_iff.2 fun x hx => ?_, fun b hb => ?_⟩
  · have := (right_iff.1 hm).2.2 c (by simp)
    simp at hx
    rcases hx with rfl | rfl
    · exact this.1
    · exact this.2
  · have := sat_iff.1 (check_iff.1 hb).2.2 c (by simp)
    rcases this with q | q
    · exact ⟨c.1, by simp, q⟩
    · exact ⟨c.2, by simp, q⟩
theorem follows_lit {l : List Cl} {n : Int} {xs : List Int} {y : Int} (h : follows l n xs = true) (hy : 0 ≤ y ∧ y < 2 * n) : follows l n (xs ++ [y]) = true := by
  obtain ⟨h1, h2, h3⟩ := follows_iff.1 h
  refine follows_iff.2 ⟨h1, lits_iff.2 fun x hx => ?_, fun b hb => ?_⟩
  · rcases List.mem_append.1 hx with q | q
    · exact lits_iff.1 h2 x q
    · simp at q; subst q; exact hy
  · obtain ⟨x, hx, ht⟩ := h3 b hb
    exact ⟨x, List.mem_append_left _ hx, ht⟩

/-! ### What is forced -/
theorem follows_one {l : List Cl} {n : Int} {x : Int} (h : right l n = true) (hx : 0 ≤ x ∧ x < 2 * n) : follows l n [x] = true ↔ ∀ b, check l n b = true → tru b x = true := by
  rw [follows_iff]
  constructor
  · rintro ⟨_, _, h3⟩ b hb
    obtain ⟨y, hy, ht⟩ := h3 b hb
    simp at hy; subst hy; exact ht
  · intro h3
    exact ⟨h, lits_iff.2 fun y hy => by simp at hy; subst hy; exact hx, fun b hb => ⟨x, by simp, h3 b hb⟩⟩
theorem not_both {l : List Cl} {n : Int} {v : Nat} (hc : Can l n) (hv : (v : Int) < n) (h : follows l n [2 * (v : Int)] = true) : follows l n [2 * (v : Int) + 1] = false := by
  cases h2 : follows l n [2 * (v : Int) + 1] with
  | false => rfl
  | true =>
    obtain ⟨b, hb⟩ := hc
    have hr := (check_iff.1 hb).1
    have e1 := (follows_one hr (lit_in hv).1).1 h b hb
    have e2 := (follows_one hr (lit_in hv).2).1 h2 b hb
    rw [tru_even] at e1
    rw [tru_odd, e1] at e2; cases e2
theorem forc_yes {l : List Cl} {n : Int} {v : Nat} : (forc l n v = 1) ↔ follows l n [2 * (v : Int)] = true := by
  unfold forc
  by_cases h : follows l n [2 * (v : Int)] = true
  · simp [h]
  · rw [if_neg h]
    constructor
    · intro q; split at q <;> omega
    · intro q; exact (h q).elim
theorem forc_no {l : List Cl} {n : Int} {v : Nat} (hc : Can l n) (hv : (v : Int) < n) : (forc l n v = 0) ↔ follows l n [2 * (v : Int) + 1] = true := by
  unfold forc
  by_cases h : follows l n [2 * (v : Int)] = true
  · rw [if_pos h, not_both hc hv h]; simp
  · rw [if_neg h]
    by_cases h2 : follows l n [2 * (v : Int) + 1] = true
    · rw [if_pos h2]; simp [h2]
    · rw [if_neg h2]; simp [h2]
theorem forc_range (l : List Cl) (n : Int) (v : Nat) : -1 ≤ forc l n v ∧ forc l n v ≤ 1 := by unfold forc; split; omega; split <;> omega
theorem forc_val {l : List Cl} {n : Int} {v : Nat} {a : List Bool} (ha : check l n a = true) (hv : (v : Int) < n) (h : 0 ≤ forc l n v) : a.getD v false = decide (forc l n v = 1) := by
  have hr := (check_iff.1 ha).1
  by_cases h1 : forc l n v = 1
  · have := (follows_one hr (lit_in hv).1).1 (forc_yes.1 h1) a ha
    rw [tru_even] at this
    rw [this, decide_eq_true h1]
  · have h0 : forc l n v = 0 := by have := forc_range l n v; omega
    have := (follows_one hr (lit_in hv).2).1 ((forc_no ⟨a, ha⟩ hv).1 h0) a ha
    rw [tru_odd] at this
    rw [decide_eq_false h1]; simpa using this
noncomputable def frc1 (l : List Cl) (n : Int) (v : Nat) : List Cl := (if follows l n [2 * (v : Int)] = true then [(2 * (v : Int), 2 * (v : Int))] else []) ++ (if follows l n [2 * (v : Int) + 1] = true then [(2 * (v : Int) + 1, 2 * (v : Int) + 1)] else [])
noncomputable def frc (l : List Cl) (n : Int) (k : Nat) : List Cl := (List.range k).flatMap (frc1 l n)
theorem frc_next (l : List Cl) (n : Int) (k : Nat) : frc l n (k + 1) = frc l n k ++ frc1 l n k := by simp [frc, List.range_succ]
theorem frc1_len (l : List Cl) (n : Int) (v : Nat) : (frc1 l n v).length ≤ 2 := by unfold frc1; rw [List.length_append]; split <;> split <;> simp
theorem frc_len (l : List Cl) (n : Int) (k : Nat) : (frc l n k).length ≤ 2 * k := by
  induction k with
  | zero => simp [frc]
  | succ k ih => rw [frc_next, List.length_append]; have := frc1_len l n k; omega
theorem frc_mem {l : List Cl} {n : Int} {k : Nat} (h : right l n = true) (hk : (k : Int) ≤ n) : ∀ c ∈ frc l n k, ((0 ≤ c.1 ∧ c.1 < 2 * n) ∧ (0 ≤ c.2 ∧ c.2 < 2 * n)) ∧ ∀ b, check l n b = true → tru b c.1 = true := by
  intro c hc
  unfold frc at hc
  rw [List.mem_flatMap] at hc
  obtain ⟨v, hv, hc⟩ := hc
  have hv : (v : Int) < n := by have := List.mem_range.1 hv; omega
  unfold frc1 at hc
  rcases List.mem_append.1 hc with q | q
  · split at q
    · rename_i hf
      simp at q; subst q
      exact ⟨⟨(lit_in hv).1, (lit_in hv).1⟩, (follows_one h (lit_in hv).1).1 hf⟩
    · cases q
  · split at q
    · rename_i hf
      simp at q; subst q
      exact ⟨⟨(lit_in hv).2, (lit_in hv).2⟩, (follows_one h (lit_in hv).2).1 hf⟩
    · cases q
theorem frc_check {l : List Cl} {n : Int} {k : Nat} (h : right l n = true) (hl : l.length ≤ 1000) (hk : (k : Int) ≤ n) : ∀ b, check (l ++ frc l n k) n b = check l n b := by
  intro b
  have hn := (right_iff.1 h).1
  have hm := frc_mem h hk
  have hr : right (l ++ frc l n k) n = true := right_app h (by have := frc_len l n k; omega) fun c hc => (hm c hc).1
  rw [Bool.eq_iff_iff]
  constructor
  · exact check_less h
  · intro hb
    obtain ⟨_, h2, h3⟩ := check_iff.1 hb
    refine check_iff.2 ⟨hr, h2, ?_⟩
    rw [sat_app, h3, Bool.true_and, sat_iff]
    exact fun c hc => .inl ((hm c hc).2 b hb)
theorem same_follows {l m : List Cl} {n : Int} (h : right l n = true) (hm : right m n = true) (hc : ∀ b, check m n b = check l n b) (xs : List Int) : follows m n xs = follows l n xs := by
  rw [Bool.eq_iff_iff, follows_iff, follows_iff, h, hm]
  simp only [hc]
theorem frc_right {l : List Cl} {n : Int} {k : Nat} (h : right l n = true) (hl : l.length ≤ 1000) (hk : (k : Int) ≤ n) : right (l ++ frc l n k) n = true :=
  right_app h (by have := frc_len l n k; have := (right_iff.1 h).1; omega) fun c hc => (frc_mem h hk c hc).1
open Classical in
theorem forced_again {l : List Cl} {n : Int} {k : Nat} (h : right l n = true) (hl : l.length ≤ 1000) (hk : (k : Int) ≤ n) : forced (l ++ frc l n k) n = forced l n := by
  have hr := frc_right h hl hk
  have hc := frc_check h hl hk
  have hf := same_follows h hr hc
  have hcan : Can (l ++ frc l n k) n = Can l n := by unfold Can; simp only [hc]
  have hfc : forc (l ++ frc l n k) n = forc l n := by funext v; unfold forc; rw [hf, hf]
  unfold forced
  rw [h, hr, hcan, hfc]

/-! ### All assignments, in order -/
def aft : Nat → Nat → List Bool
  | 0, _ => []
  | n + 1, k => decide (k / 2 ^ n % 2 = 1) :: aft n k
def num : List Bool → Nat
  | [] => 0
  | x :: l => (if x = true then 2 ^ l.length else 0) + num l
theorem aft_len : ∀ n k, (aft n k).length = n
  | 0, _ => rfl
  | n + 1, k => by show (aft n k).length + 1 = _; rw [aft_len n k]
theorem num_lt : ∀ b : List Bool, num b < 2 ^ b.length
  | [] => by decide
  | x :: l => by
    have := num_lt l
    show (if x = true then 2 ^ l.length else 0) + num l < 2 ^ (l.length + 1)
    rw [Nat.pow_succ]; split <;> omega
theorem aft_mod : ∀ (n k m : Nat), aft n (k + 2 ^ n * m) = aft n k
  | 0, _, _ => rfl
  | n + 1, k, m => by
    show decide ((k + 2 ^ (n + 1) * m) / 2 ^ n % 2 = 1) :: aft n (k + 2 ^ (n + 1) * m) = decide (k / 2 ^ n % 2 = 1) :: aft n k
    have hp : 0 < 2 ^ n := Nat.two_pow_pos n
    have e1 : k + 2 ^ (n + 1) * m = k + 2 ^ n * (2 * m) := by rw [Nat.pow_succ, Nat.mul_assoc]
    rw [e1, aft_mod n k (2 * m), Nat.add_mul_div_left _ _ hp, Nat.add_mul_mod_self_left]
theorem aft_num : ∀ b : List Bool, aft b.length (num b) = b
  | [] => rfl
  | x :: l => by
    show decide (((if x = true then 2 ^ l.length else 0) + num l) / 2 ^ l.length % 2 = 1) :: aft l.length ((if x = true then 2 ^ l.length else 0) + num l) = x :: l
    have h := num_lt l
    have hp : 0 < 2 ^ l.length := Nat.two_pow_pos _
    have h0 : num l / 2 ^ l.length = 0 := Nat.div_eq_of_lt h
    cases x with
    | true =>
      rw [if_pos rfl]
      have e : 2 ^ l.length + num l = num l + 2 ^ l.length * 1 := by omega
      rw [e, aft_mod, aft_num l, Nat.add_mul_div_left _ _ hp, h0]; rfl
    | false =>
      rw [if_neg (by simp), Nat.zero_add, aft_num l, h0]; rfl
theorem num_aft : ∀ (n k : Nat), k < 2 ^ n → num (aft n k) = k
  | 0, k, h => by have : k = 0 := by simpa using h
                  subst this; rfl
  | n + 1, k, h => by
    show (if decide (k / 2 ^ n % 2 = 1) = true then 2 ^ (aft n k).length else 0) + num (aft n k) = k
    have hp : 0 < 2 ^ n := Nat.two_pow_pos n
    rw [Nat.pow_succ] at h
    rw [aft_len]
    have hd : k / 2 ^ n < 2 := (Nat.div_lt_iff_lt_mul hp).2 (by omega)
    have hm := Nat.div_add_mod k (2 ^ n)
    have hl := Nat.mod_lt k hp
    have e : aft n k = aft n (k % 2 ^ n) := by
      conv => lhs; rw [← hm, Nat.add_comm]
      exact aft_mod n _ _
    rw [e, num_aft n _ hl]
    rcases (show k / 2 ^ n = 0 ∨ k / 2 ^ n = 1 from by generalize k / 2 ^ n = z at hd; omega) with q | q
    · rw [q] at hm ⊢; simp at hm ⊢; omega
    · rw [q] at hm ⊢; simp at hm ⊢; omega
theorem num_less : ∀ (a b : List Bool) (k : Nat), a.length = b.length → a.take k = b.take k → a[k]? = some true → b[k]? = some false → num b < num a
  | [], _, k, _, _, h, _ => by simp at h
  | _ :: _, [], _, hl, _, _, _ => by simp at hl
  | x :: a, y :: b, 0, hl, _, h1, h2 => by
    simp at h1 h2; subst h1; subst h2
    have hl : a.length = b.length := by simpa using hl
    show (if false = true then 2 ^ b.length else 0) + num b < (if true = true then 2 ^ a.length else 0) + num a
    have := num_lt b
    rw [if_neg (by simp), if_pos rfl, hl]; omega
  | x :: a, y :: b, k + 1, hl, ht, h1, h2 => by
    simp at ht h1 h2
    have hl : a.length = b.length := by simpa using hl
    have := num_less a b k hl ht.2 h1 h2
    show (if y = true then 2 ^ b.length else 0) + num b < (if x = true then 2 ^ a.length else 0) + num a
    rw [ht.1, hl]; omega
/-- The first number whose assignment satisfies. -/
theorem first_aft {l : List Cl} {n k : Nat} (hk : k < 2 ^ n) (h : check l (n : Int) (aft n k) = true) (hn : ∀ j, j < k → check l (n : Int) (aft n j) = false) : Fst l (n : Int) (aft n k) := by
  refine ⟨h, fun b hb i ht hi => ?_⟩
  have hlb : b.length = n := by have := len_of hb; omega
  have hla := aft_len n k
  have hlt : i < b.length := by have := (List.getElem?_eq_some_iff.1 hi).1; omega
  cases hx : b[i]? with
  | none => rw [List.getElem?_eq_none_iff] at hx; omega
  | some x =>
    cases x with
    | true => rfl
    | false =>
      have h1 := num_less (aft n k) b i (by omega) ht hi hx
      rw [num_aft n k hk] at h1
      have h2 := hn _ h1
      have h3 := aft_num b
      rw [hlb] at h3
      rw [h3, hb] at h2; cases h2
theorem none_aft {l : List Cl} {n : Nat} (h : ∀ j, j < 2 ^ n → check l (n : Int) (aft n j) = false) : ¬ Can l (n : Int) := by
  rintro ⟨b, hb⟩
  have hlb : b.length = n := by have := len_of hb; omega
  have h1 := num_lt b
  rw [hlb] at h1
  have h2 := h _ h1
  have h3 := aft_num b
  rw [hlb] at h3
  rw [h3, hb] at h2; cases h2
theorem follows_aft {l : List Cl} {n : Nat} {xs : List Int} (h : right l (n : Int) = true) (hx : lits (n : Int) xs = true) : follows l (n : Int) xs = true ↔ ∀ j, j < 2 ^ n → check l (n : Int) (aft n j) = true → ∃ x ∈ xs, tru (aft n j) x = true := by
  rw [follows_iff]
  constructor
  · exact fun q j _ hc => q.2.2 _ hc
  · intro q
    refine ⟨h, hx, fun b hb => ?_⟩
    have hlb : b.length = n := by have := len_of hb; omega
    have h1 := num_lt b
    have h3 := aft_num b
    rw [hlb] at h1 h3
    have := q _ h1
    rw [h3] at this
    exact this hb
end St
end Go.Proofs.Ytapgcahbccchfaa
