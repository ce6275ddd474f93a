/- Shares: sums, changes, and small facts on how Go calculates in the field. No Go. -/
import Derived.Test.YtemokedoeneibaaSpl
namespace Go.Proofs.Ytemokedoeneibaa
namespace Sp
/-- Shares at 1, 2, .., n with these values. -/
def row (n : Nat) (y : Nat → Int) : List Pt := (List.range n).map fun (j : Nat) => ((j : Int) + 1, y j)
theorem row_len (n : Nat) (y : Nat → Int) : (row n y).length = n := by simp [row]
theorem row_get {n : Nat} {y : Nat → Int} {j : Nat} (h : j < n) : (row n y)[j]? = some ((j : Int) + 1, y j) := by simp [row, h]
theorem row_mem {n : Nat} {y : Nat → Int} {q : Pt} (h : q ∈ row n y) : ∃ j, j < n ∧ q = ((j : Int) + 1, y j) := by
  obtain ⟨j, hj, rfl⟩ := List.mem_map.1 h
  exact ⟨j, List.mem_range.1 hj, rfl⟩
theorem mem_row {n : Nat} {y : Nat → Int} {j : Nat} (h : j < n) : ((j : Int) + 1, y j) ∈ row n y := List.mem_map.2 ⟨j, List.mem_range.2 h, rfl⟩
theorem sp_row (secret seed : Int) (k n : Nat) : sp secret seed k n = row n fun j => ev (cf secret seed k) ((j : Int) + 1) % P := rfl
theorem row_places (n : Nat) (y z : Nat → Int) : (row n y).map (·.1) = (row n z).map (·.1) := by simp [row]
theorem nodup_map {α β : Type} {f : α → β} : ∀ {l : List α}, l.Nodup → (∀ a ∈ l, ∀ b ∈ l, f a = f b → a = b) → (l.map f).Nodup
  | [], _, _ => List.nodup_nil
  | a :: l, hn, hf => by
    obtain ⟨h1, h2⟩ := List.nodup_cons.1 hn
    rw [List.map_cons]
    refine List.nodup_cons.2 ⟨fun hm => ?_, nodup_map h2 fun b hb c hc => hf b (by simp [hb]) c (by simp [hc])⟩
    obtain ⟨b, hb, he⟩ := List.mem_map.1 hm
    exact h1 (hf b (by simp [hb]) a (by simp) he ▸ hb)
theorem row_nodup (n : Nat) (y : Nat → Int) : (row n y).Nodup := nodup_map List.nodup_range fun a _ b _ h => by
  have := congrArg Prod.fst h; simp only at this; omega
theorem row_places_nodup (n : Nat) (y : Nat → Int) : ((row n y).map (·.1)).Nodup := nodup_map (row_nodup n y) fun a ha b hb h => by
  obtain ⟨i, _, rfl⟩ := row_mem ha
  obtain ⟨j, _, rfl⟩ := row_mem hb
  simp only at h
  obtain rfl : i = j := by omega
  rfl
theorem row_wrong {n k : Nat} {y : Nat → Int} (h1 : 1 ≤ k) (h2 : k ≤ 20) (hn : n ≤ 20) (hy : ∀ j, j < n → 0 ≤ y j ∧ y j < P) : wrong (row n y) (k : Int) = 0 :=
  wrong_not (by omega) (by omega) (fun q hq => by
    obtain ⟨j, hj, rfl⟩ := row_mem hq
    have := hy j hj
    exact ⟨by show 1 ≤ (j : Int) + 1; omega, by show (j : Int) + 1 ≤ 20; omega, this⟩) (row_places_nodup n y)
/-- Shares on a polynomial with k factors join to its value at 0. -/
theorem row_join {n k : Nat} {y : Nat → Int} {cs : List Int} (h1 : 1 ≤ k) (h2 : k ≤ n) (hn : n ≤ 20) (hy : ∀ j, j < n → 0 ≤ y j ∧ y j < P) (hc : cs.length = k) (he : ∀ j, j < n → P ∣ ev cs ((j : Int) + 1) - y j) : join (row n y) (k : Int) = (ev cs 0 % P, 0) :=
  join_ok (row_wrong h1 (by omega) hn hy) (by rw [row_len]; omega) (by rw [hc]; rfl) fun q hq => by
    obtain ⟨j, hj, rfl⟩ := row_mem hq
    exact he j hj
/-- P6.6: the sums of the shares of two secrets. -/
theorem sum_join (a b seed again : Int) {k n : Nat} (h1 : 1 ≤ k) (h2 : k ≤ n) (hn : n ≤ 20) :
    join (row n fun j => (ev (cf a seed k) ((j : Int) + 1) % P + ev (cf b again k) ((j : Int) + 1) % P) % P) (k : Int) = ((a + b) % P, 0) := by
  rw [row_join (cs := add (cf a seed k) (cf b again k)) h1 h2 hn (fun j _ => ⟨Int.emod_nonneg _ (by decide), Int.emod_lt_of_pos _ ppos⟩) (by rw [add_len, cf_len h1, cf_len h1, Nat.max_self]) fun j _ => ?_, add_ev, cf_zero, cf_zero]
  rw [add_ev]
  refine dvd_trans3 (b := ev (cf a seed k) ((j : Int) + 1) % P + ev (cf b again k) ((j : Int) + 1) % P) ?_ (dvd_emod _)
  have := Int.dvd_add (dvd_emod (ev (cf a seed k) ((j : Int) + 1))) (dvd_emod (ev (cf b again k) ((j : Int) + 1)))
  have e : ∀ x y u v : Int, x - u + (y - v) = x + y - (u + v) := fun x y u v => by omega
  rwa [e] at this
/-- P6.6: one number added to all shares. -/
theorem more_join (a b seed : Int) {k n : Nat} (h1 : 1 ≤ k) (h2 : k ≤ n) (hn : n ≤ 20) :
    join (row n fun j => (ev (cf a seed k) ((j : Int) + 1) % P + b) % P) (k : Int) = ((a + b) % P, 0) := by
  rw [row_join (cs := add (cf a seed k) [b]) h1 h2 hn (fun j _ => ⟨Int.emod_nonneg _ (by decide), Int.emod_lt_of_pos _ ppos⟩) (by rw [add_len, cf_len h1]; simp; omega) fun j _ => ?_, add_ev, cf_zero]
  · simp [ev]
  · rw [add_ev]
    refine dvd_trans3 (b := ev (cf a seed k) ((j : Int) + 1) % P + b) ?_ (dvd_emod _)
    have := dvd_emod (ev (cf a seed k) ((j : Int) + 1))
    have e : ev (cf a seed k) ((j : Int) + 1) + ev [b] ((j : Int) + 1) - (ev (cf a seed k) ((j : Int) + 1) % P + b) = ev (cf a seed k) ((j : Int) + 1) - ev (cf a seed k) ((j : Int) + 1) % P := by simp [ev]; omega
    rw [e]; exact this

/-! ### P6.7: one share is changed -/
def bent (secret seed : Int) (k n i : Nat) (d : Int) : List Pt := row n fun j => if j = i then (ev (cf secret seed k) ((j : Int) + 1) % P + d) % P else ev (cf secret seed k) ((j : Int) + 1) % P
def rest (secret seed : Int) (k n i : Nat) : List Pt := (sp secret seed k n).eraseIdx i
section
variable {secret seed d : Int} {k n i : Nat}
theorem bent_val (j : Nat) : 0 ≤ (if j = i then (ev (cf secret seed k) ((j : Int) + 1) % P + d) % P else ev (cf secret seed k) ((j : Int) + 1) % P) ∧ (if j = i then (ev (cf secret seed k) ((j : Int) + 1) % P + d) % P else ev (cf secret seed k) ((j : Int) + 1) % P) < P := by
  split <;> exact ⟨Int.emod_nonneg _ (by decide), Int.emod_lt_of_pos _ ppos⟩
theorem bent_wrong (h1 : 1 ≤ k) (h2 : k ≤ n) (hn : n ≤ 20) : wrong (bent secret seed k n i d) (k : Int) = 0 := row_wrong h1 (by omega) hn fun j _ => bent_val j
theorem bent_len : (bent secret seed k n i d).length = n := row_len _ _
theorem bent_none (h1 : 1 ≤ k) (h2 : k ≤ n) (hn : n ≤ 20) (hs : 0 ≤ secret ∧ secret < P) : join (bent secret seed k n i 0) (k : Int) = (secret, 0) := by
  have e : bent secret seed k n i 0 = row n fun j => ev (cf secret seed k) ((j : Int) + 1) % P := by
    unfold bent
    congr 1
    funext j
    split
    · rw [Int.add_zero, Int.emod_emod_of_dvd _ (Int.dvd_refl _)]
    · rfl
  rw [e, row_join (cs := cf secret seed k) h1 h2 hn (fun j _ => ⟨Int.emod_nonneg _ (by decide), Int.emod_lt_of_pos _ ppos⟩) (cf_len h1) fun j _ => dvd_emod _, cf_zero, Int.emod_eq_of_lt hs.1 hs.2]
/-- A polynomial through the changed shares that agrees with the first one everywhere: there is no change. -/
theorem bent_no {ds : List Int} (hi : i < n) (hd : 0 < d ∧ d < P) (he : ∀ q ∈ bent secret seed k n i d, P ∣ ev ds q.1 - q.2) (ha : ∀ x, P ∣ ev ds x - ev (cf secret seed k) x) : False := by
  have h1 := he _ (mem_row hi)
  simp only [if_pos] at h1
  have h2 := dvd_trans3 (dvd_swap h1) (ha ((i : Int) + 1))
  have h3 := dvd_trans3 h2 (dvd_emod (ev (cf secret seed k) ((i : Int) + 1)))
  have h4 := dvd_trans3 (dvd_emod (ev (cf secret seed k) ((i : Int) + 1) % P + d)) h3
  have e : ev (cf secret seed k) ((i : Int) + 1) % P + d - ev (cf secret seed k) ((i : Int) + 1) % P = d := by omega
  rw [e] at h4
  exact not_dvd_small hd.1 hd.2 h4
theorem others (n i : Nat) : ∃ js : List Nat, js.Nodup ∧ (∀ j ∈ js, j < n ∧ j ≠ i) ∧ (i < n → js.length + 1 = n) ∧ ∀ j, j < n → j ≠ i → j ∈ js := by
  refine ⟨(List.range n).erase i, List.nodup_range.erase i, fun j hj => ?_, fun hi => ?_, fun j hj hne => ?_⟩
  · have := (List.nodup_range.mem_erase_iff).1 hj
    exact ⟨List.mem_range.1 this.2, this.1⟩
  · rw [List.length_erase_of_mem (List.mem_range.2 hi), List.length_range]; omega
  · exact (List.nodup_range.mem_erase_iff).2 ⟨hne, List.mem_range.2 hj⟩
theorem bent_agree {ds : List Int} {js : List Nat} (hj : ∀ j ∈ js, j < n ∧ j ≠ i) (he : ∀ q ∈ bent secret seed k n i d, P ∣ ev ds q.1 - q.2) {x : Int} (hx : x ∈ js.map fun (j : Nat) => (j : Int) + 1) : P ∣ ev ds x - ev (cf secret seed k) x := by
  obtain ⟨j, h1, rfl⟩ := List.mem_map.1 hx
  obtain ⟨h2, h3⟩ := hj j h1
  have h4 := he _ (mem_row h2)
  simp only [if_neg h3] at h4
  exact dvd_trans3 h4 (dvd_swap (dvd_emod _))
theorem places_diff {js : List Nat} (hd : js.Nodup) (hj : ∀ j ∈ js, j < 20) : Diff (js.map fun (j : Nat) => (j : Int) + 1) ∧ Diff (0 :: js.map fun (j : Nat) => (j : Int) + 1) := by
  have h1 : (js.map fun (j : Nat) => (j : Int) + 1).Nodup := nodup_map hd fun a _ b _ h => by omega
  have h2 : ∀ x ∈ js.map fun (j : Nat) => (j : Int) + 1, 1 ≤ x ∧ x ≤ 20 := fun x hx => by
    obtain ⟨j, hj', rfl⟩ := List.mem_map.1 hx
    have := hj j hj'; omega
  refine ⟨diff_of h1 fun x hx => by have := h2 x hx; omega, diff_of (List.nodup_cons.2 ⟨fun h => by have := h2 0 h; omega, h1⟩) fun x hx => ?_⟩
  rcases List.mem_cons.1 hx with rfl | hx
  · omega
  · have := h2 x hx; omega
theorem bent_more (h1 : 1 ≤ k) (h2 : k < n) (hn : n ≤ 20) (hi : i < n) (hd : 0 < d ∧ d < P) : join (bent secret seed k n i d) (k : Int) = (0, 18) := by
  refine join_check (bent_wrong h1 (by omega) hn) (by rw [bent_len]; omega) fun ⟨ds, hl, he⟩ => ?_
  obtain ⟨js, g1, g2, g3, _⟩ := others n i
  have hjl := g3 hi
  have hl' : ds.length = k := by rw [hl]; rfl
  exact bent_no hi hd he fun x => agree (places_diff g1 fun j hj => by have := g2 j hj; omega).1 (by rw [List.length_map]; omega) (by rw [List.length_map, cf_len h1]; omega) (fun y hy => bent_agree g2 he hy) x
theorem bent_same (h1 : 1 ≤ n) (hn : n ≤ 20) (hi : i < n) (hd : 0 < d ∧ d < P) : ∃ v, join (bent secret seed n n i d) (n : Int) = (v, 0) ∧ v ≠ secret := by
  have hw := bent_wrong (secret := secret) (seed := seed) (i := i) (d := d) h1 (Nat.le_refl n) hn
  obtain ⟨ds, hl, he⟩ := fit_few (diff_l hw) (show (bent secret seed n n i d).length ≤ n by rw [bent_len]; exact Nat.le_refl _)
  refine ⟨ev ds 0 % P, join_ok hw (by rw [bent_len]; omega) (by rw [hl]; rfl) he, fun e => ?_⟩
  obtain ⟨js, g1, g2, g3, _⟩ := others n i
  have hjl := g3 hi
  refine bent_no hi hd he fun x => agree (places_diff g1 fun j hj => by have := g2 j hj; omega).2 (by rw [List.length_cons, List.length_map]; omega) (by rw [List.length_cons, List.length_map, cf_len h1]; omega) (fun y hy => ?_) x
  rcases List.mem_cons.1 hy with rfl | hy
  · rw [cf_zero]
    have := dvd_emod (ev ds 0)
    rwa [e] at this
  · exact bent_agree g2 he hy
theorem rest_on {q : Pt} (h : q ∈ rest secret seed k n i) : q ∈ sp secret seed k n := List.mem_of_mem_eraseIdx h
theorem rest_nodup : (rest secret seed k n i).Nodup := (List.eraseIdx_sublist _ _).nodup (by rw [sp_row]; exact row_nodup _ _)
theorem rest_len (hi : i < n) : (rest secret seed k n i).length + 1 = n := by
  unfold rest; rw [List.length_eraseIdx, if_pos (by rw [sp_len]; exact hi), sp_len]; omega
theorem rest_more (h1 : 1 ≤ k) (h2 : k < n) (hn : n ≤ 20) (hi : i < n) (hs : 0 ≤ secret ∧ secret < P) : join (rest secret seed k n i) (k : Int) = (secret, 0) :=
  (some_join hn h1 (by omega) rest_nodup (fun _ hq => rest_on hq) (by have := rest_len (secret := secret) (seed := seed) (k := k) hi; omega) hs).1
theorem rest_same (h1 : 1 ≤ n) (hn : n ≤ 20) (hi : i < n) : join (rest secret seed n n i) (n : Int) = (0, 20) :=
  join_few (some_wrong hn h1 (Nat.le_refl n) rest_nodup fun _ hq => rest_on hq) (by have := rest_len (secret := secret) (seed := seed) (k := n) hi; omega)
end

/-! ### How Go calculates -/
/-- Mod. -/
theorem go_mod (n : Int) : (n.tmod P + P).tmod P = n % P := by
  have h1 := Int.emod_emod_of_dvd n (Int.dvd_refl P)
  have hp := ppos
  have hb : (n.tmod P).natAbs < P.natAbs := by
    have := Int.natAbs_tmod n P
    rw [this]; exact Nat.mod_lt _ (by decide)
  have hP := P_eq
  have hc : -P < n.tmod P ∧ n.tmod P < P := by omega
  rw [Int.tmod_eq_emod_of_nonneg (by omega)]
  have h2 : P ∣ (n.tmod P + P) - n := by
    have h3 : n.tmod P + P * n.tdiv P = n := Int.tmod_add_mul_tdiv n P
    refine ⟨1 - n.tdiv P, ?_⟩
    rw [Int.mul_sub, Int.mul_one]
    omega
  exact emod_same h2
/-- At most twenty different places. -/
theorem places_few {xs : List Int} (hd : xs.Nodup) (hr : ∀ x ∈ xs, 1 ≤ x ∧ x ≤ 20) : xs.length ≤ 20 := by
  have hs : ∀ x ∈ xs, x ∈ (List.range 20).map fun (j : Nat) => (j : Int) + 1 := fun x hx => by
    have := hr x hx
    exact List.mem_map.2 ⟨(x - 1).toNat, List.mem_range.2 (by omega), by omega⟩
  have := hd.length_le_of_subset (l₂ := (List.range 20).map fun (j : Nat) => (j : Int) + 1) hs
  simpa using this
end Sp
end Go.Proofs.Ytemokedoeneibaa
