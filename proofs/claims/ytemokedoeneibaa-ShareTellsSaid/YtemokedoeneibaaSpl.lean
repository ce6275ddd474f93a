/- Shares as plain functions, and what the statements ask of them. No Go. -/
import Derived.Test.YtemokedoeneibaaNewt
namespace Go.Proofs.Ytemokedoeneibaa
namespace Sp
/-- A share: its place and its value. -/
abbrev Pt := Int × Int
def okPt (q : Pt) : Bool := decide (1 ≤ q.1 ∧ q.1 ≤ 20 ∧ 0 ≤ q.2 ∧ q.2 < P)
/-- The error of shares. -/
def wrong (l : List Pt) (k : Int) : Int := if k < 1 ∨ 20 < k then 1 else if l.all okPt = true then if (l.map (·.1)).Nodup then 0 else 5 else 1
/-- There is a polynomial with k factors through all of them. -/
def Fit (l : List Pt) (k : Nat) : Prop := ∃ cs : List Int, cs.length = k ∧ ∀ q ∈ l, P ∣ ev cs q.1 - q.2
open Classical in
noncomputable def join (l : List Pt) (k : Int) : Int × Int :=
  if wrong l k ≠ 0 then (0, wrong l k) else if (l.length : Int) < k then (0, 20) else if h : Fit l k.toNat then (ev h.choose 0 % P, 0) else (0, 18)
def Fits (l : List Pt) (k s : Int) : Prop := wrong l k = 0 ∧ 0 ≤ s ∧ s < P ∧ Fit ((0, s) :: l) k.toNat

theorem P_eq : P = 2147483647 := rfl
theorem ppos : (0 : Int) < P := by decide
theorem wrong_ok {l : List Pt} {k : Int} (h : wrong l k = 0) : 1 ≤ k ∧ k ≤ 20 ∧ (∀ q ∈ l, 1 ≤ q.1 ∧ q.1 ≤ 20 ∧ 0 ≤ q.2 ∧ q.2 < P) ∧ (l.map (·.1)).Nodup := by
  unfold wrong at h
  split at h
  · exact absurd h (by decide)
  · split at h
    · rename_i h1
      split at h
      · rename_i h2
        refine ⟨by omega, by omega, fun q hq => ?_, h2⟩
        have := List.all_eq_true.1 h1 q hq
        simpa [okPt] using this
      · exact absurd h (by decide)
    · exact absurd h (by decide)
theorem wrong_not {l : List Pt} {k : Int} (h1 : 1 ≤ k) (h2 : k ≤ 20) (h3 : ∀ q ∈ l, 1 ≤ q.1 ∧ q.1 ≤ 20 ∧ 0 ≤ q.2 ∧ q.2 < P) (h4 : (l.map (·.1)).Nodup) : wrong l k = 0 := by
  unfold wrong
  rw [if_neg (by omega), if_pos (List.all_eq_true.2 fun q hq => by simpa [okPt] using h3 q hq), if_pos h4]
/-- Places that differ differ in the field too. -/
theorem diff_of : ∀ {xs : List Int}, xs.Nodup → (∀ x ∈ xs, 0 ≤ x ∧ x ≤ 20) → Diff xs
  | [], _, _ => trivial
  | x :: xs, hn, hr => by
    obtain ⟨h1, h2⟩ := List.nodup_cons.1 hn
    refine ⟨fun y hy hd => ?_, diff_of h2 fun y hy => hr y (by simp [hy])⟩
    have hx := hr x (by simp)
    have hy' := hr y (by simp [hy])
    have hP := P_eq
    have hne : y ≠ x := fun e => h1 (e ▸ hy)
    by_cases hlt : x < y
    · exact not_dvd_small (by omega) (by omega) hd
    · exact not_dvd_small (n := x - y) (by omega) (by omega) (dvd_swap hd)
theorem diff_l {l : List Pt} {k : Int} (h : wrong l k = 0) : Diff (l.map (·.1)) := by
  obtain ⟨_, _, h3, h4⟩ := wrong_ok h
  exact diff_of h4 fun x hx => by
    obtain ⟨q, hq, rfl⟩ := List.mem_map.1 hx
    have := h3 q hq; omega
theorem diff_0 {l : List Pt} {k s : Int} (h : wrong l k = 0) : Diff (((0, s) :: l).map (·.1)) := by
  obtain ⟨_, _, h3, h4⟩ := wrong_ok h
  refine diff_of ?_ fun x hx => ?_
  · rw [List.map_cons]
    refine List.nodup_cons.2 ⟨fun hm => ?_, h4⟩
    obtain ⟨q, hq, he⟩ := List.mem_map.1 hm
    have := h3 q hq
    simp only at he
    omega
  · rw [List.map_cons] at hx
    rcases List.mem_cons.1 hx with rfl | hx
    · simp
    · obtain ⟨q, hq, rfl⟩ := List.mem_map.1 hx
      have := h3 q hq; omega
theorem emod_same {a b : Int} (h : P ∣ a - b) : a % P = b % P := Int.emod_eq_emod_iff_emod_sub_eq_zero.2 (Int.emod_eq_zero_of_dvd h)
theorem same_small {a b : Int} (h : P ∣ a - b) (ha : 0 ≤ a ∧ a < P) (hb : 0 ≤ b ∧ b < P) : a = b := by
  have := emod_same h
  rwa [Int.emod_eq_of_lt ha.1 ha.2, Int.emod_eq_of_lt hb.1 hb.2] at this
theorem dvd_emod (a : Int) : P ∣ a - a % P := ⟨a / P, by have := Int.emod_add_mul_ediv a P; omega⟩
theorem dvd_trans3 {a b c : Int} (h1 : P ∣ a - b) (h2 : P ∣ b - c) : P ∣ a - c := by
  have := Int.dvd_add h1 h2
  have e : a - b + (b - c) = a - c := by omega
  rwa [e] at this
/-- More factors, all 0. -/
theorem ev_pad (x : Int) : ∀ (cs : List Int) (n : Nat), ev (cs ++ List.replicate n 0) x = ev cs x
  | [], 0 => rfl
  | [], n + 1 => by
    have := ev_pad x [] n
    simp only [List.nil_append, List.replicate_succ, ev] at this ⊢
    rw [this]; simp
  | c :: cs, n => by simp only [List.cons_append, ev, ev_pad x cs n]
theorem fit_few {l : List Pt} {k : Nat} (h : Diff (l.map (·.1))) (hl : l.length ≤ k) : Fit l k := by
  obtain ⟨cs, h1, h2⟩ := through l h
  exact ⟨cs ++ List.replicate (k - cs.length) 0, by simp; omega, fun q hq => by rw [ev_pad]; exact h2 q hq⟩
theorem fit_sub {l m : List Pt} {k : Nat} (h : Fit l k) (hs : ∀ q ∈ m, q ∈ l) : Fit m k := by
  obtain ⟨cs, h1, h2⟩ := h
  exact ⟨cs, h1, fun q hq => h2 q (hs q hq)⟩
/-- Enough shares through which there is a polynomial join to its value at 0. -/
theorem join_ok {l : List Pt} {k : Int} {cs : List Int} (hw : wrong l k = 0) (hl : k ≤ (l.length : Int)) (hc : cs.length = k.toNat) (he : ∀ q ∈ l, P ∣ ev cs q.1 - q.2) : join l k = (ev cs 0 % P, 0) := by
  have hf : Fit l k.toNat := ⟨cs, hc, he⟩
  have hk := (wrong_ok hw).1
  unfold join
  rw [if_neg (fun h => h hw), if_neg (by omega), dif_pos hf]
  obtain ⟨h1, h2⟩ := hf.choose_spec
  have := agree (xs := l.map (·.1)) (diff_l hw) (cs := hf.choose) (ds := cs) (by rw [List.length_map]; omega) (by rw [List.length_map]; omega) (fun x hx => by
    obtain ⟨q, hq, rfl⟩ := List.mem_map.1 hx
    exact dvd_trans3 (h2 q hq) (dvd_swap (he q hq))) 0
  rw [emod_same this]
theorem join_few {l : List Pt} {k : Int} (hw : wrong l k = 0) (hl : (l.length : Int) < k) : join l k = (0, 20) := by
  unfold join; rw [if_neg (fun h => h hw), if_pos hl]
theorem join_check {l : List Pt} {k : Int} (hw : wrong l k = 0) (hl : k ≤ (l.length : Int)) (hf : ¬ Fit l k.toNat) : join l k = (0, 18) := by
  unfold join; rw [if_neg (fun h => h hw), if_neg (by omega), dif_neg hf]
/-- Fewer than are enough fit every secret. -/
theorem fits_few {l : List Pt} {k s : Int} (hw : wrong l k = 0) (hl : (l.length : Int) < k) (hs : 0 ≤ s ∧ s < P) : Fits l k s :=
  ⟨hw, hs.1, hs.2, fit_few (diff_0 hw) (by simp; omega)⟩
/-- Enough of them fit one alone. -/
theorem fits_iff {l : List Pt} {k s : Int} {cs : List Int} (hw : wrong l k = 0) (hl : k ≤ (l.length : Int)) (hc : cs.length = k.toNat) (he : ∀ q ∈ l, P ∣ ev cs q.1 - q.2) (hs : 0 ≤ s ∧ s < P) : Fits l k s ↔ s = ev cs 0 % P := by
  have hk := (wrong_ok hw).1
  constructor
  · rintro ⟨_, _, _, ds, h1, h2⟩
    have := agree (xs := l.map (·.1)) (diff_l hw) (cs := ds) (ds := cs) (by rw [List.length_map]; omega) (by rw [List.length_map]; omega) (fun x hx => by
      obtain ⟨q, hq, rfl⟩ := List.mem_map.1 hx
      exact dvd_trans3 (h2 q (by simp [hq])) (dvd_swap (he q hq))) 0
    have h3 := h2 (0, s) (by simp)
    have h4 := dvd_trans3 (dvd_swap h3) this
    rw [← emod_same h4, Int.emod_eq_of_lt hs.1 hs.2]
  · rintro rfl
    refine ⟨hw, hs.1, hs.2, cs, hc, fun q hq => ?_⟩
    rcases List.mem_cons.1 hq with rfl | hq
    · exact dvd_emod _
    · exact he q hq

/-! ### Split -/
/-- The numbers of a seed. -/
def rnd (seed : Int) : Nat → Int
  | 0 => seed % 2147483648
  | n + 1 => (1103515245 * rnd seed n + 12345) % 2147483648
def cf (secret seed : Int) (k : Nat) : List Int := secret :: (List.range (k - 1)).map fun i => rnd seed (i + 1) % P
theorem cf_len {secret seed : Int} {k : Nat} (h : 1 ≤ k) : (cf secret seed k).length = k := by simp [cf]; omega
theorem cf_zero (secret seed : Int) (k : Nat) : ev (cf secret seed k) 0 = secret := by simp [cf, ev]
/-- The shares of a secret. -/
def sp (secret seed : Int) (k n : Nat) : List Pt := (List.range n).map fun (j : Nat) => ((j : Int) + 1, ev (cf secret seed k) ((j : Int) + 1) % P)
theorem sp_len (secret seed : Int) (k n : Nat) : (sp secret seed k n).length = n := by simp [sp]
theorem sp_on {secret seed : Int} {k n : Nat} {q : Pt} (h : q ∈ sp secret seed k n) : P ∣ ev (cf secret seed k) q.1 - q.2 := by
  obtain ⟨j, _, rfl⟩ := List.mem_map.1 h
  exact dvd_emod _
theorem sp_ok {secret seed : Int} {k n : Nat} (hn : n ≤ 20) {q : Pt} (h : q ∈ sp secret seed k n) : 1 ≤ q.1 ∧ q.1 ≤ 20 ∧ 0 ≤ q.2 ∧ q.2 < P := by
  obtain ⟨j, hj, rfl⟩ := List.mem_map.1 h
  have := List.mem_range.1 hj
  exact ⟨by show 1 ≤ (j : Int) + 1; omega, by show (j : Int) + 1 ≤ 20; omega, Int.emod_nonneg _ (by decide), Int.emod_lt_of_pos _ ppos⟩
/-- Shares of one Split at different places differ in nothing else. -/
theorem sp_inj {secret seed : Int} {k n : Nat} {q r : Pt} (hq : q ∈ sp secret seed k n) (hr : r ∈ sp secret seed k n) (h : q.1 = r.1) : q = r := by
  obtain ⟨i, _, rfl⟩ := List.mem_map.1 hq
  obtain ⟨j, _, rfl⟩ := List.mem_map.1 hr
  simp only at h
  obtain rfl : i = j := by omega
  rfl
theorem some_nodup {secret seed : Int} {k n : Nat} : ∀ {l : List Pt}, l.Nodup → (∀ q ∈ l, q ∈ sp secret seed k n) → (l.map (·.1)).Nodup
  | [], _, _ => List.nodup_nil
  | q :: l, hn, hs => by
    obtain ⟨h1, h2⟩ := List.nodup_cons.1 hn
    rw [List.map_cons]
    refine List.nodup_cons.2 ⟨fun hm => ?_, some_nodup h2 fun r hr => hs r (by simp [hr])⟩
    obtain ⟨r, hr, he⟩ := List.mem_map.1 hm
    exact h1 (sp_inj (hs q (by simp)) (hs r (by simp [hr])) he.symm ▸ hr)
/-- P6.5: some shares of a Split, each once. -/
theorem some_wrong {secret seed : Int} {k n : Nat} {l : List Pt} (hn : n ≤ 20) (h1 : 1 ≤ k) (h2 : k ≤ n) (hd : l.Nodup) (hs : ∀ q ∈ l, q ∈ sp secret seed k n) : wrong l (k : Int) = 0 :=
  wrong_not (by omega) (by omega) (fun q hq => sp_ok hn (hs q hq)) (some_nodup hd hs)
theorem some_join {secret seed : Int} {k n : Nat} {l : List Pt} (hn : n ≤ 20) (h1 : 1 ≤ k) (h2 : k ≤ n) (hd : l.Nodup) (hs : ∀ q ∈ l, q ∈ sp secret seed k n) (hl : k ≤ l.length) (h0 : 0 ≤ secret ∧ secret < P) :
    join l k = (secret, 0) ∧ ∀ x, 0 ≤ x ∧ x < P → (Fits l k x ↔ x = secret) := by
  have hw := some_wrong hn h1 h2 hd hs
  have hc : (cf secret seed k).length = ((k : Int)).toNat := by rw [cf_len h1]; rfl
  have hz : ev (cf secret seed k) 0 % P = secret := by rw [cf_zero, Int.emod_eq_of_lt h0.1 h0.2]
  refine ⟨?_, fun x hx => ?_⟩
  · rw [join_ok hw (by omega) hc fun q hq => sp_on (hs q hq), hz]
  · rw [fits_iff hw (by omega) hc (fun q hq => sp_on (hs q hq)) hx, hz]
end Sp
end Go.Proofs.Ytemokedoeneibaa
