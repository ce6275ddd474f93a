/- The value of the polynomial through points, as Lagrange has it; polynomials as Horner, with growing powers, and as Newton have them. No Go. -/
import Derived.Test.YtemokedoeneibaaFer
namespace Go.Proofs.Ytemokedoeneibaa
namespace Sp
open Classical in
/-- The value at x of the polynomial through points at different places. -/
noncomputable def lag (l : List Pt) (x : Int) : Int := if h : Diff (l.map (·.1)) then ev (through l h).choose x % P else 0
theorem lag_eq {l : List Pt} {cs : List Int} (h : Diff (l.map (·.1))) (hc : cs.length ≤ l.length) (he : ∀ q ∈ l, P ∣ ev cs q.1 - q.2) (x : Int) : lag l x = ev cs x % P := by
  unfold lag
  rw [dif_pos h]
  obtain ⟨h1, h2⟩ := (through l h).choose_spec
  refine emod_same (agree (xs := l.map (·.1)) h (by rw [List.length_map, h1]; exact Nat.le_refl _) (by rw [List.length_map]; exact hc) (fun y hy => ?_) x)
  obtain ⟨q, hq, rfl⟩ := List.mem_map.1 hy
  exact dvd_trans3 (h2 q hq) (dvd_swap (he q hq))
theorem lag_on {l : List Pt} (h : Diff (l.map (·.1))) : ∃ cs : List Int, cs.length = l.length ∧ (∀ q ∈ l, P ∣ ev cs q.1 - q.2) ∧ ∀ x, lag l x = ev cs x % P := by
  obtain ⟨cs, h1, h2⟩ := through l h
  exact ⟨cs, h1, h2, lag_eq h (by omega) h2⟩
theorem zeros_snoc (x a : Int) : ∀ xs : List Int, ev (zeros (xs ++ [a])) x = ev (zeros xs) x * (x - a)
  | [] => by simp [zeros, tim_ev, ev]
  | b :: xs => by
    have ih := zeros_snoc x a xs
    simp only [List.cons_append, zeros, tim_ev, ih]
    grind
/-- The places of the first m points, but for c. -/
def oth (l : List Pt) (c : Int) (m : Nat) : List Int := ((l.take m).map (·.1)).filter (· ≠ c)
theorem oth_skip {l : List Pt} {c : Int} {m : Nat} {q : Pt} (h : l[m]? = some q) (hc : q.1 = c) : oth l c (m + 1) = oth l c m := by
  unfold oth
  rw [List.take_add_one, h]
  simp [hc]
theorem oth_snoc {l : List Pt} {c : Int} {m : Nat} {q : Pt} (h : l[m]? = some q) (hc : q.1 ≠ c) : oth l c (m + 1) = oth l c m ++ [q.1] := by
  unfold oth
  rw [List.take_add_one, h]
  simp [hc]
theorem oth_zero (l : List Pt) (c : Int) : oth l c 0 = [] := rfl
/-- A factor more. -/
theorem fac_step {a y x c : Int} {xs : List Int} (h : P ∣ a - y * ev (zeros xs) x) : P ∣ a * ((x - c) % P) % P - y * ev (zeros (xs ++ [c])) x := by
  refine dvd_trans3 (mod_same _) ?_
  rw [zeros_snoc, ← Int.mul_assoc]
  exact mul_same h (mod_same _)
theorem fac_one {a x c : Int} {xs : List Int} (h : P ∣ a - ev (zeros xs) x) : P ∣ a * ((x - c) % P) % P - ev (zeros (xs ++ [c])) x := by
  have := fac_step (y := 1) (c := c) (by rw [Int.one_mul]; exact h)
  rwa [Int.one_mul] at this
/-- Lagrange's sum behind k points. -/
def Sum (l : List Pt) (x : Int) (k : Nat) (v : Int) : Prop := ∃ Q : List Int, Q.length ≤ l.length ∧ (∀ j q, l[j]? = some q → P ∣ ev Q q.1 - (if j < k then q.2 else 0)) ∧ P ∣ v - ev Q x
theorem sum_zero (l : List Pt) (x : Int) : Sum l x 0 0 := ⟨[], Nat.zero_le _, fun j q _ => ⟨0, by simp [ev]⟩, ⟨0, by simp [ev]⟩⟩
theorem place_ne {l : List Pt} {i j : Nat} {p q : Pt} (hd : (l.map (·.1)).Nodup) (hi : l[i]? = some p) (hj : l[j]? = some q) (hne : j ≠ i) : q.1 ≠ p.1 := by
  intro e
  have h1 : (l.map (·.1))[i]? = some p.1 := by rw [List.getElem?_map, hi]; rfl
  have h2 : (l.map (·.1))[j]? = some q.1 := by rw [List.getElem?_map, hj]; rfl
  obtain ⟨h3, h4⟩ := List.getElem?_eq_some_iff.1 h1
  obtain ⟨h5, h6⟩ := List.getElem?_eq_some_iff.1 h2
  have := (List.getElem_inj hd).1 (h6.trans (e.trans h4.symm))
  exact hne this
theorem small_off {a b : Int} (h : a ≠ b) (ha : 0 ≤ a ∧ a ≤ 20) (hb : 0 ≤ b ∧ b ≤ 20) : ¬ P ∣ a - b := fun hd => by
  have hP := P_eq
  by_cases hlt : b < a
  · exact not_dvd_small (by omega) (by omega) hd
  · exact not_dvd_small (n := b - a) (by omega) (by omega) (dvd_swap hd)
theorem oth_off {l : List Pt} {c : Int} {m : Nat} (hr : ∀ q ∈ l, 0 ≤ q.1 ∧ q.1 ≤ 20) (hc : 0 ≤ c ∧ c ≤ 20) : ¬ P ∣ ev (zeros (oth l c m)) c := by
  refine zeros_off fun a ha => ?_
  obtain ⟨h1, h2⟩ := List.mem_filter.1 ha
  obtain ⟨q, hq, rfl⟩ := List.mem_map.1 h1
  have hne : q.1 ≠ c := by simpa using h2
  exact small_off (Ne.symm hne) hc (hr q (List.mem_of_mem_take hq))
theorem not_dvd_of {a b : Int} (h : P ∣ a - b) (hb : ¬ P ∣ b) : ¬ P ∣ a := fun ha => hb (by
  have := Int.dvd_sub ha h
  rwa [show a - (a - b) = b by omega] at this)
theorem sum_step {l : List Pt} {x v a b u : Int} {k : Nat} {p : Pt} (hd : (l.map (·.1)).Nodup) (hk : l[k]? = some p) (h : Sum l x k v)
    (ha : P ∣ a - p.2 * ev (zeros (oth l p.1 l.length)) x) (hb : P ∣ b - ev (zeros (oth l p.1 l.length)) p.1) (hu : P ∣ u * b - 1) : Sum l x (k + 1) ((v + a * u) % P) := by
  obtain ⟨Q, hl, hQ, hx⟩ := h
  have hlen : (zeros (oth l p.1 l.length)).length ≤ l.length := by
    rw [zeros_len]
    unfold oth
    rw [List.take_length]
    have hm : p.1 ∈ l.map (·.1) := List.mem_map.2 ⟨p, List.mem_of_getElem? hk, rfl⟩
    have : ((l.map (·.1)).filter (· ≠ p.1)).length < (l.map (·.1)).length := List.length_filter_lt_length_iff_exists.2 ⟨p.1, hm, by simp⟩
    rw [List.length_map] at this
    omega
  refine ⟨add Q (scale (p.2 * u) (zeros (oth l p.1 l.length))), by rw [add_len, scale_len]; omega, fun j q hj => ?_, ?_⟩
  · rw [add_ev, scale_ev]
    by_cases hjk : j = k
    · subst hjk
      rw [hk] at hj; cases hj
      have h1 := hQ j p hk
      rw [if_neg (Nat.lt_irrefl _)] at h1
      rw [if_pos (Nat.lt_succ_self _)]
      obtain ⟨c, hc⟩ := h1
      obtain ⟨d, hd'⟩ := hb
      obtain ⟨e, he⟩ := hu
      generalize ev (zeros (oth l p.1 l.length)) p.1 = z at *
      generalize ev Q p.1 = y at *
      exact ⟨c + p.2 * e - p.2 * u * d, by grind⟩
    · have hz : ev (zeros (oth l p.1 l.length)) q.1 = 0 := by
        refine zeros_at (List.mem_filter.2 ⟨?_, by simpa using place_ne hd hk hj hjk⟩)
        rw [List.take_length]
        exact List.mem_map.2 ⟨q, List.mem_of_getElem? hj, rfl⟩
      have h1 := hQ j q hj
      rw [hz, Int.mul_zero, Int.add_zero]
      by_cases hlt : j < k
      · rw [if_pos hlt] at h1; rw [if_pos (by omega)]; exact h1
      · rw [if_neg hlt] at h1; rw [if_neg (by omega)]; exact h1
  · rw [add_ev, scale_ev]
    refine dvd_trans3 (mod_same _) (add_same hx ?_)
    have := mul_same ha (same_refl u)
    have e : p.2 * ev (zeros (oth l p.1 l.length)) x * u = p.2 * u * ev (zeros (oth l p.1 l.length)) x := by grind
    rwa [e] at this
theorem sum_end {l : List Pt} {x v : Int} (hd : Diff (l.map (·.1))) (h : Sum l x l.length v) (hv : 0 ≤ v ∧ v < P) : v = lag l x := by
  obtain ⟨Q, hl, hQ, hx⟩ := h
  rw [lag_eq hd hl (fun q hq => ?_) x, ← mod_small hv]
  · exact emod_same hx
  · obtain ⟨j, hj⟩ := List.mem_iff_getElem?.1 hq
    have := hQ j q hj
    rwa [if_pos (List.getElem?_eq_some_iff.1 hj).1] at this

/-! ### Do all points lie on one polynomial? -/
theorem fit_iff {l : List Pt} {k : Nat} (hd : Diff (l.map (·.1))) (hk : k ≤ l.length) : Fit l k ↔ ∀ j q, k ≤ j → l[j]? = some q → lag (l.take k) q.1 = q.2 % P := by
  have hdt : Diff ((l.take k).map (·.1)) := by
    have h1 : l = l.take k ++ l.drop k := (List.take_append_drop k l).symm
    rw [h1, List.map_append] at hd
    exact hd.left
  have hlen : (l.take k).length = k := by rw [List.length_take]; omega
  constructor
  · rintro ⟨cs, h1, h2⟩ j q _ hj
    rw [lag_eq hdt (cs := cs) (by omega) (fun r hr => h2 r (List.mem_of_mem_take hr))]
    exact emod_same (h2 q (List.mem_of_getElem? hj))
  · intro h
    obtain ⟨cs, h1, h2, h3⟩ := lag_on hdt
    refine ⟨cs, by omega, fun q hq => ?_⟩
    obtain ⟨j, hj⟩ := List.mem_iff_getElem?.1 hq
    by_cases hlt : j < k
    · exact h2 q (List.mem_of_getElem? (show (l.take k)[j]? = some q by rw [List.getElem?_take_of_lt hlt]; exact hj))
    · have := h j q (by omega) hj
      rw [h3] at this
      exact Int.dvd_of_emod_eq_zero (by rw [Int.emod_eq_emod_iff_emod_sub_eq_zero] at this; exact this)
/-- The value at 0 of the polynomial through the first k. -/
theorem join_lag {l : List Pt} {k : Int} (hw : wrong l k = 0) (hl : k ≤ (l.length : Int)) (hf : Fit l k.toNat) : join l k = (lag (l.take k.toNat) 0, 0) := by
  have hk := (wrong_ok hw).1
  have hd := diff_l hw
  obtain ⟨cs, h1, h2⟩ := hf
  have hdt : Diff ((l.take k.toNat).map (·.1)) := by
    have h1 : l = l.take k.toNat ++ l.drop k.toNat := (List.take_append_drop _ l).symm
    rw [h1, List.map_append] at hd
    exact hd.left
  rw [join_ok hw hl h1 h2, lag_eq hdt (cs := cs) (by rw [List.length_take]; omega) fun q hq => h2 q (List.mem_of_mem_take hq)]

/-! ### Horner, growing powers -/
theorem horner {x c e : Int} : ((e % P * x) % P + c) % P = (c + x * e) % P := by
  refine emod_same (dvd_trans3 (add_same (mod_same _) (same_refl c)) ?_)
  have := add_same (mul_same (mod_same e) (same_refl x)) (same_refl c)
  have h : e * x + c = c + x * e := by grind
  rwa [h] at this
theorem ev_get {cs : List Int} {k : Nat} {c : Int} (h : cs[k]? = some c) (x : Int) : ev (cs.drop k) x = c + x * ev (cs.drop (k + 1)) x := by
  obtain ⟨h1, h2⟩ := List.getElem?_eq_some_iff.1 h
  rw [List.drop_eq_getElem_cons h1, h2]
  rfl
theorem rnd_in (seed : Int) : ∀ n, 0 ≤ rnd seed n ∧ rnd seed n < 2147483648
  | 0 => ⟨Int.emod_nonneg _ (by decide), Int.emod_lt_of_pos _ (by decide)⟩
  | _ + 1 => ⟨Int.emod_nonneg _ (by decide), Int.emod_lt_of_pos _ (by decide)⟩
theorem cf_get {secret seed : Int} {k i : Nat} (h : i + 1 < k) : (cf secret seed k)[i + 1]? = some (rnd seed (i + 1) % P) := by
  unfold cf
  rw [List.getElem?_cons_succ, List.getElem?_map, List.getElem?_range (by omega)]
  rfl
theorem cf_in {secret seed : Int} {k : Nat} (hs : 0 ≤ secret ∧ secret < P) : ∀ c ∈ cf secret seed k, 0 ≤ c ∧ c < P := by
  intro c hc
  rcases List.mem_cons.1 hc with rfl | hc
  · exact hs
  · obtain ⟨i, _, rfl⟩ := List.mem_map.1 hc
    exact mod_in _
/-- One coefficient more. -/
theorem pow_step {x y : Int} {n : Nat} (h : y = x ^ n % P) : y * x % P = x ^ (n + 1) % P := by
  subst h
  rw [Int.pow_succ]
  exact emod_same (mul_same (mod_same _) (same_refl x))
theorem more_step {x y e c : Int} {cs : List Int} (h : e = ev cs x % P) (hy : y = x ^ cs.length % P) : (e + c * y) % P = ev (cs ++ [c]) x % P := by
  subst h hy
  rw [ev_snoc]
  refine emod_same (add_same (mod_same _) ?_)
  have := mul_same (same_refl c) (mod_same (x ^ cs.length))
  rwa [Int.mul_comm c (x ^ cs.length)] at this
theorem cf_take {secret seed : Int} {k i : Nat} (h : i + 1 < k) : (cf secret seed k).take (i + 2) = (cf secret seed k).take (i + 1) ++ [rnd seed (i + 1) % P] := by
  rw [List.take_add_one, cf_get h]; rfl
end Sp
end Go.Proofs.Ytemokedoeneibaa
