/- Newton's divided differences, in place. No Go. -/
import Derived.Test.YtemokedoeneibaaLag
namespace Go.Proofs.Ytemokedoeneibaa
namespace Sp
/-- The last m + 1 of the points up to i, or all of them. -/
def win (l : List Pt) (i m : Nat) : List Pt := (l.take (i + 1)).drop (i - m)
theorem win_zero {l : List Pt} {i : Nat} {p : Pt} (h : l[i]? = some p) : win l i 0 = [p] := by
  obtain ⟨h1, h2⟩ := List.getElem?_eq_some_iff.1 h
  unfold win
  rw [Nat.sub_zero, List.take_add_one, h, List.drop_append_of_le_length (by rw [List.length_take]; omega), List.drop_of_length_le (by rw [List.length_take]; omega)]
  rfl
theorem win_all {l : List Pt} {i m : Nat} (h : i ≤ m) : win l i m = l.take (i + 1) := by
  unfold win
  rw [show i - m = 0 by omega, List.drop_zero]
/-- From i - s up to i, where s is one or more. -/
theorem win_step {l : List Pt} {i s : Nat} {p r : Pt} (hi : l[i]? = some r) (hp : l[i - (s + 1)]? = some p) (hs : s + 1 ≤ i) :
    ∃ m, win l (i - 1) s = p :: m ∧ win l i s = m ++ [r] ∧ win l i (s + 1) = p :: (m ++ [r]) := by
  obtain ⟨h1, h2⟩ := List.getElem?_eq_some_iff.1 hi
  refine ⟨(l.take i).drop (i - s), ?_, ?_, ?_⟩
  · unfold win
    rw [show i - 1 + 1 = i by omega, show i - 1 - s = i - (s + 1) by omega]
    have hp' : (l.take i)[i - (s + 1)]? = some p := by rw [List.getElem?_take_of_lt (by omega)]; exact hp
    obtain ⟨h3, h4⟩ := List.getElem?_eq_some_iff.1 hp'
    rw [List.drop_eq_getElem_cons h3, h4, show i - (s + 1) + 1 = i - s by omega]
  · unfold win
    rw [List.take_add_one, hi, List.drop_append_of_le_length (by rw [List.length_take]; omega)]
    rfl
  · unfold win
    have hp' : (l.take i)[i - (s + 1)]? = some p := by rw [List.getElem?_take_of_lt (by omega)]; exact hp
    obtain ⟨h3, h4⟩ := List.getElem?_eq_some_iff.1 hp'
    rw [List.take_add_one, hi, List.drop_append_of_le_length (by rw [List.length_take]; omega), List.drop_eq_getElem_cons h3, h4, show i - (s + 1) + 1 = i - s by omega]
    rfl
/-- The differences in place: those behind i have one step more. -/
def Lev (l : List Pt) (d : List Int) (s i : Nat) : Prop := d.length = l.length ∧ (∀ c ∈ d, 0 ≤ c ∧ c < P) ∧ ∀ j c, d[j]? = some c → Lead (win l j (if i < j then s + 1 else s)) c
theorem lev_start {l : List Pt} (h : ∀ q ∈ l, 0 ≤ q.2 ∧ q.2 < P) {i : Nat} (hi : l.length ≤ i + 1) : Lev l (l.map (·.2)) 0 i := by
  refine ⟨by rw [List.length_map], fun c hc => ?_, fun j c hj => ?_⟩
  · obtain ⟨q, hq, rfl⟩ := List.mem_map.1 hc; exact h q hq
  · have hjl : j < l.length := by have := (List.getElem?_eq_some_iff.1 hj).1; rwa [List.length_map] at this
    rw [List.getElem?_map, List.getElem?_eq_getElem hjl] at hj
    have hp : l[j]? = some l[j] := List.getElem?_eq_getElem hjl
    generalize l[j] = p at *
    have : p.2 = c := by simpa using hj
    subst this
    rw [if_neg (by omega), win_zero hp]
    exact lead_one p.1 p.2
theorem lev_at {l : List Pt} {d : List Int} {s i i' : Nat} (h : Lev l d s i) (hi : l.length ≤ i + 1) (hi' : l.length ≤ i' + 1) : Lev l d s i' := by
  obtain ⟨h1, h2, h3⟩ := h
  refine ⟨h1, h2, fun j c hj => ?_⟩
  have hjl : j < l.length := by have := (List.getElem?_eq_some_iff.1 hj).1; omega
  have := h3 j c hj
  rw [if_neg (by omega)] at this ⊢
  exact this
theorem mem_set_of {d : List Int} {i : Nat} {a c : Int} (h : c ∈ d.set i a) : c ∈ d ∨ c = a := List.mem_or_eq_of_mem_set h
theorem lev_set {l : List Pt} {d : List Int} {s i : Nat} {p r : Pt} {a b u c : Int} (h : Lev l d s i) (hi : l[i]? = some r) (hp : l[i - (s + 1)]? = some p) (hs : s + 1 ≤ i) (ha : d[i - 1]? = some a) (hb : d[i]? = some b)
    (hu : P ∣ u * (r.1 - p.1) - 1) (hc : P ∣ c - (b - a) * u) (hr : 0 ≤ c ∧ c < P) : Lev l (d.set i c) s (i - 1) := by
  obtain ⟨h1, h2, h3⟩ := h
  refine ⟨by rw [List.length_set]; exact h1, fun x hx => ?_, fun j x hj => ?_⟩
  · rcases mem_set_of hx with q | rfl
    · exact h2 x q
    · exact hr
  · rw [List.getElem?_set] at hj
    by_cases e : i = j
    · subst e
      have hlt : i < d.length := (List.getElem?_eq_some_iff.1 hb).1
      rw [if_pos rfl, if_pos hlt] at hj
      cases hj
      rw [if_pos (by omega)]
      obtain ⟨m, e1, e2, e3⟩ := win_step hi hp hs
      have k1 := h3 (i - 1) a ha
      have k2 := h3 i b hb
      rw [if_neg (by omega), e1] at k1
      rw [if_neg (by omega), e2] at k2
      rw [e3]
      exact lead_step k1 k2 hu hc
    · rw [if_neg e] at hj
      have := h3 j x hj
      by_cases hij : i < j
      · rw [if_pos hij] at this; rw [if_pos (by omega)]; exact this
      · rw [if_neg hij] at this; rw [if_neg (by omega)]; exact this
/-- All have one step more. -/
theorem lev_next {l : List Pt} {d : List Int} {s i : Nat} (h : Lev l d s s) (hi : l.length ≤ i + 1) : Lev l d (s + 1) i := by
  obtain ⟨h1, h2, h3⟩ := h
  refine ⟨h1, h2, fun j c hj => ?_⟩
  have hjl : j < l.length := by have := (List.getElem?_eq_some_iff.1 hj).1; omega
  rw [if_neg (by omega)]
  have := h3 j c hj
  by_cases hsj : s < j
  · rw [if_pos hsj] at this; exact this
  · rw [if_neg hsj, win_all (by omega)] at this
    rw [win_all (by omega)]; exact this
theorem lev_end {l : List Pt} {d : List Int} {s i : Nat} (h : Lev l d s i) (hi : l.length ≤ i + 1) (hs : l.length ≤ s + 1) : ∀ j c, d[j]? = some c → Lead (l.take (j + 1)) c := fun j c hj => by
  have hjl : j < l.length := by have := (List.getElem?_eq_some_iff.1 hj).1; have := h.1; omega
  have := h.2.2 j c hj
  rwa [if_neg (by omega), win_all (by omega)] at this
/-- Newton's factors of some points. -/
structure New (l : List Pt) (d : List Int) : Prop where
  len : d.length = l.length
  rg : ∀ c ∈ d, 0 ≤ c ∧ c < P
  lead : ∀ j c, d[j]? = some c → Lead (l.take (j + 1)) c
theorem nv_get {d xs : List Int} {k : Nat} {c a : Int} (h : d[k]? = some c) (hx : xs[k]? = some a) (x : Int) : nv ((d.zip xs).drop k) x = c + (x - a) * nv ((d.zip xs).drop (k + 1)) x := by
  have hz : (d.zip xs)[k]? = some (c, a) := by rw [List.getElem?_zip_eq_some]; exact ⟨h, hx⟩
  obtain ⟨h1, h2⟩ := List.getElem?_eq_some_iff.1 hz
  rw [List.drop_eq_getElem_cons h1, h2]
  rfl
theorem new_lag {l : List Pt} {d : List Int} (hd : Diff (l.map (·.1))) (h : New l d) (x : Int) : nv (d.zip (l.map (·.1))) x % P = lag l x := by
  obtain ⟨cs, h1, h2, h3⟩ := newton l.length l d rfl h.len hd (fun i _ c hc => h.lead i c hc)
  rw [lag_eq hd (by omega) h3]
  exact emod_same (h2 x)
/-- One step of Newton's form. -/
theorem nv_step {y m e c u : Int} (hy : P ∣ y - e) (hm : P ∣ m - u) : P ∣ (y * m + c) % P - (c + u * e) := by
  refine dvd_trans3 (mod_same _) ?_
  have := add_same (mul_same hy hm) (same_refl c)
  rwa [show e * u + c = c + u * e by grind] at this
theorem inv_dvd {u x : Int} (h : P ∣ u * (x % P) - 1) : P ∣ u * x - 1 := by
  have := mul_same (same_refl u) (dvd_emod x)
  exact dvd_trans3 this h
theorem dif_dvd (x u : Int) : P ∣ x % P * u % P - x * u := dvd_trans3 (mod_same _) (mul_same (mod_same x) (same_refl u))
end Sp
end Go.Proofs.Ytemokedoeneibaa
