/- A text replaced by the empty one: what is found, what the digest lacks. No Go. -/
import Derived.Test.YtbjligjmckilcaaDoorWd
namespace Go.Proofs.YtbjligjmckilcaaDoor
namespace Wd
theorem getD_set_eq {l : List S} {k : Nat} (h : k < l.length) (t : S) : (l.set k t).getD k [] = t := by simp [h]
theorem getD_set_ne' {l : List S} {k i : Nat} (h : i ≠ k) (t : S) : (l.set k t).getD i [] = l.getD i [] := by simp [List.getElem?_set_ne (Ne.symm h)]
theorem words_nil : words [] = [] := rfl
theorem has_nil (x : S) : has x [] = false := by unfold has; rw [words_nil]; rfl
theorem fnd_set {l : List S} {x : S} {k : Nat} (hk : k < l.length) : ∀ n, fnd (l.set k []) x n = (fnd l x n).filter (fun z => z != (k : Int))
  | 0 => rfl
  | n + 1 => by
    rw [fnd_next, fnd_next, List.filter_append, fnd_set hk n]
    congr 1
    by_cases h : n = k
    · subst h
      rw [getD_set_eq hk, has_nil, if_neg (by simp)]
      split <;> simp
    · rw [getD_set_ne' h]
      split
      · rw [List.filter_cons_of_pos (by simp; omega)]; rfl
      · rfl
theorem find_set {l : List S} {w : S} {k : Nat} (hk : k < l.length) : find (l.set k []) w = (find l w).filter (fun z => z != (k : Int)) := by
  unfold find
  rw [List.length_set]
  split
  · exact fnd_set hk _
  · rfl
theorem find_len (l : List S) (w : S) : (find l w).length ≤ l.length := by
  unfold find
  split
  · exact fnd_len _ _ _
  · exact Nat.zero_le _
theorem dline_nil (k : Nat) : dline k [] = [] := by unfold dline; rw [if_pos rfl]
theorem dline_ne {k : Nat} {t : S} (h : t ≠ []) : dline k t ≠ [] := by unfold dline; rw [if_neg h]; simp
theorem dig_below {l m : List S} : ∀ {k : Nat}, (∀ i, i < k → m.getD i [] = l.getD i []) → dig m k = dig l k
  | 0, _ => rfl
  | k + 1, h => by rw [dig_next, dig_next, dig_below (fun i hi => h i (by omega)), h k (by omega)]
theorem dig_split {l : List S} {k : Nat} (hk : k < l.length) : ∀ d, ∃ R, dig l (k + 1 + d) = dig l k ++ dline k (l.getD k []) ++ R ∧ dig (l.set k []) (k + 1 + d) = dig l k ++ R
  | 0 => ⟨[], by rw [Nat.add_zero, dig_next, List.append_nil], by rw [Nat.add_zero, dig_next, getD_set_eq hk, dline_nil, dig_below (fun i hi => getD_set_ne' (by omega) _)]⟩
  | d + 1 => by
    obtain ⟨R, h1, h2⟩ := dig_split hk d
    refine ⟨R ++ dline (k + 1 + d) (l.getD (k + 1 + d) []), ?_, ?_⟩
    · rw [← Nat.add_assoc, dig_next, h1, List.append_assoc]
    · rw [← Nat.add_assoc, dig_next, h2, getD_set_ne' (by omega), List.append_assoc]
theorem digest_split {l : List S} {k : Nat} (hk : k < l.length) : ∃ R, digest l = dig l k ++ dline k (l.getD k []) ++ R ∧ digest (l.set k []) = dig l k ++ R := by
  obtain ⟨R, h1, h2⟩ := dig_split hk (l.length - (k + 1))
  rw [show k + 1 + (l.length - (k + 1)) = l.length by omega] at h1 h2
  exact ⟨R, h1, by unfold digest; rw [List.length_set]; exact h2⟩
theorem dig_none (n : Nat) : ∀ k, dig (List.replicate n []) k = []
  | 0 => rfl
  | k + 1 => by
    have : (List.replicate n ([] : S)).getD k [] = [] := by
      rw [List.getD_eq_getElem?_getD, List.getElem?_replicate]; split <;> rfl
    rw [dig_next, dig_none n k, this, dline_nil]; rfl
theorem digest_none (n : Nat) : digest (List.replicate n []) = [] := dig_none n _
theorem digest_alone {n k : Nat} (hk : k < n) (t : S) : digest ((List.replicate n []).set k t) = dline k t := by
  have hkl : k < ((List.replicate n ([] : S)).set k t).length := by simpa using hk
  obtain ⟨R, h1, h2⟩ := digest_split hkl
  have e : ((List.replicate n ([] : S)).set k t).set k [] = List.replicate n [] := by
    rw [List.set_set]
    apply List.ext_getElem (by simp)
    intro i hi hi2
    simp
  rw [e, digest_none] at h2
  have hz := List.append_eq_nil_iff.1 h2.symm
  rw [h1, hz.1, hz.2, getD_set_eq (by simpa using hk)]; simp
theorem dline_len {k : Nat} {t : S} (h : (Lib.itoa (k : Int)).length ≤ 21) : (dline k t).length ≤ 50 := by
  have := line_len t 20 (by omega)
  unfold dline
  split
  · simp
  · simp; omega
theorem dig_len (l : List S) : ∀ {k : Nat}, (∀ i : Nat, i < k → (Lib.itoa (i : Int)).length ≤ 21) → (dig l k).length ≤ 50 * k
  | 0, _ => by simp [dig]
  | k + 1, h => by
    have h1 := @dig_len l k fun i hi => h i (by omega)
    have h2 := @dline_len k (l.getD k []) (h k (by omega))
    rw [dig_next, List.length_append]; omega
end Wd
end Go.Proofs.YtbjligjmckilcaaDoor
