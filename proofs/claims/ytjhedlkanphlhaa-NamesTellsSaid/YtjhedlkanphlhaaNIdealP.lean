/- Plain facts about naming some strings one after the other. -/
import Derived.Test.YtjhedlkanphlhaaNSmall
namespace Go.Proofs.Ytjhedlkanphlhaa
open Np
namespace Np
theorem of_app (T : List ByteArray) (s : ByteArray) : ∃ r, (of T s).2 = T ++ r := by
  unfold of
  (repeat' split)
  · exact ⟨[], by simp⟩
  · exact ⟨[], by simp⟩
  · exact ⟨[s], rfl⟩
theorem ofs_app (T l : List ByteArray) : ∃ r, ofs T l = T ++ r := by
  induction l generalizing T with
  | nil => exact ⟨[], by simp [ofs]⟩
  | cons a l ih =>
    obtain ⟨r, h⟩ := ih (of T a).2
    obtain ⟨q, h2⟩ := of_app T a
    exact ⟨q ++ r, by show ofs (of T a).2 l = _; rw [h, h2, List.append_assoc]⟩
theorem of_mem (T : List ByteArray) {s : ByteArray} (h : s.size ≤ 65536) : s ∈ (of T s).2 := by
  by_cases hm : s ∈ T
  · rw [of_known h hm]; exact hm
  · rw [of_new h hm]; simp
theorem ofs_mem {T l : List ByteArray} {s : ByteArray} (h : s ∈ l) (hs : s.size ≤ 65536) : s ∈ ofs T l := by
  induction l generalizing T with
  | nil => cases h
  | cons a l ih =>
    rcases List.mem_cons.1 h with rfl | h
    · obtain ⟨r, hr⟩ := ofs_app (of T s).2 l
      show s ∈ ofs (of T s).2 l
      rw [hr]; exact List.mem_append_left _ (of_mem T hs)
    · exact ih h
theorem ofs_of_mem {T l : List ByteArray} {s : ByteArray} (h : s ∈ ofs T l) : s ∈ T ∨ s ∈ l := by
  induction l generalizing T with
  | nil => exact .inl h
  | cons a l ih =>
    rcases ih h with q | q
    · unfold of at q
      (repeat' split at q)
      · exact .inl q
      · exact .inl q
      · rcases List.mem_append.1 q with q | q
        · exact .inl q
        · simp at q; subst q; exact .inr (by simp)
    · exact .inr (by simp [q])
theorem ofs_split (T l : List ByteArray) (k : Nat) : ofs T l = ofs (ofs T (l.take k)) (l.drop k) := by
  induction l generalizing T k with
  | nil => simp [ofs]
  | cons a l ih => cases k with
    | zero => rfl
    | succ k => exact ih _ k
/-- The name in the whole list is the one in a beginning. -/
theorem pos_part {l : List ByteArray} {k : Nat} {s : ByteArray} (h : s ∈ ofs [] (l.take k)) : pos (ofs [] l) s = pos (ofs [] (l.take k)) s := by
  obtain ⟨r, hr⟩ := ofs_app (ofs [] (l.take k)) (l.drop k)
  rw [ofs_split [] l k, hr, pos_app h]
theorem text_pos {T : List ByteArray} {s : ByteArray} (h : s ∈ T) : text T (pos T s : Int) = (s, true) := by
  have h1 := pos_mem.1 h
  have h2 := pos_get h
  rw [List.getElem?_eq_getElem h1] at h2
  rw [text_some h1]
  simp at h2
  rw [h2]
theorem pos_inj {T : List ByteArray} {s t : ByteArray} (hs : s ∈ T) (ht : t ∈ T) (h : pos T s = pos T t) : s = t := by
  have h1 := pos_get hs
  have h2 := pos_get ht
  rw [h, h2] at h1
  exact (Option.some.inj h1).symm
/-- The names of the first k strings. -/
def gots (l : List ByteArray) (k : Nat) : List Int := (l.take k).map fun s => (pos (ofs [] l) s : Int)
theorem gots_len {l : List ByteArray} {k : Nat} (h : k ≤ l.length) : (gots l k).length = k := by simp [gots]; omega
theorem gots_snoc {l : List ByteArray} {k : Nat} (h : k < l.length) : gots l k ++ [(pos (ofs [] l) l[k] : Int)] = gots l (k + 1) := by
  unfold gots; rw [List.take_succ_eq_append_getElem h, List.map_append]; rfl
theorem gots_at {l : List ByteArray} {k m : Nat} (hk : k ≤ l.length) (h : m < k) : (gots l k)[m]? = some (pos (ofs [] l) (l[m]'(by omega)) : Int) := by
  unfold gots
  rw [List.getElem?_map, List.getElem?_take_of_lt h, List.getElem?_eq_getElem (by omega)]
  rfl
section
variable {l : List ByteArray} {k m : Nat}
theorem take_mem (hk : k ≤ l.length) (h : m < k) : l[m]'(by omega) ∈ l.take k := by
  rw [List.mem_take_iff_getElem]; exact ⟨m, by omega, rfl⟩
theorem step_of (ht : AllText l) (hk : k < l.length) : of (ofs [] (l.take k)) l[k] = ((pos (ofs [] l) l[k] : Int), ofs [] (l.take (k + 1))) := by
  have hs := ht _ (List.getElem_mem hk)
  have h1 := ofs_take [] l k hk
  have hm : l[k] ∈ ofs [] (l.take (k + 1)) := ofs_mem (take_mem hk (Nat.lt_succ_self k)) hs
  rw [pos_part hm, h1]
  by_cases h : l[k] ∈ ofs [] (l.take k)
  · rw [of_known hs h]
  · rw [of_new hs h, pos_snoc h]
theorem step_way (ht : AllText l) (hk : k < l.length) :
    (pos (ofs [] l) l[k] < (ofs [] (l.take k)).length ∧ (ofs [] (l.take (k + 1))).length = (ofs [] (l.take k)).length) ∨ (pos (ofs [] l) l[k] = (ofs [] (l.take k)).length ∧ (ofs [] (l.take (k + 1))).length = (ofs [] (l.take k)).length + 1) := by
  have hs := ht _ (List.getElem_mem hk)
  have h0 := step_of ht hk
  by_cases h : l[k] ∈ ofs [] (l.take k)
  · rw [of_known hs h] at h0
    simp only [Prod.mk.injEq] at h0
    have := pos_mem.1 h
    exact .inl ⟨by omega, by rw [← h0.2]⟩
  · rw [of_new hs h] at h0
    simp only [Prod.mk.injEq] at h0
    exact .inr ⟨by omega, by rw [← h0.2]; simp⟩
theorem step_text (ht : AllText l) (hk : k ≤ l.length) (h : m < k) : text (ofs [] (l.take k)) (pos (ofs [] l) (l[m]'(by omega)) : Int) = (l[m]'(by omega), true) := by
  have hm : l[m]'(by omega) ∈ ofs [] (l.take k) := ofs_mem (take_mem hk h) (ht _ (List.getElem_mem _))
  rw [pos_part hm]
  exact text_pos hm
theorem step_ne (ht : AllText l) (h1 : m < l.length) (h2 : k < l.length) (h : l[m] ≠ l[k]) : ¬ ((pos (ofs [] l) l[m] : Int) = (pos (ofs [] l) l[k] : Int)) := by
  intro e
  exact h (pos_inj (T := ofs [] l) (ofs_mem (List.getElem_mem h1) (ht _ (List.getElem_mem h1))) (ofs_mem (List.getElem_mem h2) (ht _ (List.getElem_mem h2))) (by omega))
theorem whole_of (ht : AllText l) (h : m < l.length) : of (ofs [] l) l[m] = ((pos (ofs [] l) l[m] : Int), ofs [] l) :=
  of_known (ht _ (List.getElem_mem h)) (ofs_mem (List.getElem_mem h) (ht _ (List.getElem_mem h)))
theorem pos_lt (ht : AllText l) (h : m < l.length) : pos (ofs [] l) l[m] < (ofs [] l).length := pos_mem.1 (ofs_mem (List.getElem_mem h) (ht _ (List.getElem_mem h)))
theorem pos_at (ht : AllText l) (h : m < l.length) : (ofs [] l)[pos (ofs [] l) l[m]]'(pos_lt ht h) = l[m] := by
  have := pos_get (ofs_mem (T := []) (List.getElem_mem h) (ht _ (List.getElem_mem h)))
  rw [List.getElem?_eq_getElem (pos_lt ht h)] at this
  exact Option.some.inj this
end
end Np
end Go.Proofs.Ytjhedlkanphlhaa
