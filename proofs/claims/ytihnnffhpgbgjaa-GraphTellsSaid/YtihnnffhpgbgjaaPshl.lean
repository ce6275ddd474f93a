/- The library's contracts on slices of numbers, as the walks want them. -/
import Derived.Test.YtihnnffhpgbgjaaPg
import Derived.Test.YtihnnffhpgbgjaaShelf
namespace Go.Proofs.Ytihnnffhpgbgjaa
open Go.RowKit Go.Maps Go.ChangeMaps Go.MapKept
section
variable {w : World} {v u : Value} {l m : List Int}
/-- slices.Clone. -/
theorem clone_any (h : NumsAt w v l) (hl : l.length ≤ 1000) : Calls Try.prog 39 #[v] w fun e w' => ∃ v', e = .returned v' ∧ w'.ownsRow 0 3 1 v' l.length (intVs l) ∧ (∀ x, v'.ownBlock = some x → w.heap.size ≤ x) ∧ Below w.heap.size w w' := by
  have fin : ∀ {v' : Value} {w' : World} {n : Nat} {xs : List Value}, w'.ownsRow w.heap.size 3 1 v' n xs → w'.ownsRow 0 3 1 v' n xs ∧ ∀ x, v'.ownBlock = some x → w.heap.size ≤ x := fun {v' w' n xs} o => by
    refine ⟨⟨o.1, ?_⟩, fun x hx => ?_⟩
    · rcases o.2 with q | ⟨g, cap, cur, e, hb, r⟩
      · exact .inl q
      · exact .inr ⟨g, cap, cur, e, Nat.zero_le _, r⟩
    · rcases o.2 with ⟨rfl, _⟩ | ⟨g, cap, cur, rfl, hb, r⟩
      · cases hx
      · cases hx; exact hb
  by_cases h0 : 0 < l.length
  · obtain ⟨b, off, cap, rfl, _, hc⟩ := h.form h0
    have H := Any.slices_Clone_int Try.lclone b off l.length cap l w (Nat.le_refl _) (by omega) (fun j hj => by
      rw [List.getD_eq_getElem?_getD, List.getElem?_eq_getElem hj]
      exact hc j _ (List.getElem?_eq_getElem hj))
    change Calls Try.prog 39 _ _ _ at H
    refine H.mono fun e w' ⟨v', he, ho, _, hb⟩ => ?_
    rw [List.take_length] at ho
    exact ⟨v', he, (fin ho).1, (fin ho).2, hb⟩
  · have hl0 : l = [] := List.length_eq_zero_iff.1 (by omega)
    subst hl0
    obtain ⟨a, cap, rfl, _, _⟩ := h
    cases a with
    | none =>
      have H := Any.slices_Clone_int_nil Try.lclone 0 cap w
      change Calls Try.prog 39 _ _ _ at H
      exact H.mono fun e w' ⟨he, hw⟩ => by
        subst hw
        exact ⟨_, he, World.ownsRow_nil _ _ _ _, (fun x hx => by cases hx), Below.refl _ _⟩
    | some a =>
      have H := Any.slices_Clone_int_zero Try.lclone a cap w
      change Calls Try.prog 39 _ _ _ at H
      exact H.mono fun e w' ⟨v', he, ho, _, hb⟩ => ⟨v', he, (fin ho).1, (fin ho).2, hb⟩
/-- slices.Equal. -/
theorem equal_any (h : NumsAt w v l) (k : NumsAt w u m) (hl : l.length ≤ 1000) (hm : m.length ≤ 1000) : Calls Try.prog 38 #[v, u] w fun e w' => e = .returned (.bool (decide (l = m))) ∧ Grw w w' := by
  by_cases h0 : 0 < l.length
  · by_cases k0 : 0 < m.length
    · obtain ⟨b, off, cap, rfl, _, hc⟩ := h.form h0
      obtain ⟨b2, off2, cap2, rfl, _, hc2⟩ := k.form k0
      have H := Any.slices_Equal_int Try.lequal b off l.length cap b2 off2 m.length cap2 l m w (Nat.le_refl _) (Nat.le_refl _) (by omega) (by omega) (fun j hj => by
        rw [List.getD_eq_getElem?_getD, List.getElem?_eq_getElem hj]
        exact hc j _ (List.getElem?_eq_getElem hj)) (fun j hj => by
        rw [List.getD_eq_getElem?_getD, List.getElem?_eq_getElem hj]
        exact hc2 j _ (List.getElem?_eq_getElem hj))
      change Calls Try.prog 38 _ _ _ at H
      refine H.mono fun e w' ⟨he, q, hw⟩ => ?_
      subst hw
      refine ⟨?_, (Grw.refl w).drewN q⟩
      rw [he, List.take_length, List.take_length]
      exact ret_bool (by rw [Bool.eq_iff_iff]; simp)
    · have hm0 : m = [] := List.length_eq_zero_iff.1 (by omega)
      subst hm0
      obtain ⟨a, cap, rfl, _, _⟩ := h
      obtain ⟨a2, cap2, rfl, _, _⟩ := k
      have H := Any.slices_Equal_int_lens Try.lequal a a2 l.length cap ([] : List Int).length cap2 w (fun q => by have q2 : l.length = 0 := q; omega)
      change Calls Try.prog 38 _ _ _ at H
      refine H.mono fun e w' ⟨he, hw⟩ => ?_
      subst hw
      refine ⟨?_, Grw.refl _⟩
      rw [he]
      exact ret_bool (by
        have : l ≠ [] := fun q => by rw [q] at h0; simp at h0
        simp [this])
  · have hl0 : l = [] := List.length_eq_zero_iff.1 (by omega)
    subst hl0
    obtain ⟨a, cap, rfl, _, _⟩ := h
    obtain ⟨a2, cap2, rfl, _, _⟩ := k
    have H := Any.slices_Equal_int_empty Try.lequal a a2 cap m.length cap2 w (by omega)
    change Calls Try.prog 38 _ _ _ at H
    refine H.mono fun e w' ⟨he, hw⟩ => ?_
    subst hw
    refine ⟨?_, Grw.refl _⟩
    rw [he]
    exact ret_bool (by cases m <;> simp)
end
end Go.Proofs.Ytihnnffhpgbgjaa
