/- A sorted list without its repetitions; the order by level and id as a comparison. -/
import Derived.Test.YtihnnffhpgbgjaaPdel
import Derived.Lib.SlicesCompact
import Derived.Shelf.SlSortCmp.Whole1
import Derived.Shelf.SlSortCmp.NoneTotal
namespace Go.Proofs.Ytihnnffhpgbgjaa
open Go.RowKit Go.Maps Go.ChangeMaps Go.MapKept Go.Shelf Go.Sort
open Gp

theorem compact_pw {R : Int → Int → Prop} (tr : ∀ a b c, R a b → R b c → R a c) (tot : ∀ a b, a ≠ b → ¬ R a b → R b a) (d : Array Int) (hd : ∀ i j, i < j → j < d.size → ¬ R d[j]! d[i]!) : ∀ m, m ≤ d.size →
    (Lib.compactUpTo d m).Pairwise R ∧ (∀ x, x ∈ Lib.compactUpTo d m ↔ ∃ j, j < m ∧ d[j]! = x) ∧ (0 < m → ∀ x ∈ Lib.compactUpTo d m, x = d[m - 1]! ∨ R x d[m - 1]!)
  | 0, _ => ⟨by simp [Lib.compactUpTo], fun x => by simp [Lib.compactUpTo], fun h => absurd h (Nat.lt_irrefl 0)⟩
  | m + 1, hm => by
    obtain ⟨h1, h2, h3⟩ := compact_pw tr tot d hd m (by omega)
    rw [Lib.compactUpTo_succ]
    by_cases hk : Lib.keeps d m = true
    · rw [if_pos hk]
      have hlast : ∀ x ∈ Lib.compactUpTo d m, R x d[m]! := fun x hx => by
        have hm0 : 0 < m := by
          obtain ⟨j, hj, _⟩ := (h2 x).1 hx
          omega
        have hne : d[m]! ≠ d[m - 1]! := by
          unfold Lib.keeps at hk
          rcases of_decide_eq_true hk with q | q
          · omega
          · exact q
        have hr : R d[m - 1]! d[m]! := tot _ _ hne (hd (m - 1) m (by omega) (by omega))
        rcases h3 hm0 x hx with rfl | q
        · exact hr
        · exact tr _ _ _ q hr
      refine ⟨List.pairwise_append.2 ⟨h1, by simp, fun x hx y hy => ?_⟩, fun x => ?_, fun _ x hx => ?_⟩
      · simp at hy; subst hy; exact hlast x hx
      · rw [List.mem_append, h2]
        constructor
        · rintro (⟨j, hj, rfl⟩ | q)
          · exact ⟨j, by omega, rfl⟩
          · simp at q; exact ⟨m, by omega, q.symm⟩
        · rintro ⟨j, hj, rfl⟩
          by_cases e : j = m
          · subst e; exact .inr (by simp)
          · exact .inl ⟨j, by omega, rfl⟩
      · rw [Nat.add_sub_cancel]
        rcases List.mem_append.1 hx with q | q
        · exact .inr (hlast x q)
        · simp at q; exact .inl q
    · rw [if_neg hk, List.append_nil]
      have hm0 : 0 < m := by
        cases m with
        | zero => exact absurd (by simp [Lib.keeps]) hk
        | succ k => exact Nat.succ_pos _
      have he : d[m]! = d[m - 1]! := by
        by_cases q : d[m]! = d[m - 1]!
        · exact q
        · exact absurd (Lib.keeps_pos q) hk
      refine ⟨h1, fun x => ?_, fun _ x hx => ?_⟩
      · rw [h2]
        constructor
        · rintro ⟨j, hj, rfl⟩; exact ⟨j, by omega, rfl⟩
        · rintro ⟨j, hj, rfl⟩
          by_cases e : j = m
          · subst e; exact ⟨j - 1, by omega, he.symm⟩
          · exact ⟨j, by omega, rfl⟩
      · rw [Nat.add_sub_cancel, he]
        exact h3 hm0 x hx
section
variable {G : List Nd}
theorem lv_trans {a b c : Int} (h : Lv G a b) (k : Lv G b c) : Lv G a c := by unfold Lv at *; omega
theorem lv_total {a b : Int} (h : a ≠ b) (k : ¬ Lv G a b) : Lv G b a := by unfold Lv at *; omega
/-- The comparison that Sorted makes. -/
noncomputable def cf (G : List Nd) (x y : Int) : Int := orv [Lib.compareInt (lev G x) (lev G y), Lib.compareInt x y]
theorem cf_lt (x y : Int) : ltOf (cf G) x y = true ↔ Lv G x y := by
  unfold ltOf cf orv Lv Lib.compareInt
  rw [decide_eq_true_iff]
  generalize lev G x = a
  generalize lev G y = b
  by_cases h1 : a < b
  · simp [h1]
  · by_cases h2 : a > b
    · simp [h1, h2]; omega
    · have e : a = b := by omega
      subst e
      by_cases h3 : x < y
      · simp [h3]
      · by_cases h4 : x > y
        · simp [h3, h4]
        · simp [h3, h4]
theorem cf_swo : SWO (ltOf (cf G)) where
  irrefl x := by
    rw [← Bool.not_eq_true, cf_lt]; unfold Lv; omega
  trans x y z h k := by rw [cf_lt] at *; exact lv_trans h k
  ntrans x y z h k := by
    rw [← Bool.not_eq_true, cf_lt] at *
    unfold Lv at *; omega
theorem cf_total (x y : Int) (h : ltOf (cf G) x y = false) (k : ltOf (cf G) y x = false) : x = y := by
  rw [← Bool.not_eq_true, cf_lt] at h k
  unfold Lv at h k
  omega
theorem sorted_pick {xs : List Int} (ok : Ok G) : Lib.compact ((xs.filter (fun x => (ids G).contains x)).mergeSort fun x y => !(ltOf (cf G)) y x) = sorted G xs := by
  generalize hks : xs.filter (fun x => (ids G).contains x) = ks
  have hp := List.mergeSort_perm ks fun x y => !(ltOf (cf G)) y x
  have hs : (ks.mergeSort fun x y => !(ltOf (cf G)) y x).Pairwise fun a b => ¬ Lv G b a := by
    have := List.pairwise_mergeSort (le := fun x y => !(ltOf (cf G)) y x) (fun a b c h k => by
      rw [Bool.not_eq_true', ← Bool.not_eq_true, cf_lt] at *
      unfold Lv at *; omega) (fun a b => by
      rw [Bool.or_eq_true]
      by_cases q : ltOf (cf G) b a = true
      · right
        rw [Bool.not_eq_true', ← Bool.not_eq_true, cf_lt]
        rw [cf_lt] at q
        exact lv_asym _ _ q
      · left; rw [Bool.not_eq_true']; simpa using q) ks
    refine this.imp fun {a b} h => ?_
    rw [Bool.not_eq_true', ← Bool.not_eq_true, cf_lt] at h
    exact h
  generalize (ks.mergeSort fun x y => !(ltOf (cf G)) y x) = zs at hp hs
  have hg : ∀ (i : Nat) (hi : i < zs.length), zs.toArray[i]! = zs[i] := fun i hi => by simp [hi]
  obtain ⟨h1, h2, _⟩ := compact_pw (R := Lv G) (fun a b c => lv_trans) (fun a b => lv_total) zs.toArray (fun i j hij hj => by
    have hj' : j < zs.length := by simpa using hj
    rw [hg j hj', hg i (by omega)]
    exact (List.pairwise_iff_getElem.1 hs) i j (by omega) hj' hij) zs.length (by simp)
  refine sorted_is ok h1 fun x => ?_
  show x ∈ Lib.compactUpTo zs.toArray zs.length ↔ _
  rw [h2]
  have hm : (∃ j, j < zs.length ∧ zs.toArray[j]! = x) ↔ x ∈ zs := by
    constructor
    · rintro ⟨j, hj, rfl⟩; rw [hg j hj]; exact List.getElem_mem hj
    · intro q
      obtain ⟨j, hj, rfl⟩ := List.getElem_of_mem q
      exact ⟨j, hj, hg j hj⟩
  rw [hm, hp.mem_iff, ← hks, List.mem_filter]
  simp [and_comm]
end
end Go.Proofs.Ytihnnffhpgbgjaa
