/- ascending: a map's keys in a new slice. -/
import Derived.Test.YtihnnffhpgbgjaaPreach
import Derived.Shelf.Abstract
import Derived.Shelf.AbstractIn
import Derived.Shelf.RegionOpen
import Derived.OwnWalkIn
import Derived.TacticsInMore
import Derived.LoopNIn
import Derived.LoopIn
import Derived.RangeFuncBound
namespace Go.Proofs.Ytihnnffhpgbgjaa
open Go.RowKit Go.Maps Go.ChangeMaps Go.MapKept Go.Sort Go.Shelf
open Gp
/-- slices.Sort's two contracts. -/
theorem sorts_at (m : Nat) : AnyZI.SortsIn Try.prog Try.lsorted_ren Fence.wide m :=
  ⟨fun blk off cap ss W hH hblk hsz => callsIn_wide.2 (AnyM.slices_Sort_int Try.lsort blk off cap ss W hH hblk hsz),
   fun p cap W => callsIn_wide.2 (AnyM.slices_Sort_int_none Try.lsort p cap W)⟩
theorem sort_is {T ss : List Int} (hT : T.Pairwise (· < ·)) (hp : ss.Perm T) : ss.mergeSort (fun x y => decide (x ≤ y)) = T := by
  rw [mergeSort_of_perm_i hp]
  exact List.mergeSort_of_pairwise (hT.imp fun h => by simpa using Int.le_of_lt h)
section
variable {w : World} {mb c : Nat} {m : Int → Option Value} {T : List Int}
set_option maxHeartbeats 1000000 in
theorem asc_set (h : IMap w mb c m) (hc : c ≤ 1000) (hT : T.Pairwise (· < ·)) (hm : ∀ x, x ∈ T ↔ (m x).isSome = true) :
    Calls Try.prog 43 #[.map (some mb)] w fun e w' => ∃ v, e = .returned v ∧ NumsAt w' v T ∧ Below w.heap.size w w' := by
  obtain ⟨D0, hown, hsz, hperm, _⟩ := h.keys (hT.imp fun h => Int.ne_of_lt h) hm
  refine (callsIn_wide (n := 6)).1 ?_
  have hbl := hown.lt
  have hseq : SeqGives Fence.wide 2 Try.prog 60 #[.pointer (some ⟨w.heap.size, 0, none⟩)] encZ (fun ss => ss.Perm (intKeys D0)) (Maps.size D0) (w.alloc (.cells #[.map (some mb)] 60)) :=
    AnyZI.keys_gives (ρ := Try.lkeysB_ren) { Try.lkeysB with } Fence.wide _ trivial rfl (by omega) w.heap.size mb c D0 _ (by simp) (by simp) (by
      obtain ⟨es, clock, hb, Ft, hs, hD⟩ := hown
      exact ⟨es, clock, (Below.heap_alloc _ _ mb hbl).trans hb, Ft, hs, hD⟩)
  have cK : ∀ q W, CallsIn Fence.wide 5 Try.prog 47 #[.map q] W fun e w' => e = .returned (.func (.func 60) #[] #[.pointer (some ⟨W.heap.size, 0, none⟩)]) ∧ w' = W.alloc (.cells #[.map q] 60) := fun q W => AnyZI.keys_in Try.lkeysB Fence.wide 5 trivial rfl q W
  have cS := AnyZI.sorted_in Try.lsorted Fence.wide 5 trivial trivial trivial trivial rfl (by omega) (sorts_at _) (enters_of Try.func67 (by kernel_rfl) rfl) 60 #[.pointer (some ⟨w.heap.size, 0, none⟩)] trivial (enters_of Try.func60 (by kernel_rfl) rfl) _ _ (by rw [hsz]; unfold maxLen; omega) (by rw [hsz]; omega) _ hseq
  change CallsIn _ _ Try.prog 58 _ _ _ at cS
  have hfK : Fence.wide.fn 47 := trivial
  have hfS : Fence.wide.fn 58 := trivial
  clear hown hseq
  refine callsIn_of_wp Try.func43 rfl trivial ?_ rfl
  simp only [Try.ntmps43, List.size_toArray, List.length_cons, List.length_nil, Nat.reduceAdd, Nat.reduceSub, Array.replicate_succ, Array.replicate_zero, List.push_toArray, List.append_toArray, List.nil_append, List.cons_append]
  gi_wp2_with (first
    | (gi_at_call 47; refine (cK _ _).mono ?_; rintro e w' ⟨rfl, rfl⟩)
    | (gi_at_call 58; refine cS.mono ?_; rintro e w' ⟨v, ss, rfl, hS, hrow, hnil, hb⟩))
  go_ret
  rw [sort_is hT (hS.trans hperm.symm)] at hrow
  exact ⟨v, rfl, NumsAt.of_own hrow, ((Below.refl _ w).alloc (Nat.le_refl _) _).trans (hb.mono (by simp))⟩
set_option maxHeartbeats 1000000 in
theorem asc_node (h : IMap w mb c m) (hc : c ≤ 1000) (hT : T.Pairwise (· < ·)) (hm : ∀ x, x ∈ T ↔ (m x).isSome = true) :
    Calls Try.prog 45 #[.map (some mb)] w fun e w' => ∃ v, e = .returned v ∧ NumsAt w' v T ∧ Below w.heap.size w w' := by
  obtain ⟨D0, hown, hsz, hperm, _⟩ := h.keys (hT.imp fun h => Int.ne_of_lt h) hm
  refine (callsIn_wide (n := 6)).1 ?_
  have hbl := hown.lt
  have hseq : SeqGives Fence.wide 2 Try.prog 65 #[.pointer (some ⟨w.heap.size, 0, none⟩)] encZ (fun ss => ss.Perm (intKeys D0)) (Maps.size D0) (w.alloc (.cells #[.map (some mb)] 52)) :=
    AnyZI.keys_gives (ρ := Try.lkeysN_ren) { Try.lkeysN with } Fence.wide _ trivial rfl (by omega) w.heap.size mb c D0 _ (by simp) (by simp) (by
      obtain ⟨es, clock, hb, Ft, hs, hD⟩ := hown
      exact ⟨es, clock, (Below.heap_alloc _ _ mb hbl).trans hb, Ft, hs, hD⟩)
  have cK : ∀ q W, CallsIn Fence.wide 5 Try.prog 57 #[.map q] W fun e w' => e = .returned (.func (.func 65) #[] #[.pointer (some ⟨W.heap.size, 0, none⟩)]) ∧ w' = W.alloc (.cells #[.map q] 52) := fun q W => AnyZI.keys_in Try.lkeysN Fence.wide 5 trivial rfl q W
  have cS := AnyZI.sorted_in Try.lsorted Fence.wide 5 trivial trivial trivial trivial rfl (by omega) (sorts_at _) (enters_of Try.func67 (by kernel_rfl) rfl) 65 #[.pointer (some ⟨w.heap.size, 0, none⟩)] trivial (enters_of Try.func65 (by kernel_rfl) rfl) _ _ (by rw [hsz]; unfold maxLen; omega) (by rw [hsz]; omega) _ hseq
  change CallsIn _ _ Try.prog 58 _ _ _ at cS
  have hfK : Fence.wide.fn 57 := trivial
  have hfS : Fence.wide.fn 58 := trivial
  clear hown hseq
  refine callsIn_of_wp Try.func45 rfl trivial ?_ rfl
  simp only [Try.ntmps45, List.size_toArray, List.length_cons, List.length_nil, Nat.reduceAdd, Nat.reduceSub, Array.replicate_succ, Array.replicate_zero, List.push_toArray, List.append_toArray, List.nil_append, List.cons_append]
  gi_wp2_with (first
    | (gi_at_call 57; refine (cK _ _).mono ?_; rintro e w' ⟨rfl, rfl⟩)
    | (gi_at_call 58; refine cS.mono ?_; rintro e w' ⟨v, ss, rfl, hS, hrow, hnil, hb⟩))
  go_ret
  rw [sort_is hT (hS.trans hperm.symm)] at hrow
  exact ⟨v, rfl, NumsAt.of_own hrow, ((Below.refl _ w).alloc (Nat.le_refl _) _).trans (hb.mono (by simp))⟩
end
end Go.Proofs.Ytihnnffhpgbgjaa
