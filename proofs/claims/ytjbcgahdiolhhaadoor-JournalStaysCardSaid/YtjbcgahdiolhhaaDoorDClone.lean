/- slices.Clone and maps.Clone, as they lie in this translation. -/
import Derived.Test.YtjbcgahdiolhhaaDoorDPut
import Derived.Shelf.SlMaps.Clone
import Derived.Lib.SliceRun
namespace Go.Proofs.YtjbcgahdiolhhaaDoor.D2
open Go.RowKit Go.Maps Go.ChangeMaps Go.MapKept
open Dp

/-- A slice that is read: nil, or its cells. -/
def SrcIs (w : World) (size : Nat) (v : Value) (n : Nat) (xs : List Value) : Prop :=
  xs.length = n * size ∧ ((v = .slice none 0 0 ∧ n = 0) ∨ ∃ ad cap, v = .slice (some ad) n cap ∧ (∀ j u, xs[j]? = some u → w.cell? (ad.add j) = some u) ∧ ∀ u ∈ xs, u.oneCell' = true)
theorem SrcIs.of_own {w : World} {base : Nat} {e : TypeId} {size n : Nat} {v : Value} {xs : List Value} (h : w.ownsRow base e size v n xs) (h1 : ∀ u ∈ xs, u.oneCell' = true) : SrcIs w size v n xs := by
  refine ⟨h.1, ?_⟩
  rcases h.2 with h2 | ⟨g, cap, cur, rfl, r⟩
  · exact .inl h2
  · exact .inr ⟨_, cap, rfl, fun j u hj => h.cells rfl j u hj, h1⟩

/-- A slice of the call's own, in a new block. -/
def FreshRow (w w' : World) (e : TypeId) (size : Nat) (n : Nat) (xs : List Value) (v' : Value) : Prop := w'.ownsRow 0 e size v' n xs ∧ ∀ k, v'.ownBlock = some k → w.heap.size ≤ k
def ClonePost (w : World) (el : TypeId) (size n : Nat) (xs : List Value) (e : Ending) (w' : World) : Prop := ∃ v', e = .returned v' ∧ FreshRow w w' el size n xs v' ∧ Below w.heap.size w w'
theorem oneCell_ints (l : List Int) : ∀ u ∈ intVs l, u.oneCell' = true := by
  intro u hu; obtain ⟨b, _, rfl⟩ := List.mem_map.1 hu; rfl
theorem oneCell_secs (l : List (Nat × Nat)) : ∀ u ∈ secVs l, u.oneCell' = true := by
  intro u hu; simp only [secVs, List.mem_flatMap] at hu; obtain ⟨p, _, hp⟩ := hu; simp at hp; rcases hp with rfl | rfl <;> rfl

set_option maxHeartbeats 1000000 in
set_option maxRecDepth 100000 in
theorem cloneI (v : Value) (n : Nat) (xs : List Value) (w : World) (h : SrcIs w 1 v n xs) (hn : n * 8 ≤ 140737488355328) :
    Calls Tryd.prog 37 #[v] w (ClonePost w 3 1 n xs) := by
  obtain ⟨i0, hi, hz0, hz1, hz2⟩ := info_parts int_info
  have q22 : ∀ (w : World) (a : Option Addr) (n c n' c' : Nat), (binOp .eql 23 (.slice a n c) (.slice none n' c')).run Tryd.prog w = .ok (.bool a.isNone) w := fun w a n c n' c' => Lib.run_eql_slice_nil w _ _ a n c n' c' Tryd.underlying23
  obtain ⟨hl, h⟩ := h
  rcases h with ⟨rfl, rfl⟩ | ⟨ad, cap, rfl, hc, h1⟩
  · obtain rfl : xs = [] := List.eq_nil_of_length_eq_zero (by omega)
    go_enter Tryd.func37, Tryd.ntmps37
    go_wp2
    go_ret
    exact ⟨_, rfl, ⟨World.ownsRow_nil _ _ _ _, fun k hk => by cases hk⟩, Below.refl _ _⟩
  · have HC := Lib.hid hc
    have H1 := Lib.hid h1
    have HL := Lib.hid hl
    clear hc h1 hl
    go_enter Tryd.func37, Tryd.ntmps37
    go_wp2_with (at_builtin; refine wpList_append_own_at _ rfl _ _ 23 rfl 0 3 i0 (.int .i64 0) 1 8 Tryd.underlying23 hi hz0 hz1 hz2 rfl (by decide) _ _ _ rfl (World.ownsRow_made w #[] 0 (Nat.zero_le _) (by unfold maxLen; omega) (by simp)) ad n cap xs rfl HL.out ?c1 H1.out ?c3 ?c4 (Nat.zero_le _) ?_)
    case c1 =>
      intro j u hj
      have := HC.out j u hj
      exact (World.grownBy_alloc w _ none).cell this (by simp)
    case c3 => unfold maxLen; omega
    case c4 => omega
    intro v' w1 hown hg _ hat
    have hg := (show (w.alloc (.cells #[] 3)).grownBy w1 (some w.heap.size) from hg)
    have HAT := Lib.hid hat
    clear hat
    go_wp2
    go_ret
    refine ⟨v', rfl, ⟨by simpa using hown, fun k hk => ?_⟩, ?_⟩
    · rcases HAT.out with h | h
      · have h2 := h.symm.trans hk; simp [Value.ownBlock] at h2; omega
      · have h2 := h.symm.trans hk; simp at h2; omega
    · exact ((Below.refl _ _).alloc (Nat.le_refl _) _).grown hg (by simp) (fun k hk => by cases hk; exact Nat.le_refl _)

end Go.Proofs.YtjbcgahdiolhhaaDoor.D2
