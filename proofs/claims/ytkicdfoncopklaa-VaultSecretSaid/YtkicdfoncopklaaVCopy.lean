/- Package vault: Copy. -/
import Derived.Test.YtkicdfoncopklaaVLock
namespace Go.Proofs.Ytkicdfoncopklaa
open Go.RowKit Go.Maps Go.ChangeMaps Go.MapKept
open Vp
attribute [local go_sem ↓] Go.wp_at_zero Go.wp_at_succ

theorem oneCell_buns {ks : List Bun} (h : ∀ p ∈ ks, p.v.oneCell' = true) : ∀ u ∈ bunVs ks, u.oneCell' = true := by
  induction ks with
  | nil => intro u hu; cases hu
  | cons a l ih =>
    intro u hu
    simp only [bunVs, List.mem_cons] at hu
    rcases hu with rfl | rfl | hu
    · rfl
    · exact h a (by simp)
    · exact ih (fun p hp => h p (by simp [hp])) u hu
theorem oneCell_pls (ps : List (Nat × Nat)) : ∀ u ∈ plVs ps, u.oneCell' = true := by
  induction ps with
  | nil => intro u hu; cases hu
  | cons a l ih =>
    intro u hu
    simp only [plVs, List.mem_cons] at hu
    rcases hu with rfl | rfl | hu
    · rfl
    · rfl
    · exact ih u hu
theorem oneCell_own {w : World} {e : TypeId} {size n : Nat} {v : Value} {xs : List Value} (h : w.ownsRow 0 e size v n xs) : v.oneCell' = true := by
  obtain ⟨a, c, rfl⟩ := own_form h; rfl
def ClonePost (e : TypeId) (size : Nat) (w : World) (n : Nat) (xs : List Value) (r : Ending) (w' : World) : Prop := ∃ v', r = .returned v' ∧ (w'.ownsRow 0 e size v' n xs ∧ ∀ k, v'.ownBlock = some k → w.heap.size ≤ k) ∧ Below w.heap.size w w'
set_option maxHeartbeats 1000000 in
set_option maxRecDepth 100000 in
theorem cloneB (v : Value) (n : Nat) (xs : List Value) (w : World) (h : w.ownsRow 0 58 2 v n xs) (h1 : ∀ u ∈ xs, u.oneCell' = true) (hn : n ≤ 200000) :
    Calls Try.prog 25 #[v] w (ClonePost 58 2 w n xs) := by
  obtain ⟨i0, hi, hz0, hz1, hz2⟩ := info_parts bun_info
  have q22 : ∀ (w : World) (a : Option Addr) (n c n' c' : Nat), (binOp .eql 51 (.slice a n c) (.slice none n' c')).run Try.prog w = .ok (.bool a.isNone) w := fun w a n c n' c' => Lib.run_eql_slice_nil w _ _ a n c n' c' Try.underlying51
  have hlen := h.1
  rcases Nat.eq_zero_or_pos n with h0 | h0
  · subst h0
    obtain rfl : xs = [] := List.eq_nil_of_length_eq_zero (by omega)
    rcases h.2 with ⟨rfl, _⟩ | ⟨g, cap, cur, rfl, _⟩
    · go_enter Try.func25, Try.ntmps25
      go_wp2
      go_ret
      exact ⟨_, rfl, ⟨World.ownsRow_nil _ _ _ _, fun k hk => by cases hk⟩, Below.refl _ _⟩
    · have HC := Lib.hid h
      have H1 := Lib.hid h1
      have HL := Lib.hid hlen
      clear h h1 hlen
      go_enter Try.func25, Try.ntmps25
      go_wp2_with (at_builtin; refine wpList_append_own_at _ rfl _ _ 51 rfl 0 58 i0 (.agg #[.bool false, .slice none 0 0]) 2 32 Try.underlying51 hi hz0 hz1 hz2 rfl (by decide) _ _ _ rfl (World.ownsRow_made w #[] 0 (Nat.zero_le _) (by unfold maxLen; omega) (by simp)) ⟨g, 0, none⟩ _ cap _ rfl HL.out ?c1 H1.out ?c3 ?c4 (Nat.zero_le _) ?_)
      case c1 =>
        intro j u hj
        rw [Lib.add_plain, Nat.zero_add]
        exact (World.grownBy_alloc w _ none).cell (own_at HC.out hj) (by simp)
      case c3 => unfold maxLen; omega
      case c4 => omega
      intro v' w1 hown hg _ hat
      have hg := (show (w.alloc (.cells #[] 58)).grownBy w1 (some w.heap.size) from hg)
      have HAT := Lib.hid hat
      clear hat
      go_wp2
      go_ret
      refine ⟨v', rfl, ⟨by simpa using hown, fun k hk => ?_⟩, ?_⟩
      · rcases HAT.out with h | h
        · have h2 := h.symm.trans hk; simp [Value.ownBlock] at h2; omega
        · have h2 := h.symm.trans hk; simp at h2; omega
      · exact ((Below.refl _ _).alloc (Nat.le_refl _) _).grown hg (by simp) (fun k hk => by cases hk; exact Nat.le_refl _)
  · obtain ⟨g, cap, rfl⟩ := own_some h h0
    have HC := Lib.hid h
    have H1 := Lib.hid h1
    have HL := Lib.hid hlen
    clear h h1 hlen
    go_enter Try.func25, Try.ntmps25
    go_wp2_with (at_builtin; refine wpList_append_own_at _ rfl _ _ 51 rfl 0 58 i0 (.agg #[.bool false, .slice none 0 0]) 2 32 Try.underlying51 hi hz0 hz1 hz2 rfl (by decide) _ _ _ rfl (World.ownsRow_made w #[] 0 (Nat.zero_le _) (by unfold maxLen; omega) (by simp)) ⟨g, 0, none⟩ _ cap _ rfl HL.out ?c1 H1.out ?c3 ?c4 (Nat.zero_le _) ?_)
    case c1 =>
      intro j u hj
      rw [Lib.add_plain, Nat.zero_add]
      exact (World.grownBy_alloc w _ none).cell (own_at HC.out hj) (by simp)
    case c3 => unfold maxLen; omega
    case c4 => omega
    intro v' w1 hown hg _ hat
    have hg := (show (w.alloc (.cells #[] 58)).grownBy w1 (some w.heap.size) from hg)
    have HAT := Lib.hid hat
    clear hat
    go_wp2
    go_ret
    refine ⟨v', rfl, ⟨by simpa using hown, fun k hk => ?_⟩, ?_⟩
    · rcases HAT.out with h | h
      · have h2 := h.symm.trans hk; simp [Value.ownBlock] at h2; omega
      · have h2 := h.symm.trans hk; simp at h2; omega
    · exact ((Below.refl _ _).alloc (Nat.le_refl _) _).grown hg (by simp) (fun k hk => by cases hk; exact Nat.le_refl _)
set_option maxHeartbeats 1000000 in
set_option maxRecDepth 100000 in
theorem cloneP (v : Value) (n : Nat) (xs : List Value) (w : World) (h : w.ownsRow 0 56 2 v n xs) (h1 : ∀ u ∈ xs, u.oneCell' = true) (hn : n ≤ 200000) :
    Calls Try.prog 26 #[v] w (ClonePost 56 2 w n xs) := by
  obtain ⟨i0, hi, hz0, hz1, hz2⟩ := info_parts pl_info
  have q22 : ∀ (w : World) (a : Option Addr) (n c n' c' : Nat), (binOp .eql 52 (.slice a n c) (.slice none n' c')).run Try.prog w = .ok (.bool a.isNone) w := fun w a n c n' c' => Lib.run_eql_slice_nil w _ _ a n c n' c' Try.underlying52
  have hlen := h.1
  rcases Nat.eq_zero_or_pos n with h0 | h0
  · subst h0
    obtain rfl : xs = [] := List.eq_nil_of_length_eq_zero (by omega)
    rcases h.2 with ⟨rfl, _⟩ | ⟨g, cap, cur, rfl, _⟩
    · go_enter Try.func26, Try.ntmps26
      go_wp2
      go_ret
      exact ⟨_, rfl, ⟨World.ownsRow_nil _ _ _ _, fun k hk => by cases hk⟩, Below.refl _ _⟩
    · have HC := Lib.hid h
      have H1 := Lib.hid h1
      have HL := Lib.hid hlen
      clear h h1 hlen
      go_enter Try.func26, Try.ntmps26
      go_wp2_with (at_builtin; refine wpList_append_own_at _ rfl _ _ 52 rfl 0 56 i0 (.agg #[.int .i64 0, .int .i64 0]) 2 16 Try.underlying52 hi hz0 hz1 hz2 rfl (by decide) _ _ _ rfl (World.ownsRow_made w #[] 0 (Nat.zero_le _) (by unfold maxLen; omega) (by simp)) ⟨g, 0, none⟩ _ cap _ rfl HL.out ?c1 H1.out ?c3 ?c4 (Nat.zero_le _) ?_)
      case c1 =>
        intro j u hj
        rw [Lib.add_plain, Nat.zero_add]
        exact (World.grownBy_alloc w _ none).cell (own_at HC.out hj) (by simp)
      case c3 => unfold maxLen; omega
      case c4 => omega
      intro v' w1 hown hg _ hat
      have hg := (show (w.alloc (.cells #[] 56)).grownBy w1 (some w.heap.size) from hg)
      have HAT := Lib.hid hat
      clear hat
      go_wp2
      go_ret
      refine ⟨v', rfl, ⟨by simpa using hown, fun k hk => ?_⟩, ?_⟩
      · rcases HAT.out with h | h
        · have h2 := h.symm.trans hk; simp [Value.ownBlock] at h2; omega
        · have h2 := h.symm.trans hk; simp at h2; omega
      · exact ((Below.refl _ _).alloc (Nat.le_refl _) _).grown hg (by simp) (fun k hk => by cases hk; exact Nat.le_refl _)
  · obtain ⟨g, cap, rfl⟩ := own_some h h0
    have HC := Lib.hid h
    have H1 := Lib.hid h1
    have HL := Lib.hid hlen
    clear h h1 hlen
    go_enter Try.func26, Try.ntmps26
    go_wp2_with (at_builtin; refine wpList_append_own_at _ rfl _ _ 52 rfl 0 56 i0 (.agg #[.int .i64 0, .int .i64 0]) 2 16 Try.underlying52 hi hz0 hz1 hz2 rfl (by decide) _ _ _ rfl (World.ownsRow_made w #[] 0 (Nat.zero_le _) (by unfold maxLen; omega) (by simp)) ⟨g, 0, none⟩ _ cap _ rfl HL.out ?c1 H1.out ?c3 ?c4 (Nat.zero_le _) ?_)
    case c1 =>
      intro j u hj
      rw [Lib.add_plain, Nat.zero_add]
      exact (World.grownBy_alloc w _ none).cell (own_at HC.out hj) (by simp)
    case c3 => unfold maxLen; omega
    case c4 => omega
    intro v' w1 hown hg _ hat
    have hg := (show (w.alloc (.cells #[] 56)).grownBy w1 (some w.heap.size) from hg)
    have HAT := Lib.hid hat
    clear hat
    go_wp2
    go_ret
    refine ⟨v', rfl, ⟨by simpa using hown, fun k hk => ?_⟩, ?_⟩
    · rcases HAT.out with h | h
      · have h2 := h.symm.trans hk; simp [Value.ownBlock] at h2; omega
      · have h2 := h.symm.trans hk; simp at h2; omega
    · exact ((Below.refl _ _).alloc (Nat.le_refl _) _).grown hg (by simp) (fun k hk => by cases hk; exact Nat.le_refl _)
set_option maxHeartbeats 1000000 in
set_option maxRecDepth 100000 in
theorem cloneT (v : Value) (n : Nat) (xs : List Value) (w : World) (h : w.ownsRow 0 9 1 v n xs) (h1 : ∀ u ∈ xs, u.oneCell' = true) (hn : n ≤ 200000) :
    Calls Try.prog 27 #[v] w (ClonePost 9 1 w n xs) := by
  obtain ⟨i0, hi, hz0, hz1, hz2⟩ := info_parts string_info
  have q22 : ∀ (w : World) (a : Option Addr) (n c n' c' : Nat), (binOp .eql 39 (.slice a n c) (.slice none n' c')).run Try.prog w = .ok (.bool a.isNone) w := fun w a n c n' c' => Lib.run_eql_slice_nil w _ _ a n c n' c' Try.underlying39
  have hlen := h.1
  rcases Nat.eq_zero_or_pos n with h0 | h0
  · subst h0
    obtain rfl : xs = [] := List.eq_nil_of_length_eq_zero (by omega)
    rcases h.2 with ⟨rfl, _⟩ | ⟨g, cap, cur, rfl, _⟩
    · go_enter Try.func27, Try.ntmps27
      go_wp2
      go_ret
      exact ⟨_, rfl, ⟨World.ownsRow_nil _ _ _ _, fun k hk => by cases hk⟩, Below.refl _ _⟩
    · have HC := Lib.hid h
      have H1 := Lib.hid h1
      have HL := Lib.hid hlen
      clear h h1 hlen
      go_enter Try.func27, Try.ntmps27
      go_wp2_with (at_builtin; refine wpList_append_own_at _ rfl _ _ 39 rfl 0 9 i0 (.string ⟨#[]⟩) 1 16 Try.underlying39 hi hz0 hz1 hz2 rfl (by decide) _ _ _ rfl (World.ownsRow_made w #[] 0 (Nat.zero_le _) (by unfold maxLen; omega) (by simp)) ⟨g, 0, none⟩ _ cap _ rfl HL.out ?c1 H1.out ?c3 ?c4 (Nat.zero_le _) ?_)
      case c1 =>
        intro j u hj
        rw [Lib.add_plain, Nat.zero_add]
        exact (World.grownBy_alloc w _ none).cell (own_at HC.out hj) (by simp)
      case c3 => unfold maxLen; omega
      case c4 => omega
      intro v' w1 hown hg _ hat
      have hg := (show (w.alloc (.cells #[] 9)).grownBy w1 (some w.heap.size) from hg)
      have HAT := Lib.hid hat
      clear hat
      go_wp2
      go_ret
      refine ⟨v', rfl, ⟨by simpa using hown, fun k hk => ?_⟩, ?_⟩
      · rcases HAT.out with h | h
        · have h2 := h.symm.trans hk; simp [Value.ownBlock] at h2; omega
        · have h2 := h.symm.trans hk; simp at h2; omega
      · exact ((Below.refl _ _).alloc (Nat.le_refl _) _).grown hg (by simp) (fun k hk => by cases hk; exact Nat.le_refl _)
  · obtain ⟨g, cap, rfl⟩ := own_some h h0
    have HC := Lib.hid h
    have H1 := Lib.hid h1
    have HL := Lib.hid hlen
    clear h h1 hlen
    go_enter Try.func27, Try.ntmps27
    go_wp2_with (at_builtin; refine wpList_append_own_at _ rfl _ _ 39 rfl 0 9 i0 (.string ⟨#[]⟩) 1 16 Try.underlying39 hi hz0 hz1 hz2 rfl (by decide) _ _ _ rfl (World.ownsRow_made w #[] 0 (Nat.zero_le _) (by unfold maxLen; omega) (by simp)) ⟨g, 0, none⟩ _ cap _ rfl HL.out ?c1 H1.out ?c3 ?c4 (Nat.zero_le _) ?_)
    case c1 =>
      intro j u hj
      rw [Lib.add_plain, Nat.zero_add]
      exact (World.grownBy_alloc w _ none).cell (own_at HC.out hj) (by simp)
    case c3 => unfold maxLen; omega
    case c4 => omega
    intro v' w1 hown hg _ hat
    have hg := (show (w.alloc (.cells #[] 9)).grownBy w1 (some w.heap.size) from hg)
    have HAT := Lib.hid hat
    clear hat
    go_wp2
    go_ret
    refine ⟨v', rfl, ⟨by simpa using hown, fun k hk => ?_⟩, ?_⟩
    · rcases HAT.out with h | h
      · have h2 := h.symm.trans hk; simp [Value.ownBlock] at h2; omega
      · have h2 := h.symm.trans hk; simp at h2; omega
    · exact ((Below.refl _ _).alloc (Nat.le_refl _) _).grown hg (by simp) (fun k hk => by cases hk; exact Nat.le_refl _)
end Go.Proofs.Ytkicdfoncopklaa
