/- Graphs: the examples of layer 7, reckoned. No Go. -/
import Derived.Test.YtihnnffhpgbgjaaGk
namespace Go.Proofs.Ytihnnffhpgbgjaa
namespace Gp
def ancF (G : List Nd) : Nat → Int → Int → Bool
  | 0, _, _ => false
  | f + 1, a, b => (par G b).contains a || (par G b).any (ancF G f a)
theorem ancF_iff {G : List Nd} (ok : Ok G) : ∀ (f : Nat) (a b : Int), b.toNat < f → (ancF G f a b = true ↔ Anc G a b)
  | 0, _, _, h => by omega
  | f + 1, a, b, h => by
    unfold ancF
    rw [Bool.or_eq_true, List.contains_iff_mem, List.any_eq_true, anc_iff]
    refine or_congr_right ⟨?_, ?_⟩
    · rintro ⟨p, hp, q⟩
      have := (ok.lt hp).1
      exact ⟨p, hp, (ancF_iff ok f a p (by omega)).1 q⟩
    · rintro ⟨p, hp, q⟩
      have := (ok.lt hp).1
      exact ⟨p, hp, (ancF_iff ok f a p (by omega)).2 q⟩
theorem ancB_eq {G : List Nd} (ok : Ok G) (a b : Int) : ancB G a b = ancF G (b.toNat + 1) a b := anc_same (ancF_iff ok _ a b (Nat.lt_succ_self _))
def pastF (G : List Nd) (x : Int) : List Int := (ids G).filter fun y => ancF G (x.toNat + 1) y x
def downF (G : List Nd) (xs : List Int) : List Int := (ids G).filter fun x => xs.contains x || xs.any fun y => ancF G (y.toNat + 1) x y
theorem past_eq {G : List Nd} (ok : Ok G) (x : Int) : past G x = pastF G x := by
  unfold past pastF
  exact List.filter_congr fun y _ => ancB_eq ok y x
theorem down_eq {G : List Nd} (ok : Ok G) (xs : List Int) : down G xs = downF G xs := by
  unfold down downF inDown
  refine List.filter_congr fun y _ => ?_
  congr 1
  congr 1
  funext z
  exact ancB_eq ok y z
theorem lev_val {G : List Nd} {x : Int} (h : x ∈ ids G) : lev G x = levF G (x.toNat + 1) x := if_pos h
/-- The nodes of the examples. -/
def xl : List Nd := [(0, []), (1, [0]), (2, [0]), (3, [1, 2]), (7, [])]
theorem x_adds : adds [] xl = xl := by decide
theorem x_ok : Ok xl := by have := adds_ok ok_nil xl; rwa [x_adds] at this
theorem x_past : past xl 3 = [0, 1, 2] := by rw [past_eq x_ok]; decide
theorem x_heads : heads xl = [3, 7] := by decide
theorem x_lev3 : lev xl 3 = 2 := by rw [lev_val (by decide)]; decide
theorem x_lev7 : lev xl 7 = 0 := by rw [lev_val (by decide)]; decide
theorem x_lev2 : lev xl 2 = 1 := by rw [lev_val (by decide)]; decide
theorem x_lev5 : lev xl 5 = -1 := lev_no (by decide)
theorem x_sorted : sorted xl [3, 7, 2] = [7, 2, 3] := by
  refine (sorted_is x_ok ?_ fun x => ?_).symm
  · refine List.pairwise_cons.2 ⟨fun y hy => ?_, List.pairwise_cons.2 ⟨fun y hy => ?_, List.pairwise_cons.2 ⟨(fun y hy => by cases hy), List.Pairwise.nil⟩⟩⟩
    · simp at hy
      rcases hy with rfl | rfl
      · left; rw [x_lev7, x_lev2]; decide
      · left; rw [x_lev7, x_lev3]; decide
    · simp at hy; subst hy
      left; rw [x_lev2, x_lev3]; decide
  · simp [ids, xl]; omega
theorem x_down : down xl [1, 7] = [0, 1, 7] := by rw [down_eq x_ok]; decide
theorem x_add3 : add xl (3, [1]) = (5, xl) := by decide
theorem x_add8 : add xl (8, [5]) = (14, xl) := by decide
end Gp
end Go.Proofs.Ytihnnffhpgbgjaa
