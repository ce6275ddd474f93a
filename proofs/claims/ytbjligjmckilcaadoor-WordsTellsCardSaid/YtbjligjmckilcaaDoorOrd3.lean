/- A region that draws its order: two operations may come up next. -/
import Derived.Test.YtbjligjmckilcaaDoorOrd2
namespace Go.Proofs.YtbjligjmckilcaaDoor
open Go
section
variable {P : Program} {ops : Array Oper} {Q : Exit → Act → World → Prop} {md : Region.Mode} {S : World → Prop} {c : Nat}
/-- Two may come up, before c: S is shown anew behind each. -/
theorem till_split (i j : Nat) {n : Nat} {t : Array Bool} {a : Act} {w : World} (hr : Region.ready md ops t = [i, j])
    (h1 : ∀ K : Act → World → Prop, HeldK (∀ a' w', S w' → Till P md ops Q c S n (t.setIfInBounds i true) a' w' → K a' w') →
      (ops[i]?).elim False fun o => if Region.wanted o (yielded ops a.tmps) = true then Oper.wp P o a w K Q else K (a.put o.dst undef) w)
    (h2 : ∀ K : Act → World → Prop, HeldK (∀ a' w', S w' → Till P md ops Q c S n (t.setIfInBounds j true) a' w' → K a' w') →
      (ops[j]?).elim False fun o => if Region.wanted o (yielded ops a.tmps) = true then Oper.wp P o a w K Q else K (a.put o.dst undef) w) : Till P md ops Q c S (n + 1) t a w := by
  intro hs
  refine ⟨fun h0 => (by rw [hr] at h0; cases h0), fun k hk => ?_⟩
  have hk' : k ∈ Region.ready md ops t := hk
  have key : (∀ K : Act → World → Prop, HeldK (∀ a' w', S w' → Till P md ops Q c S n (t.setIfInBounds k true) a' w' → K a' w') →
      (ops[k]?).elim False fun o => if Region.wanted o (yielded ops a.tmps) = true then Oper.wp P o a w K Q else K (a.put o.dst undef) w) := by
    rw [hr] at hk
    rcases List.mem_cons.1 hk with rfl | hk
    · exact h1
    · obtain rfl := List.mem_singleton.1 hk
      exact h2
  have h3 := key _ (fun a' w' hS h4 => (⟨fun _ => hS, h4 (shut_set hs hk')⟩ : ((t.setIfInBounds k true).getD c false = false → S w') ∧ anyTill P md ops Q c S n (t.setIfInBounds k true) a' w'))
  unfold wpOp
  cases ho : ops[k]? with
  | none => rw [ho] at h3; exact h3.elim
  | some o =>
    rw [ho] at h3
    simp only [Option.elim] at h3 ⊢
    split
    · rename_i hw; rw [if_pos hw] at h3; exact .inl h3
    · rename_i hw; rw [if_neg hw] at h3; exact h3
end
end Go.Proofs.YtbjligjmckilcaaDoor
