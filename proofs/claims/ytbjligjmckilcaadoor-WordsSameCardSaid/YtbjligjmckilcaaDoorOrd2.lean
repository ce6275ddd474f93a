/- More on a region that draws its order. -/
import Derived.Test.YtbjligjmckilcaaDoorOrd
namespace Go.Proofs.YtbjligjmckilcaaDoor
open Go
section
variable {P : Program} {ops : Array Oper} {Q : Exit → Act → World → Prop} {md : Region.Mode} {S : World → Prop} {c : Nat}
/-- Take number i, which yields in whatever world, once c has come up. -/
theorem till_late (i : Nat) {v : Value} {n : Nat} {t : Array Bool} {a : Act} {w : World} (hsel : Region.noSelect ops = true) (hic : (i == c) = false)
    (hf : Region.free md ops t i = true) (hr : (Region.ready md ops t).contains i = true) (hQ : ∀ p a w, Q (.panic p) (a.put (dstOf ops i) v) w → Q (.panic p) a w) (hct : t.getD c false = true)
    (hw : (ops[i]?).elim False fun oi => Region.wanted oi (yielded ops a.tmps) = true)
    (hy : (ops[i]?).elim False fun oi => ∀ w, (execOp a.eval oi).run P w = .ok (.value v) w)
    (h : Till P md ops Q c S n (t.setIfInBounds i true) (a.put (dstOf ops i) v) w) : Till P md ops Q c S (n + 1) t a w := by
  intro hs
  cases hi : ops[i]? with
  | none => rw [hi] at hw; exact hw.elim
  | some oi =>
    rw [hi] at hw hy
    simp only [Option.elim] at hw hy
    have hr' : i ∈ Region.ready md ops t := by simpa using hr
    have hd : dstOf ops i = oi.dst := by unfold dstOf; rw [hi]; rfl
    rw [hd] at h hQ
    refine till_first (b := false) (f := 0) hi hsel (fun hbt => by cases hbt) (by simpa using hic) hQ n t a w hs (Region.free_spec hi hf) hr' (.inl ⟨hw, fun w _ => hy w⟩) (fun h0 => by rw [hct] at h0; cases h0) (h (shut_set hs hr'))
/-- One alone may come up, before c: S is shown anew. -/
theorem till_before (i : Nat) {n : Nat} {t : Array Bool} {a : Act} {w : World} (hr : Region.ready md ops t = [i])
    (h : ∀ K : Act → World → Prop, HeldK (∀ a' w', S w' → Till P md ops Q c S n (t.setIfInBounds i true) a' w' → K a' w') →
      (ops[i]?).elim False fun o => if Region.wanted o (yielded ops a.tmps) = true then Oper.wp P o a w K Q else K (a.put o.dst undef) w) : Till P md ops Q c S (n + 1) t a w := by
  intro hs
  refine ⟨fun h0 => (by rw [hr] at h0; cases h0), fun j hj => ?_⟩
  have hj' : j ∈ Region.ready md ops t := hj
  rw [hr] at hj
  have hji : j = i := by simpa using hj
  subst hji
  have h1 := h _ (fun a' w' hS h2 => (⟨fun _ => hS, h2 (shut_set hs hj')⟩ : ((t.setIfInBounds j true).getD c false = false → S w') ∧ anyTill P md ops Q c S n (t.setIfInBounds j true) a' w'))
  unfold wpOp
  cases ho : ops[j]? with
  | none => rw [ho] at h1; exact h1.elim
  | some o =>
    rw [ho] at h1
    simp only [Option.elim] at h1 ⊢
    split
    · rename_i hw; rw [if_pos hw] at h1; exact .inl h1
    · rename_i hw; rw [if_neg hw] at h1; exact h1
end
end Go.Proofs.YtbjligjmckilcaaDoor
