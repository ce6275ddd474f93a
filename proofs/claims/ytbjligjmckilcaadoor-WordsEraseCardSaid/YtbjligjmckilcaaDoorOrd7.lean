/- A region that draws its order: an operation that is guarded off. -/
import Derived.Test.YtbjligjmckilcaaDoorOrd4
namespace Go.Proofs.YtbjligjmckilcaaDoor
open Go
section
variable {P : Program} {ops : Array Oper} {Q : Exit → Act → World → Prop} {md : Region.Mode} {S : World → Prop} {c : Nat}
/-- Pass over number i, which is guarded off. -/
theorem till_skip (i : Nat) {n : Nat} {t : Array Bool} {a : Act} {w : World} (hsel : Region.noSelect ops = true) (hic : (i == c) = false)
    (hf : Region.free md ops t i = true) (hr : (Region.ready md ops t).contains i = true) (hQ : ∀ p a w, Q (.panic p) (a.put (dstOf ops i) undef) w → Q (.panic p) a w)
    (hw : (ops[i]?).elim False fun oi => Region.wanted oi (yielded ops a.tmps) = false) (hS : t.getD c false = false → S w)
    (h : Till P md ops Q c S n (t.setIfInBounds i true) (a.put (dstOf ops i) undef) w) : Till P md ops Q c S (n + 1) t a w := by
  intro hs
  cases hi : ops[i]? with
  | none => rw [hi] at hw; exact hw.elim
  | some oi =>
    rw [hi] at hw
    simp only [Option.elim] at hw
    have hr' : i ∈ Region.ready md ops t := by simpa using hr
    have hd : dstOf ops i = oi.dst := by unfold dstOf; rw [hi]; rfl
    rw [hd] at h hQ
    refine till_first (b := false) (f := 0) hi hsel (fun hbt => by cases hbt) (by simpa using hic) hQ n t a w hs (Region.free_spec hi hf) hr' (.inr ⟨hw, rfl⟩) hS (h (shut_set hs hr'))
end
end Go.Proofs.YtbjligjmckilcaaDoor
