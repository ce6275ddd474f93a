/- A region that draws its order: behind the call c the same game again, with another call and another condition. -/
import Derived.Test.YtbjligjmckilcaaDoorOrd3
namespace Go.Proofs.YtbjligjmckilcaaDoor
open Go
section
variable {P : Program} {ops : Array Oper} {Q : Exit → Act → World → Prop} {md : Region.Mode} {S : World → Prop} {c : Nat}
theorem any_again {c' : Nat} {S' : World → Prop} : ∀ (n : Nat) (t : Array Bool) (a : Act) (w : World), t.getD c false = true → anyTill P md ops Q c' S' n t a w → anyTill P md ops Q c S n t a w
  | 0, _, _, _, _, h => h
  | n + 1, t, _, _, hc, h => ⟨h.1, fun i hi => wpOp_mono (fun a' w' h' => ⟨fun h0 => (by rw [getD_set_true hc] at h0; cases h0), any_again n _ a' w' (getD_set_true hc) h'.2⟩) (h.2 i hi)⟩
theorem till_again (c' : Nat) (S' : World → Prop) {n : Nat} {t : Array Bool} {a : Act} {w : World} (hc : t.getD c false = true) (h : Till P md ops Q c' S' n t a w) : Till P md ops Q c S n t a w :=
  fun hs => any_again n t a w hc (h hs)
end
end Go.Proofs.YtbjligjmckilcaaDoor
