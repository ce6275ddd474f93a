/- do: an act is performed. -/
import Derived.Test.YtjbcgahdiolhhaaDoorDActs
namespace Go.Proofs.YtjbcgahdiolhhaaDoor.D2
open Go.RowKit Go.Maps Go.ChangeMaps Go.MapKept
open Dp
attribute [local go_sem ↓] Go.wp_at_zero Go.wp_at_succ

section
variable {w : World} {lab : Nat → Nat} {id b : Nat} {D : Dk} {L : Loc}
theorem chg_fresh {w' : World} {mk : List (Nat × Nat)} (h : DiskIn w lab id b D mk L) (hb : Below w.heap.size w w') : Chg id lab lab w w' := chg_below (Chg.refl h.lo) h hb

end
end Go.Proofs.YtjbcgahdiolhhaaDoor.D2
