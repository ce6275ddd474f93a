/- A node more: the others' levels stay. No Go. -/
import Derived.Test.YtihnnffhpgbgjaaGk
namespace Go.Proofs.Ytihnnffhpgbgjaa
open Gp
namespace Gp
section
variable {G : List Nd} {n : Nd}
theorem ins_ok (ok : Ok G) (hr : right n = true) (hn : n.1 ∉ ids G) (hp : ∀ p ∈ n.2, p ∈ ids G) : Ok (ins n G) := by
  have := add_ok ok n
  rwa [add_new hr hn hp] at this
theorem lev_ins_old (ok : Ok G) (hr : right n = true) (hn : n.1 ∉ ids G) (hp : ∀ p ∈ n.2, p ∈ ids G) : ∀ (m : Nat) (x : Int), x.toNat < m → x ∈ ids G → lev (ins n G) x = lev G x
  | 0, x, h, _ => by omega
  | m + 1, x, h, hx => by
    have ok2 := ins_ok ok hr hn hp
    have hne : x ≠ n.1 := fun e => hn (e ▸ hx)
    rw [lev_eq ok2 (mem_ids_ins.2 (.inr hx)), lev_eq ok hx, par_ins ok.asc hn, if_neg hne]
    congr 1
    refine List.map_congr_left fun p hpx => ?_
    have := ok.lt hpx
    exact lev_ins_old ok hr hn hp m p (by omega) this.2.1
theorem lev_ins (ok : Ok G) (hr : right n = true) (hn : n.1 ∉ ids G) (hp : ∀ p ∈ n.2, p ∈ ids G) (x : Int) (hx : x ∈ ids G) : lev (ins n G) x = lev G x := lev_ins_old ok hr hn hp _ x (Nat.lt_succ_self _) hx
theorem lev_ins_new (ok : Ok G) (hr : right n = true) (hn : n.1 ∉ ids G) (hp : ∀ p ∈ n.2, p ∈ ids G) : lev (ins n G) n.1 = top (n.2.map (lev G)) := by
  rw [lev_eq (ins_ok ok hr hn hp) (mem_ids_ins.2 (.inl rfl)), par_ins ok.asc hn, if_pos rfl]
  congr 1
  exact List.map_congr_left fun p hpx => lev_ins ok hr hn hp p (hp p hpx)
theorem top_take {l : List Int} {k : Nat} {v : Int} (h : l[k]? = some v) : top (l.take (k + 1)) = max (top (l.take k)) (v + 1) := by
  unfold top
  rw [List.take_add_one, h, List.foldl_append]
  rfl
end
end Gp
end Go.Proofs.Ytihnnffhpgbgjaa
