/- Laws at operations, for regions that draw their order and for plain ones. -/
import Derived.Test.YtjbcgahdiolhhaaDoorDMeth
import Derived.Deep.RegionLaw
import Derived.Deep.Upon
import Derived.LoopTactic
namespace Go.Proofs.YtjbcgahdiolhhaaDoor.D2
open Go.RowKit Go.Maps Go.ChangeMaps Go.MapKept
open Dp

section
variable {P : Program} {ops : Array Oper} {rest : List Oper} {o : Oper} {a : Act} {w : World} {K : Act → World → Prop} {Q : Exit → Act → World → Prop} {E : Prop}
theorem step_append_run (hgd : o.guard = none) (s x : Operand) (t tn : TypeId) (ho : o.op = .call { callee := .builtin .append, args := #[s, x], argTypes := #[t, tn] }) (vs vx : Value) (hs : a.eval s = vs) (hx : a.eval x = vx)
    (v' : Value) (w' : World) (hr : (Builtin.append_ #[t, tn] o.type #[vs, vx]).run P w = .ok v' w') (h : K (a.put o.dst v') w') : if Region.wanted o (yielded ops a.tmps) = true then Oper.wp P o a w K Q else E := by
  have hw : Region.wanted o (yielded ops a.tmps) = true := by simp [Region.wanted, hgd]
  rw [if_pos hw]
  exact Lib.wp_append_run w s x t tn ho vs vx hs hx v' w' hr h
theorem step_delete_run (hgd : o.guard = none) (s x : Operand) (t tn : TypeId) (ho : o.op = .call { callee := .builtin .delete, args := #[s, x], argTypes := #[t, tn] }) (vs vx : Value) (hs : a.eval s = vs) (hx : a.eval x = vx)
    (w' : World) (hr : (Builtin.delete_ #[t, tn] o.type #[vs, vx]).run P w = .ok (.tuple #[]) w') (h : K (a.put o.dst (.tuple #[])) w') : if Region.wanted o (yielded ops a.tmps) = true then Oper.wp P o a w K Q else E := by
  have hw : Region.wanted o (yielded ops a.tmps) = true := by simp [Region.wanted, hgd]
  rw [if_pos hw]
  unfold Oper.wp
  simp [execOp, ho, resolve, invoke, builtin, hs, hx, hr, Result.andThen]
  exact h
theorem wpList_clear_run (hgd : o.guard = none) (s : Operand) (t : TypeId) (ho : o.op = .call { callee := .builtin .clear, args := #[s], argTypes := #[t] }) (vs : Value) (hs : a.eval s = vs)
    (w' : World) (hr : (Builtin.clear_ #[t] o.type #[vs]).run P w = .ok (.tuple #[]) w') (h : wpList P ops Q rest (a.put o.dst (.tuple #[])) w') : wpList P ops Q (o :: rest) a w := by
  refine wpList_plain hgd fun K hK => ?_
  unfold Oper.wp
  simp [execOp, ho, resolve, invoke, builtin, hs, hr, Result.andThen]
  exact hK _ _ h
end

theorem markMap_nil (kl : Lit) : markMap [] kl = none := by simp [markMap]
theorem own_zero {w : World} {e : TypeId} {size n c : Nat} {a : Option Addr} {xs : List Value} (h : w.ownsRow 0 e size (.slice a n c) n xs) : w.ownsRow 0 e size (.slice a 0 c) 0 [] := by
  refine ⟨by simp, ?_⟩
  rcases h.2 with ⟨h1, _⟩ | ⟨g, cap, cur, h1, h2, h3, h4, h5, h6, h7⟩
  · cases h1; exact .inl ⟨rfl, rfl⟩
  · cases h1; exact .inr ⟨g, c, cur, rfl, h2, h3, Nat.zero_le _, h5, h6, by simp⟩

/-- append of what another slice of bytes holds. -/
theorem run_append_bytes (w : World) (v u : Value) (n : Nat) (xs : List Value) (l : List UInt8) (hv : w.ownsRow 0 5 1 v n xs) (hu : w.ownsRow 0 5 1 u l.length (byteVs l)) (hn : n + l.length ≤ 140737488355328) :
    ∃ v' w', (Builtin.append_ #[58, 58] 58 #[v, u]).run Tryd.prog w = .ok v' w' ∧ w'.ownsRow 0 5 1 v' (n + l.length) (xs ++ byteVs l) ∧ w.grownBy w' v.ownBlock ∧ (v'.ownBlock = v.ownBlock ∨ ∀ k, v'.ownBlock = some k → w.heap.size ≤ k) := by
  obtain ⟨i0, hi, hz0, hz1, hz2⟩ := info_parts byte_info
  rcases hu.2 with ⟨rfl, h0⟩ | ⟨g, cap, cur, hv', _⟩
  · obtain rfl : l = [] := List.eq_nil_of_length_eq_zero h0
    obtain ⟨a, c, rfl⟩ := own_form hv
    have hnc : n ≤ c := by
      rcases hv.2 with ⟨h1, h2⟩ | ⟨g, cap, cur, h1, _, _, h4, _⟩
      · omega
      · cases h1; exact h4
    refine ⟨_, w, run_append_nothing w _ _ _ _ i0 Tryd.underlying58 hi a n c hnc _ (Src.ofNil (w := w) Tryd.underlying58 0), by simpa [byteVs] using hv, ⟨rfl, rfl, rfl, Nat.le_refl _, fun _ _ _ => rfl⟩, .inl rfl⟩
  · subst hv'
    obtain ⟨v', w', h1, h2, h3, _, h5⟩ := run_append_own_at (P := Tryd.prog) w 0 58 58 5 i0 (.int .u8 0) 1 1 Tryd.underlying58 hi hz0 hz1 hz2 rfl (by decide) v n xs hv ⟨g, 0, none⟩ l.length cap (byteVs l) (by rw [byteVs_length]; omega) (fun j u hj => hu.cells (g := g) rfl j u hj) (oneCell_bytes l) (by unfold maxLen; omega) (by omega) (Nat.zero_le _)
    exact ⟨v', w', h1, h2, h3, h5.imp id fun h k hk => by rw [h] at hk; cases hk; exact Nat.le_refl _⟩
theorem run_append_bytes0 (w : World) (v u : Value) (l : List UInt8) (hv : w.ownsRow 0 5 1 v 0 []) (hu : w.ownsRow 0 5 1 u l.length (byteVs l)) (hn : l.length ≤ 140737488355328) :
    ∃ v' w', (Builtin.append_ #[58, 58] 58 #[v, u]).run Tryd.prog w = .ok v' w' ∧ w'.ownsRow 0 5 1 v' l.length (byteVs l) ∧ w.grownBy w' v.ownBlock ∧ (v'.ownBlock = v.ownBlock ∨ ∀ k, v'.ownBlock = some k → w.heap.size ≤ k) := by
  have := run_append_bytes w v u 0 [] l hv hu (by omega)
  rwa [Nat.zero_add, List.nil_append] at this
end Go.Proofs.YtjbcgahdiolhhaaDoor.D2
