/- The reference of layer 11: token. -/
import Derived.Test.YtenbdnkipkfpkaaDoorLq5
import Derived.Laws.Rows
namespace Go.Proofs.YtenbdnkipkfpkaaDoor
open Go.RowKit Go.Maps Go.ChangeMaps Go.MapKept
open Lx
attribute [local go_sem ↓] Go.wp_at_zero Go.wp_at_succ
theorem results_cell_tmp {P : Program} {fn : Func} {p u : Tmp} {ty : TypeId} (h : fn.results = #[.cell p ty, .tmp u]) (tmps : Array Value) (w : World) (g : Nat) (t : TypeId) (cs : Array Value) (fr : Nat × Nat) (d : TypeDesc)
    (hp : tmps.getD p undef = .pointer (some ⟨g, 0, none⟩)) (hg : w.heap[g]? = some (.cells cs t fr))
    (hu : P.underlying ty = some d) (hd : (match d with | .struct _ | .array _ _ => true | _ => false) = true) (hi : (P.info? ty).map (·.size) = some cs.size) :
    (results fn tmps).run P w = .ok (.tuple #[.agg cs, tmps.getD u undef]) w := by
  have hp' : tmps[p]?.getD undef = .pointer (some ⟨g, 0, none⟩) := by simpa using hp
  simp [results, h, hp', asAddr, run_loadVar_row w g t ty cs fr d hg hu hd hi]
def tokRes (s : S) (p : Int) : Tk × Int := match tok s with | .ok (k, w, n) => (⟨k, w, n, p⟩, 0) | .error e => (⟨0, [], 0, 0⟩, e)
theorem tokRes_ok {s w : S} {k n p : Int} (h : tok s = .ok (k, w, n)) : tokRes s p = (⟨k, w, n, p⟩, 0) := by unfold tokRes; rw [h]
theorem tokRes_err {s : S} {e p : Int} (h : tok s = .error e) : tokRes s p = (⟨0, [], 0, 0⟩, e) := by unfold tokRes; rw [h]
def tkV (t : Tk) : Value := .agg #[.int .i64 t.kind, .string (bs t.text), .int .i64 t.n, .int .i64 t.pos]
theorem tw_get {q : UInt8 → Bool} : ∀ {r : S} {i : Nat}, i < (r.takeWhile q).length → ∃ d, r[i]? = some d ∧ q d = true
  | [], i, h => by simp at h
  | c :: r, i, h => by
    by_cases hq : q c = true
    · rw [List.takeWhile_cons_of_pos hq] at h
      cases i with
      | zero => exact ⟨c, rfl, hq⟩
      | succ i => exact tw_get (r := r) (by simpa using h)
    · rw [List.takeWhile_cons_of_neg hq] at h; simp at h
theorem tw_end {q : UInt8 → Bool} : ∀ {r : S} {d : UInt8}, r[(r.takeWhile q).length]? = some d → q d = false
  | [], d, h => by simp at h
  | c :: r, d, h => by
    by_cases hq : q c = true
    · rw [List.takeWhile_cons_of_pos hq] at h
      exact tw_end (r := r) (by simpa using h)
    · rw [List.takeWhile_cons_of_neg hq] at h
      simp at h; subst h; simpa using hq
theorem tw_len {q : UInt8 → Bool} (r : S) : (r.takeWhile q).length ≤ r.length := (List.takeWhile_sublist _).length_le
theorem take_tw {q : UInt8 → Bool} (r : S) : r.take (r.takeWhile q).length = r.takeWhile q := by
  obtain ⟨d, hd, _⟩ := tw_pre (q := q) r
  conv => lhs; rw [hd]
  rw [← hd]
  have : r.take (r.takeWhile q).length = (r.takeWhile q ++ d).take (r.takeWhile q).length := by rw [← hd]
  rw [this]; exact List.take_left
/-- A token's cells that are stored at once. -/
theorem put4 {w0 w : World} {b : Nat} {z : Array Value} {a0 a1 a2 a3 : Value} (h : OMem w0 w [.raw b (.cells #[z.getD 0 undef, z.getD 1 undef, z.getD 2 undef, z.getD 3 undef] 25 (0, 0))]) :
    OMem w0 ((((w.setCell ⟨b, 0, none⟩ a0).setCell ⟨b, 1, none⟩ a1).setCell ⟨b, 2, none⟩ a2).setCell ⟨b, 3, none⟩ a3) [.raw b (.cells #[a0, a1, a2, a3] 25 (0, 0))] :=
  (((h.raw_set (i := 0) rfl 0 a0).raw_set (i := 0) rfl 1 a1).raw_set (i := 0) rfl 2 a2).raw_set (i := 0) rfl 3 a3
end Go.Proofs.YtenbdnkipkfpkaaDoor
