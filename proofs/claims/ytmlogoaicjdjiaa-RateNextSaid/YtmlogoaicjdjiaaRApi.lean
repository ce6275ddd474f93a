/- What the walks of layer 9 ask of package rate. -/
import Derived.Test.YtmlogoaicjdjiaaRq
import Derived.Test.YtmlogoaicjdjiaaNums
namespace Go.Proofs.Ytmlogoaicjdjiaa
open Go.RowKit Go.Maps Go.ChangeMaps Go.MapKept
open Rt

def Reads (w : World) (r : Value) (e : Ending) (w' : World) : Prop := e = .returned r ∧ Below w.heap.size w w'
/-- The contracts of package rate. -/
structure RApi : Prop where
  right_ : ∀ {w : World} {L S r b : Int}, I64 L → I64 S → I64 r → I64 b → Calls Try.prog 14 #[.agg #[.int .i64 L, .int .i64 S], .int .i64 r, .int .i64 b] w (Reads w (.bool (right L S r b)))
  free_ : ∀ {w : World} {L S r b t : Int}, I64 L → I64 S → I64 r → I64 b → I64 t → Calls Try.prog 10 #[.agg #[.int .i64 L, .int .i64 S], .int .i64 r, .int .i64 b, .int .i64 t] w (Reads w (.tuple #[.int .i64 (free L S r b t).1, .int .i64 (free L S r b t).2]))
  take_ : ∀ {w : World} {L S r b t n : Int}, I64 L → I64 S → I64 r → I64 b → I64 t → I64 n → Calls Try.prog 8 #[.agg #[.int .i64 L, .int .i64 S], .int .i64 r, .int .i64 b, .int .i64 t, .int .i64 n] w (Reads w (.tuple #[.agg #[.int .i64 (take L S r b t n).1.1, .int .i64 (take L S r b t n).1.2], .int .i64 (take L S r b t n).2]))
  next_ : ∀ {w : World} {L S r b n : Int}, I64 L → I64 S → I64 r → I64 b → I64 n → Calls Try.prog 12 #[.agg #[.int .i64 L, .int .i64 S], .int .i64 r, .int .i64 b, .int .i64 n] w (Reads w (.tuple #[.int .i64 (next L S r b n).1, .int .i64 (next L S r b n).2]))
section
variable {w : World} {L S r b t n : Int}
theorem RApi.right_eq (A : RApi) {x : Bool} (h : right L S r b = x) (hL : I64 L) (hS : I64 S) (hr : I64 r) (hb : I64 b) : Calls Try.prog 14 #[.agg #[.int .i64 L, .int .i64 S], .int .i64 r, .int .i64 b] w (Reads w (.bool x)) := by
  have := A.right_ (w := w) hL hS hr hb; rw [h] at this; exact this
theorem RApi.free_eq (A : RApi) {x y : Int} (h : free L S r b t = (x, y)) (hL : I64 L) (hS : I64 S) (hr : I64 r) (hb : I64 b) (ht : I64 t) : Calls Try.prog 10 #[.agg #[.int .i64 L, .int .i64 S], .int .i64 r, .int .i64 b, .int .i64 t] w (Reads w (.tuple #[.int .i64 x, .int .i64 y])) := by
  have := A.free_ (w := w) hL hS hr hb ht; rw [h] at this; exact this
theorem RApi.take_eq (A : RApi) {x y z : Int} (h : take L S r b t n = ((x, y), z)) (hL : I64 L) (hS : I64 S) (hr : I64 r) (hb : I64 b) (ht : I64 t) (hn : I64 n) : Calls Try.prog 8 #[.agg #[.int .i64 L, .int .i64 S], .int .i64 r, .int .i64 b, .int .i64 t, .int .i64 n] w (Reads w (.tuple #[.agg #[.int .i64 x, .int .i64 y], .int .i64 z])) := by
  have := A.take_ (w := w) hL hS hr hb ht hn; rw [h] at this; exact this
theorem RApi.next_eq (A : RApi) {x y : Int} (h : next L S r b n = (x, y)) (hL : I64 L) (hS : I64 S) (hr : I64 r) (hb : I64 b) (hn : I64 n) : Calls Try.prog 12 #[.agg #[.int .i64 L, .int .i64 S], .int .i64 r, .int .i64 b, .int .i64 n] w (Reads w (.tuple #[.int .i64 x, .int .i64 y])) := by
  have := A.next_ (w := w) hL hS hr hb hn; rw [h] at this; exact this
/-- A bucket's own block. -/
theorem buck_new (w : World) (L S : Int) : (w.alloc (.cells #[.int .i64 L, .int .i64 S] 24)).cell? ⟨w.heap.size, 0, none⟩ = some (.int .i64 L) ∧ (w.alloc (.cells #[.int .i64 L, .int .i64 S] 24)).cell? ⟨w.heap.size, 1, none⟩ = some (.int .i64 S) :=
  ⟨by rw [Lib.cell_of_heap (MapKept.heap_alloc _ _).1]; rfl, by rw [Lib.cell_of_heap (MapKept.heap_alloc _ _).1]; rfl⟩
theorem i64_of_small {x : Int} (h : -1000000000000000000 ≤ x ∧ x ≤ 1000000000000000000) : I64 x := by unfold I64; omega
end
end Go.Proofs.Ytmlogoaicjdjiaa
