/- Copy. -/
import Derived.Test.YtjbcgahdiolhhaaDoorDCopyE
import Derived.Deep.RegionHeld3
namespace Go.Proofs.YtjbcgahdiolhhaaDoor.D2
open Go.RowKit Go.Maps Go.ChangeMaps Go.MapKept
open Dp
attribute [local go_sem ↓] Go.wp_at_zero Go.wp_at_succ

section
variable {w : World} {lab : Nat → Nat} {id b : Nat} {D : Dk} {L : Loc}

theorem below_cell {w w' : World} {a : Addr} {v : Value} (h : w.cell? a = some v) (hb : Below w.heap.size w w') : w'.cell? a = some v := by
  rw [hb.cell (Lib.lt_of_cell h)]; exact h
theorem below_drew (w : World) : Below w.heap.size w w.drew := (Below.refl _ _).drew
theorem src_below {w w' : World} {base : Nat} {e : TypeId} {size n : Nat} {v : Value} {xs : List Value} (h : w.ownsRow base e size v n xs) (hb : Below w.heap.size w w') (h1 : ∀ u ∈ xs, u.oneCell' = true) : SrcIs w' size v n xs :=
  SrcIs.of_own (ownsRow_block h fun k hk => hb.block k (h.lt k hk).2) h1

theorem three_below {w w' : World} {a b c : Addr} {u v x : Value} (h : w.cell? a = some u ∧ w.cell? b = some v ∧ w.cell? c = some x) (hb : Below w.heap.size w w') : w'.cell? a = some u ∧ w'.cell? b = some v ∧ w'.cell? c = some x :=
  ⟨below_cell h.1 hb, below_cell h.2.1 hb, below_cell h.2.2 hb⟩
theorem undrew {w w' : World} (h : Below w.drew.heap.size w.drew w') : Below w.heap.size w w' := ⟨h.os, h.tape, h.output, h.size, h.block⟩
theorem copy_three {w1 w5 : World} {B g : Nat} {u v x : Value} (h : w1.cell? ⟨B, 0, none⟩ = some u ∧ w1.cell? ⟨g, 0, none⟩ = some v ∧ w1.cell? ⟨g, 1, none⟩ = some x) (h5 : ∀ y, y < w1.heap.size → y ≠ B + 1 → w5.heap[y]? = w1.heap[y]?) (_ : B ≤ w1.heap.size) (hg : g < B) :
    w5.cell? ⟨B, 0, none⟩ = some u ∧ w5.cell? ⟨g, 0, none⟩ = some v ∧ w5.cell? ⟨g, 1, none⟩ = some x := by
  have q := fun (y : Nat) (hy : y < w1.heap.size) (hne : y ≠ B + 1) (i : Nat) => World.cell?_of_block (w := w1) (w' := w5) (a := ⟨y, i, none⟩) (h5 y hy hne)
  refine ⟨?_, ?_, ?_⟩
  · rw [q B (Lib.lt_of_cell h.1) (by omega)]; exact h.1
  · rw [q g (Lib.lt_of_cell h.2.1) (by omega)]; exact h.2.1
  · rw [q g (Lib.lt_of_cell h.2.1) (by omega)]; exact h.2.2
def startLab (lab : Nat → Nat) (id' B x : Nat) : Nat := if x < B then lab x else if x = B then id' else if x = B + 1 then id' + 1 else 0
theorem copy_start {w w0 : World} {lab : Nat → Nat} {id b id' : Nat} {D : Dk} {L : Loc} (h : DiskIn w lab id b D D.pend L) (h64 : 64 ≤ id') (cs : Array Value) (hcs : cs = #[.map (some (w.heap.size + 1)), L.pv, .map (some L.mm), .bool D.down, .int .i64 (D.lost : Int), .int .i64 (D.calls : Int), L.kv])
    (g0 : ((w.alloc (.cells cs 64)).alloc (.map #[] 0)).grownBy w0 none) (hs0 : w0.heap.size = w.heap.size + 3)
    (rg : RangeIs Tryd.prog w0 3 L.fm (w.heap.size + 2) L.fc (fileMap L.g) (fun kl => (fileMap L.g kl).isSome) L.fc) : CopyInv w lab id' D L (fun kl => (fileMap L.g kl).isSome) L.fc w0 := by
  subst hcs
  have q1 := below_alloc w (.cells #[.map (some (w.heap.size + 1)), L.pv, .map (some L.mm), .bool D.down, .int .i64 (D.lost : Int), .int .i64 (D.calls : Int), L.kv] 64)
  have q2 := below_alloc (w.alloc (.cells #[.map (some (w.heap.size + 1)), L.pv, .map (some L.mm), .bool D.down, .int .i64 (D.lost : Int), .int .i64 (D.calls : Int), L.kv] 64)) (.map #[] 0)
  have hB : ∀ x, x < w.heap.size + 2 → w0.heap[x]? = ((w.alloc (.cells #[.map (some (w.heap.size + 1)), L.pv, .map (some L.mm), .bool D.down, .int .i64 (D.lost : Int), .int .i64 (D.calls : Int), L.kv] 64)).alloc (.map #[] 0)).heap[x]? := fun x hx => g0.block x (by simp; omega) (by simp)
  refine ⟨startLab lab id' w.heap.size, L.g, L.nv, L.dv, 0, ⟨fun x hx => ?_, fun x hx => ?_, fun x hx => ?_, ?_, by omega, ?_, ?_, ?_, ?_, ?_, by have := h.fcl; omega, rg, fun _ h => h, fun f hf hl => ?_⟩⟩
  · unfold startLab; (repeat' split) <;> omega
  · unfold startLab; rw [if_pos hx]
  · unfold startLab; (repeat' split) <;> omega
  · exact ⟨g0.os, g0.tape, g0.output, by omega, fun x hx => (hB x (by omega)).trans ((q2.block x (by simp; omega)).trans (q1.block x hx))⟩
  · unfold startLab; (repeat' split) <;> omega
  · unfold startLab; (repeat' split) <;> omega
  · unfold startLab; (repeat' split) <;> omega
  · rw [hB _ (by omega), q2.block _ (by simp)]
    exact (MapKept.heap_alloc w _).1
  · have hm := mapIs_made (P := Tryd.prog) (k := 3) (w.alloc (.cells #[.map (some (w.heap.size + 1)), L.pv, .map (some L.mm), .bool D.down, .int .i64 (D.lost : Int), .int .i64 (D.calls : Int), L.kv] 64))
    simp only [World.size_alloc] at hm
    refine (hm.block (hB _ (by omega))).congr (fun kl => ?_) rfl
    unfold copyMap
    split
    · rfl
    · rename_i hk
      simpa using hk
  · have : (fileMap L.g (.int .i64 (f : Int))).isSome = true := by
      show (if 0 ≤ (f : Int) ∧ (f : Int) < 16 then some (Value.pointer (some ⟨L.g (f : Int).toNat, 0, none⟩)) else none).isSome = true
      rw [if_pos (by omega)]; rfl
    rw [this] at hl; cases hl

end
end Go.Proofs.YtjbcgahdiolhhaaDoor.D2
