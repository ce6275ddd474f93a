/- The program's graph in memory: a map from ids to nodes, each with its parents' slice; what it reads. -/
import Derived.Test.YtihnnffhpgbgjaaPm
namespace Go.Proofs.Ytihnnffhpgbgjaa
open Go.RowKit Go.Maps Go.ChangeMaps Go.MapKept
open Gp
attribute [local go_sem ↓] Go.wp_at_zero Go.wp_at_succ

/-- Grown from w. -/
def Grw (w w' : World) : Prop := Below w.heap.size w w' ∧ w.drawn ≤ w'.drawn
theorem Grw.refl (w : World) : Grw w w := ⟨Below.refl _ _, Nat.le_refl _⟩
theorem Grw.trans {a b c : World} (h : Grw a b) (k : Grw b c) : Grw a c := ⟨h.1.trans (k.1.mono h.1.size), Nat.le_trans h.2 k.2⟩
theorem Grw.alloc {a b : World} (h : Grw a b) (o : Obj) : Grw a (b.alloc o) := ⟨h.1.alloc h.1.size _, h.2⟩
theorem Grw.drewN {a b : World} (h : Grw a b) (n : Nat) : Grw a (b.drewN n) := ⟨⟨h.1.os, h.1.tape, h.1.output, h.1.size, h.1.block⟩, by have := h.2; show a.drawn ≤ b.drawn + n; omega⟩
theorem Grw.drew {a b : World} (h : Grw a b) : Grw a b.drew := ⟨h.1.drew, Nat.le_trans h.2 (Nat.le_succ _)⟩

theorem cells_new (w : World) (cs : Array Value) (e : TypeId) (j : Nat) (v : Value) (hv : cs[j]? = some v) : (w.alloc (.cells cs e)).cell? ⟨w.heap.size, j, none⟩ = some v := by
  unfold World.cell?; rw [(MapKept.heap_alloc w _).1]; exact hv
theorem NumsAt.block {w w' : World} {v : Value} {l : List Int} (h : NumsAt w v l) (hb : ∀ x, v.ownBlock = some x → w'.heap[x]? = w.heap[x]?) : NumsAt w' v l := by
  obtain ⟨a, cap, rfl, hl, hc⟩ := h
  refine ⟨a, cap, rfl, hl, fun k z hk => ?_⟩
  obtain ⟨b, off, rfl, c0⟩ := hc k z hk
  exact ⟨b, off, rfl, (World.cell?_of_block (hb b rfl)).trans c0⟩
theorem field_par (a : Option Addr) (n c : Nat) (l : Int) (w : World) : (Instr.field 57 (.agg #[.slice a n c, .int .i64 l]) 0).run Try.prog w = .ok (.slice a n c) w := by kernel_rfl
noncomputable def gm (G : List Nd) (pv : Int → Value) (x : Int) : Option Value := open Classical in if x ∈ ids G then some (.agg #[pv x, .int .i64 (lev G x)]) else none
/-- A graph's blocks: the struct, the map, the parents' slices. -/
structure GIn (w : World) (b mb : Nat) (G : List Nd) (pv : Int → Value) (S : Nat → Prop) : Prop where
  ok : Ok G
  cell : w.heap[b]? = some (.cells #[.map (some mb)] 54 (0, 0))
  map : IMap w mb G.length (gm G pv)
  rows : ∀ n ∈ G, NumsAt w (pv n.1) n.2 ∧ ∀ x, (pv n.1).ownBlock = some x → S x
  ne : b ≠ mb
  sep : ∀ x, S x → x < w.heap.size ∧ x ≠ b ∧ x ≠ mb
section
variable {w w' : World} {b mb : Nat} {G : List Nd} {pv : Int → Value} {S : Nat → Prop}
theorem GIn.kept (h : GIn w b mb G pv S) (hb : ∀ x, (x = b ∨ x = mb) ∨ S x → w'.heap[x]? = w.heap[x]?) : GIn w' b mb G pv S where
  ok := h.ok
  cell := (hb b (.inl (.inl rfl))).trans h.cell
  map := h.map.block (hb mb (.inl (.inr rfl)))
  rows n hn := ⟨(h.rows n hn).1.block fun x hx => hb x (.inr ((h.rows n hn).2 x hx)), (h.rows n hn).2⟩
  ne := h.ne
  sep x hx := by
    have h1 := h.sep x hx
    have h2 := hb x (.inr hx)
    rw [Array.getElem?_eq_getElem h1.1] at h2
    exact ⟨(Array.getElem?_eq_some_iff.1 h2).1, h1.2⟩
theorem GIn.lt (h : GIn w b mb G pv S) (x : Nat) (hx : (x = b ∨ x = mb) ∨ S x) : x < w.heap.size := by
  rcases hx with (rfl | rfl) | hx
  · exact lt_heap h.cell
  · exact h.map.lt
  · exact (h.sep x hx).1
theorem GIn.keep (h : GIn w b mb G pv S) (hb : Below w.heap.size w w') : GIn w' b mb G pv S := h.kept fun x hx => hb.block x (h.lt x hx)
/-- What is found at a number. -/
theorem GIn.look (h : GIn w b mb G pv S) (x : Int) : ∃ a c l, ((Instr.lookup 52 (.map (some mb)) (.int .i64 x) true).run Try.prog w = .ok (.tuple #[.agg #[.slice a (par G x).length c, .int .i64 l], .bool ((ids G).contains x)]) w ∧
    (Instr.lookup 52 (.map (some mb)) (.int .i64 x) false).run Try.prog w = .ok (.agg #[.slice a (par G x).length c, .int .i64 l]) w) ∧ NumsAt w (.slice a (par G x).length c) (par G x) ∧ (x ∈ ids G → l = lev G x) := by
  have hl := h.map.look_ok (t := 52) (e := 57) Try.underlying52 (Try.zeroValue57 w) x
  by_cases hx : x ∈ ids G
  · obtain ⟨n, hn, rfl⟩ := mem_ids.1 hx
    obtain ⟨a, c, hv, hlc, hc⟩ := (h.rows n hn).1
    rw [par_of h.ok.asc hn]
    refine ⟨a, c, lev G n.1, ?_, ⟨a, c, rfl, hlc, hc⟩, fun _ => rfl⟩
    have e : gm G pv n.1 = some (.agg #[.slice a n.2.length c, .int .i64 (lev G n.1)]) := by unfold gm; rw [if_pos hx, hv]
    rw [e] at hl
    rw [show (ids G).contains n.1 = true by simpa using hx]
    exact hl
  · rw [par_no hx]
    have e : gm G pv x = none := by unfold gm; rw [if_neg hx]
    rw [e] at hl
    rw [show (ids G).contains x = false by simpa using hx]
    exact ⟨none, 0, 0, hl, NumsAt.nil w, fun q => absurd q hx⟩
/-- .. in every world in which the graph lies so. -/
theorem GIn.look_all (h : GIn w b mb G pv S) (x : Int) : ∃ a c l, (∀ w', GIn w' b mb G pv S → (Instr.lookup 52 (.map (some mb)) (.int .i64 x) true).run Try.prog w' = .ok (.tuple #[.agg #[.slice a (par G x).length c, .int .i64 l], .bool ((ids G).contains x)]) w' ∧
    (Instr.lookup 52 (.map (some mb)) (.int .i64 x) false).run Try.prog w' = .ok (.agg #[.slice a (par G x).length c, .int .i64 l]) w') ∧ NumsAt w (.slice a (par G x).length c) (par G x) ∧ (x ∈ ids G → l = lev G x) ∧ (∀ y, (Value.slice a (par G x).length c).ownBlock = some y → S y) := by
  by_cases hx : x ∈ ids G
  · obtain ⟨n, hn, rfl⟩ := mem_ids.1 hx
    obtain ⟨⟨a, c, hv, hlc, hc⟩, hS⟩ := h.rows n hn
    rw [par_of h.ok.asc hn]
    refine ⟨a, c, lev G n.1, fun w' h' => ?_, ⟨a, c, rfl, hlc, hc⟩, fun _ => rfl, by rw [← hv]; exact hS⟩
    have hl := h'.map.look_ok (t := 52) (e := 57) Try.underlying52 (Try.zeroValue57 w') n.1
    have e : gm G pv n.1 = some (.agg #[.slice a n.2.length c, .int .i64 (lev G n.1)]) := by unfold gm; rw [if_pos hx, hv]
    rw [e] at hl
    rw [show (ids G).contains n.1 = true by simpa using hx]
    exact hl
  · rw [par_no hx]
    refine ⟨none, 0, 0, fun w' h' => ?_, NumsAt.nil w, fun q => absurd q hx, fun y hy => by cases hy⟩
    have hl := h'.map.look_ok (t := 52) (e := 57) Try.underlying52 (Try.zeroValue57 w') x
    have e : gm G pv x = none := by unfold gm; rw [if_neg hx]
    rw [e] at hl
    rw [show (ids G).contains x = false by simpa using hx]
    exact hl
theorem GIn.c0 (h : GIn w b mb G pv S) : w.cell? ⟨b, 0, none⟩ = some (.map (some mb)) := by simp [World.cell?, h.cell]
set_option maxHeartbeats 1000000 in
theorem len_in (h : GIn w b mb G pv S) : Calls Try.prog 10 #[.pointer (some ⟨b, 0, none⟩)] w fun e w' => e = .returned (.int .i64 (G.length : Int)) ∧ w' = w := by
  have c0 := h.c0
  have hl := h.map.len Try.underlying52
  clear h
  go_enter Try.func10, Try.ntmps10
  go_wp2
  go_ret
  exact ⟨rfl, rfl⟩
set_option maxHeartbeats 1000000 in
theorem has_in (h : GIn w b mb G pv S) (x : Int) : Calls Try.prog 11 #[.pointer (some ⟨b, 0, none⟩), .int .i64 x] w fun e w' => e = .returned (.bool ((ids G).contains x)) ∧ Grw w w' := by
  have c0 := h.c0
  obtain ⟨a, c, l, ⟨h1, _⟩, _, _⟩ := h.look x
  clear h
  generalize (ids G).contains x = r at h1 ⊢
  go_enter Try.func11, Try.ntmps11
  go_wp2
  go_ret
  exact ⟨rfl, (Grw.refl w).alloc _⟩
set_option maxHeartbeats 1000000 in
theorem level_in (h : GIn w b mb G pv S) (x : Int) : Calls Try.prog 13 #[.pointer (some ⟨b, 0, none⟩), .int .i64 x] w fun e w' => e = .returned (.int .i64 (lev G x)) ∧ Grw w w' := by
  have c0 := h.c0
  obtain ⟨a, c, l, ⟨h1, _⟩, _, hl⟩ := h.look x
  by_cases hx : x ∈ ids G
  · obtain rfl := hl hx
    rw [show (ids G).contains x = true by simpa using hx] at h1
    clear h hl
    go_enter Try.func13, Try.ntmps13
    go_wp2
    go_ret
    exact ⟨rfl, (Grw.refl w).alloc _⟩
  · rw [show (ids G).contains x = false by simpa using hx] at h1
    have hn : lev G x = -1 := lev_no hx
    rw [hn]
    clear h hl hn
    go_enter Try.func13, Try.ntmps13
    go_wp2
    go_ret
    exact ⟨rfl, (Grw.refl w).alloc _⟩
end
end Go.Proofs.Ytihnnffhpgbgjaa
