/- The reference's graph as an object: the struct, its row of nodes, the parents' slices. -/
import Derived.Test.YtihnnffhpgbgjaaRdown
import Derived.Test.YtihnnffhpgbgjaaPapi
namespace Go.Proofs.Ytihnnffhpgbgjaa
open Go.RowKit Go.Maps Go.ChangeMaps Go.MapKept
open Gp

/-- The struct's block; the row of nodes with their parents' slices; the blocks that nothing writes again. -/
structure RIn (w : World) (r : Nat) (G : List Nd) (v : Value) (T : List (Nd × Value)) (S : Nat → Prop) : Prop where
  ok : Ok G
  is : T.map (·.1) = G
  cell : w.heap[r]? = some (.cells #[v] 30 (0, 0))
  row : w.ownsRow 0 32 2 v T.length (ndVs T)
  own : ∀ z, v.ownBlock = some z → S z
  rows : ∀ x ∈ T, NumsAt w x.2 x.1.2 ∧ ∀ z, x.2.ownBlock = some z → S z
  sep : ∀ z, S z → z < w.heap.size ∧ z ≠ r
section
variable {w w' : World} {r : Nat} {G : List Nd} {v : Value} {T : List (Nd × Value)} {S : Nat → Prop}
theorem RIn.kept (h : RIn w r G v T S) (hb : ∀ z, z = r ∨ S z → w'.heap[z]? = w.heap[z]?) : RIn w' r G v T S where
  ok := h.ok
  is := h.is
  cell := (hb r (.inl rfl)).trans h.cell
  row := ownsRow_block h.row fun z hz => hb z (.inr (h.own z hz))
  own := h.own
  rows x hx := ⟨(h.rows x hx).1.block fun z hz => hb z (.inr ((h.rows x hx).2 z hz)), (h.rows x hx).2⟩
  sep z hz := by
    have h1 := h.sep z hz
    have h2 := hb z (.inr hz)
    rw [Array.getElem?_eq_getElem h1.1] at h2
    exact ⟨(Array.getElem?_eq_some_iff.1 h2).1, h1.2⟩
theorem RIn.lt (h : RIn w r G v T S) (z : Nat) (hz : z = r ∨ S z) : z < w.heap.size := by
  rcases hz with rfl | hz
  · exact lt_heap h.cell
  · exact (h.sep z hz).1
theorem RIn.keep (h : RIn w r G v T S) (hb : Below w.heap.size w w') : RIn w' r G v T S := h.kept fun z hz => hb.block z (h.lt z hz)
theorem RIn.c0 (h : RIn w r G v T S) : w.cell? ⟨r, 0, none⟩ = some v := by simp [World.cell?, h.cell]
theorem RIn.len (h : RIn w r G v T S) : T.length = G.length := by rw [← h.is, List.length_map]
theorem RIn.nodes (h : RIn w r G v T S) : NodesAt w v G := by
  have := NodesAt.of_own h.row fun x hx => (h.rows x hx).1
  rwa [h.is] at this
theorem RIn.rat (h : RIn w r G v T S) : RAt w r G := ⟨h.ok, v, h.c0, h.nodes⟩
theorem RIn.slice (h : RIn w r G v T S) : ∃ a c, v = .slice a T.length c := own_form h.row
theorem RIn.at_ (h : RIn w r G v T S) {k : Nat} {x : Nd × Value} (hk : T[k]? = some x) : ∃ b off cap pa pc, v = .slice (some ⟨b, off, none⟩) T.length cap ∧ T.length ≤ cap ∧ x.2 = .slice pa x.1.2.length pc ∧
    w.cell? ⟨b, off + k * 2, none⟩ = some (.int .i64 x.1.1) ∧ w.cell? ⟨b, off + k * 2 + 1, none⟩ = some (.slice pa x.1.2.length pc) ∧ NumsAt w (.slice pa x.1.2.length pc) x.1.2 := by
  have hr := h.row
  obtain ⟨pa, pc, hx2⟩ := (h.rows x (List.mem_of_getElem? hk)).1.slice
  rcases hr.2 with ⟨_, h0⟩ | ⟨g, cap, cur, hv, _, _, hcap, _⟩
  · have := (List.getElem?_eq_some_iff.1 hk).1; omega
  · subst hv
    refine ⟨g, 0, cap, pa, pc, rfl, hcap, hx2, ?_, ?_, hx2 ▸ (h.rows x (List.mem_of_getElem? hk)).1⟩
    · have h0 := hr.cells rfl _ _ (nd_at hk).1
      rwa [Lib.add_plain] at h0
    · have h0 := hr.cells rfl _ _ (nd_at hk).2
      rwa [Lib.add_plain, hx2] at h0
theorem RIn.nd (h : RIn w r G v T S) {k : Nat} {x : Nd × Value} (hk : T[k]? = some x) : G[k]? = some x.1 := by rw [← h.is, List.getElem?_map, hk]; rfl
theorem RIn.nth (h : RIn w r G v T S) {k : Nat} {n : Nd} (hk : G[k]? = some n) : ∃ u, T[k]? = some (n, u) := by
  rw [← h.is, List.getElem?_map] at hk
  cases hx : T[k]? with
  | none => rw [hx] at hk; cases hk
  | some x => rw [hx] at hk; cases hk; exact ⟨x.2, rfl⟩
end
theorem OMem.rowNew {w0 w : World} {os : List Ob} {i n size : Nat} {e : TypeId} {v : Value} {xs : List Value} (h : OMem w0 w os) (hi : os[i]? = some (.row e size v n xs)) : ∀ x, v.ownBlock = some x → w0.heap.size ≤ x := by
  intro x hx
  obtain ⟨lab, h⟩ := h
  obtain ⟨B, S, hq, hl, hs0⟩ := h.at_ i _ hi
  have h1 := hl x ((hq.2.1 x).2 hx)
  rcases Nat.lt_or_ge x w0.heap.size with q | q
  · have := h.und.labs x q; omega
  · exact q
/-- A row that was just made, in whatever new block. -/
theorem OMem.rowNewAt {w0 w w' : World} {os : List Ob} {e : TypeId} {size n : Nat} {v : Value} {xs : List Value} (h : OMem w0 w os) (hb : Below w.heap.size w w') (ho : w'.ownsRow 0 e size v n xs) (hn : ∀ x, v.ownBlock = some x → w.heap.size ≤ x) : OMem w0 w' (os ++ [.row e size v n xs]) :=
  h.make hb (K := rowK e size v n xs) (B := fun x => v.ownBlock = some x) (S := fun _ => False) ⟨ho, fun _ => Iff.rfl, fun _ => id⟩ hn fun _ h => h.elim

/-! ### One node more, where it belongs -/
theorem ins_all {n : Nd} : ∀ {A B : List Nd}, (∀ m ∈ A, m.1 < n.1) → Gp.ins n (A ++ B) = A ++ Gp.ins n B
  | [], _, _ => rfl
  | m :: A, B, h => by
    have h1 := h m List.mem_cons_self
    show (if n.1 < m.1 then n :: m :: (A ++ B) else m :: Gp.ins n (A ++ B)) = m :: (A ++ Gp.ins n B)
    rw [if_neg (by omega), ins_all fun x hx => h x (List.mem_cons_of_mem _ hx)]
theorem ins_end {n : Nd} {A : List Nd} (h : ∀ m ∈ A, m.1 < n.1) : Gp.ins n A = A ++ [n] := by
  have := ins_all (B := []) h
  rwa [List.append_nil] at this
theorem ins_here {n m : Nd} {A B : List Nd} (h : ∀ m ∈ A, m.1 < n.1) (hm : n.1 < m.1) : Gp.ins n (A ++ m :: B) = A ++ n :: m :: B := by
  rw [ins_all h]; unfold Gp.ins; rw [if_pos hm]
/-- What the loop has built: nothing put yet, or the node put in. -/
def Put (n : Nd) (xv : Value) (T : List (Nd × Value)) (k : Nat) (O : List (Nd × Value)) : Bool → Prop
  | false => O = T.take k ∧ ∀ x ∈ T.take k, x.1.1 < n.1
  | true => O.map (·.1) ++ (T.drop k).map (·.1) = Gp.ins n (T.map (·.1)) ∧ O.length = k + 1 ∧ ∀ y ∈ O, y = (n, xv) ∨ y ∈ T
section
variable {n : Nd} {xv : Value} {T O : List (Nd × Value)} {k : Nat} {x : Nd × Value}
theorem Put.len {b : Bool} (h : Put n xv T k O b) (hk : k ≤ T.length) : O.length ≤ k + 1 := by
  cases b with
  | false => rw [h.1, List.length_take]; omega
  | true => exact Nat.le_of_eq h.2.1
theorem take_snocT {α : Type} {l : List α} {k : Nat} {x : α} (h : l[k]? = some x) : l.take (k + 1) = l.take k ++ [x] := by rw [List.take_add_one, h]; rfl
theorem Put.less (h : Put n xv T k O false) (hx : T[k]? = some x) (hlt : x.1.1 < n.1) : Put n xv T (k + 1) (O ++ [x]) false := by
  refine ⟨by rw [h.1, take_snocT hx], fun y hy => ?_⟩
  rw [take_snocT hx] at hy
  rcases List.mem_append.1 hy with q | q
  · exact h.2 y q
  · simp at q; subst q; exact hlt
theorem Put.here (h : Put n xv T k O false) (hx : T[k]? = some x) (hgt : n.1 < x.1.1) : Put n xv T (k + 1) ((O ++ [(n, xv)]) ++ [x]) true := by
  have hd : T.drop k = x :: T.drop (k + 1) := by
    obtain ⟨hk, rfl⟩ := List.getElem?_eq_some_iff.1 hx
    exact List.drop_eq_getElem_cons hk
  have hT : T.map (·.1) = (T.take k).map (·.1) ++ x.1 :: (T.drop (k + 1)).map (·.1) := by
    conv => lhs; rw [← List.take_append_drop k T, hd]
    simp
  refine ⟨?_, ?_, fun y hy => ?_⟩
  · rw [hT, ins_here (fun m hm => ?_) hgt, h.1]
    · simp
    · obtain ⟨y, hy, rfl⟩ := List.mem_map.1 hm; exact h.2 y hy
  · have := (List.getElem?_eq_some_iff.1 hx).1
    simp [h.1, List.length_take]; omega
  · rcases List.mem_append.1 hy with q | q
    · rcases List.mem_append.1 q with q | q
      · rw [h.1] at q; exact .inr (List.mem_of_mem_take q)
      · simp at q; exact .inl q
    · simp at q; subst q; exact .inr (List.mem_of_getElem? hx)
theorem Put.more (h : Put n xv T k O true) (hx : T[k]? = some x) : Put n xv T (k + 1) (O ++ [x]) true := by
  have hd : T.drop k = x :: T.drop (k + 1) := by
    obtain ⟨hk, rfl⟩ := List.getElem?_eq_some_iff.1 hx
    exact List.drop_eq_getElem_cons hk
  have h1 := h.1
  rw [hd] at h1
  refine ⟨by rw [← h1]; simp, by rw [List.length_append, h.2.1]; rfl, fun y hy => ?_⟩
  rcases List.mem_append.1 hy with q | q
  · exact h.2.2 y q
  · simp at q; subst q; exact .inr (List.mem_of_getElem? hx)
theorem Put.done (h : Put n xv T T.length O true) : O.map (·.1) = Gp.ins n (T.map (·.1)) ∧ ∀ y ∈ O, y = (n, xv) ∨ y ∈ T := by
  have h1 := h.1
  rw [List.drop_length] at h1
  exact ⟨by simpa using h1, h.2.2⟩
theorem Put.last (h : Put n xv T T.length O false) : (O ++ [(n, xv)]).map (·.1) = Gp.ins n (T.map (·.1)) ∧ ∀ y ∈ O ++ [(n, xv)], y = (n, xv) ∨ y ∈ T := by
  have h1 := h.1
  rw [List.take_length] at h1
  subst h1
  have h2 := h.2
  rw [List.take_length] at h2
  have h3 : ∀ m ∈ O.map (·.1), m.1 < n.1 := fun m hm => by
    obtain ⟨y, hy, rfl⟩ := List.mem_map.1 hm; exact h2 y hy
  refine ⟨by rw [ins_end h3, List.map_append]; rfl, fun y hy => ?_⟩
  · rcases List.mem_append.1 hy with q | q
    · exact .inr q
    · simp at q; exact .inl q
end

/-! ### What a call may do to it -/
def TurnsR (w w' : World) (r : Nat) (G' : List Nd) (S : Nat → Prop) : Prop := w.grownBy w' (some r) ∧ ∃ v' T' S', RIn w' r G' v' T' S' ∧ ∀ z, S' z → S z ∨ w.heap.size ≤ z
section
variable {w w' : World} {r : Nat} {G G' : List Nd} {v v' : Value} {T T' : List (Nd × Value)} {S S' : Nat → Prop}
theorem RIn.stays (h : RIn w r G v T S) (hb : Below w.heap.size w w') : TurnsR w w' r G S := ⟨below_grown2 hb, v, T, S, h.keep hb, fun _ q => .inl q⟩
/-- The new row stored into the struct. -/
theorem RIn.turn {w1 : World} (h : RIn w r G v T S) (hb : Below w.heap.size w w1) (hn : r < w.heap.size) (ok : Ok G') (is : T'.map (·.1) = G') (ho : w1.ownsRow 0 32 2 v' T'.length (ndVs T')) (hv : ∀ z, v'.ownBlock = some z → w.heap.size ≤ z)
    (hr : ∀ x ∈ T', NumsAt w1 x.2 x.1.2 ∧ ∀ z, x.2.ownBlock = some z → (S z ∨ w.heap.size ≤ z) ∧ z < w1.heap.size) : TurnsR w (w1.setCell ⟨r, 0, none⟩ v') r G' S := by
  have hc := (h.keep hb).cell
  have hne : ∀ z, (S z ∨ w.heap.size ≤ z) → z ≠ r := fun z hz => by
    rcases hz with q | q
    · exact (h.sep z q).2
    · omega
  refine ⟨⟨hb.os, hb.tape, hb.output, by rw [set_size]; exact hb.size, fun k hk hkr => ?_⟩, v', T', fun z => (S z ∨ w.heap.size ≤ z) ∧ z < w1.heap.size, ⟨ok, is, ?_, ?_, fun z hz => ⟨.inr (hv z hz), (ho.lt z hz).2⟩, fun x hx => ⟨?_, (hr x hx).2⟩, fun z hz => ⟨by rw [set_size]; exact hz.2, hne z hz.1⟩⟩, fun z hz => hz.1⟩
  · rw [set_other fun e => hkr (by rw [e]), hb.block k hk]
  · have := set_heap hc (o := 0) v'
    simpa using this
  · exact ownsRow_block ho fun z hz => set_other (hne z (.inr (hv z hz)))
  · exact (hr x hx).1.block fun z hz => set_other (hne z ((hr x hx).2 z hz).1)
end
def refK (r : Nat) (G : List Nd) : Kind where
  Q w B S := ∃ v T, RIn w r G v T S ∧ ∀ x, B x ↔ x = r
  lt := fun ⟨_, _, h, hB⟩ x hx => h.lt x (hx.imp_left (hB x).1)
  kept := fun ⟨v, T, h, hB⟩ hk => ⟨v, T, h.kept fun x hx => hk x (hx.imp_left (hB x).2), hB⟩
section
variable {w0 w w' : World} {os : List Ob} {i r : Nat} {G : List Nd}
theorem OMem.rin (h : OMem w0 w os) (hi : os[i]? = some (.of (refK r G))) : ∃ v T S, RIn w r G v T S := by
  obtain ⟨B, S, v, T, hg, _⟩ := h.look hi
  exact ⟨v, T, S, hg⟩
theorem OMem.rat (h : OMem w0 w os) (hi : os[i]? = some (.of (refK r G))) : RAt w r G := by
  obtain ⟨v, T, S, hg⟩ := h.rin hi; exact hg.rat
theorem OMem.turnR {G' : List Nd} (h : OMem w0 w os) (hi : os[i]? = some (.of (refK r G))) : ∃ v T S, RIn w r G v T S ∧ ∀ {w'}, TurnsR w w' r G' S → OMem w0 w' (os.set i (.of (refK r G'))) := by
  obtain ⟨B, S, ⟨v, T, hg, hB⟩, hch⟩ := h.change hi
  refine ⟨v, T, S, hg, fun {w'} ⟨hgr, v', T', S', hg', hS'⟩ => ?_⟩
  refine hch hgr.os hgr.tape hgr.output hgr.size (fun x hx hn => hgr.block x hx (fun q => hn ((hB x).2 (Option.some.inj q)))) (K' := refK r G') (B' := B) (S' := S') ⟨v', T', hg', hB⟩ (fun x hx => .inl hx) fun x hx => ?_
  rcases hS' x hx with q | q
  · exact .inl q
  · refine .inr (.inr ⟨q, fun p => ?_⟩)
    have := hg.lt x (.inl ((hB x).1 p))
    omega
/-- A new, empty one. -/
theorem OMem.newR (h : OMem w0 w os) : OMem w0 (w.alloc (.cells #[.slice none 0 0] 30)) (os ++ [.of (refK w.heap.size [])]) :=
  h.make ((Below.refl _ _).alloc (Nat.le_refl _) _) (K := refK w.heap.size []) (B := (· = w.heap.size)) (S := fun _ => False)
    ⟨.slice none 0 0, [], ⟨ok_nil, rfl, (MapKept.heap_alloc w _).1, World.ownsRow_nil _ _ _ _, fun z hz => (by cases hz), fun x hx => (by cases hx), fun z hz => hz.elim⟩, fun _ => Iff.rfl⟩ (fun _ hx => Nat.le_of_eq hx.symm) fun _ h => h.elim
end
end Go.Proofs.Ytihnnffhpgbgjaa
