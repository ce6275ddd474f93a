/- The reference of layer 5 in memory, step by step. -/
import Derived.Test.YtkicdfoncopklaaVSmall
namespace Go.Proofs.Ytkicdfoncopklaa
open Go.RowKit Go.Maps Go.ChangeMaps Go.MapKept
open Vp

def boolVs (l : List Bool) : List Value := l.map .bool
theorem boolVs_length (l : List Bool) : (boolVs l).length = l.length := by simp [boolVs]
theorem bool_info : (Try.prog.info? 4).map (fun i => (i.zero, i.size, i.bytes)) = some (some (.bool false), 1, 1) := by kernel_rfl
theorem run_push_bool (v : Value) (xs : List Bool) (z : Bool) (w : World) (q : Nat) (hown : w.ownsRow 0 4 1 v xs.length (boolVs xs)) (hq : w.cell? ⟨q, 0, none⟩ = some (Value.bool z)) (hn : xs.length ≤ 100000) :
    ∃ v' w', (Builtin.append_ #[37, 37] 37 #[v, .slice (some ⟨q, 0, none⟩) 1 1]).run Try.prog w = .ok v' w' ∧ w'.ownsRow 0 4 1 v' (xs ++ [z]).length (boolVs (xs ++ [z])) ∧ w.grownBy w' v.ownBlock ∧ (v'.ownBlock = v.ownBlock ∨ v'.ownBlock = some w.heap.size) ∧ ∃ a c, v' = .slice a (xs.length + 1) c := by
  obtain ⟨i0, hi, hz0, hz1, hz2⟩ := info_parts bool_info
  obtain ⟨v', w', h1, h2, h3, _, h5⟩ := run_append_own_at (P := Try.prog) w 0 37 37 4 i0 (.bool false) 1 1 Try.underlying37 hi hz0 hz1 hz2 rfl (by decide) v xs.length _ hown ⟨q, 0, none⟩ 1 1 [Value.bool z] rfl (fun j u hj => by
    match j, hj with
    | 0, hj => simp at hj; subst hj; rw [Lib.add_plain]; exact hq) (fun u hu => by simp at hu; subst hu; rfl) (by unfold maxLen; omega) (by omega) (Nat.zero_le _)
  have h2' : w'.ownsRow 0 4 1 v' (xs ++ [z]).length (boolVs (xs ++ [z])) := by simpa [boolVs] using h2
  obtain ⟨a, c, hv⟩ := own_form h2'
  exact ⟨v', w', h1, h2', h3, h5, a, c, by rw [hv]; simp⟩
theorem run_push_int (v : Value) (xs : List Int) (z : Int) (w : World) (q : Nat) (hown : w.ownsRow 0 3 1 v xs.length (intVs xs)) (hq : w.cell? ⟨q, 0, none⟩ = some (Value.int .i64 z)) (hn : xs.length ≤ 100000) :
    ∃ v' w', (Builtin.append_ #[38, 38] 38 #[v, .slice (some ⟨q, 0, none⟩) 1 1]).run Try.prog w = .ok v' w' ∧ w'.ownsRow 0 3 1 v' (xs ++ [z]).length (intVs (xs ++ [z])) ∧ w.grownBy w' v.ownBlock ∧ (v'.ownBlock = v.ownBlock ∨ v'.ownBlock = some w.heap.size) ∧ ∃ a c, v' = .slice a (xs.length + 1) c := by
  obtain ⟨i0, hi, hz0, hz1, hz2⟩ := info_parts int_info
  obtain ⟨v', w', h1, h2, h3, _, h5⟩ := run_append_own_at (P := Try.prog) w 0 38 38 3 i0 (.int .i64 0) 1 8 Try.underlying38 hi hz0 hz1 hz2 rfl (by decide) v xs.length _ hown ⟨q, 0, none⟩ 1 1 [Value.int .i64 z] rfl (fun j u hj => by
    match j, hj with
    | 0, hj => simp at hj; subst hj; rw [Lib.add_plain]; exact hq) (fun u hu => by simp at hu; subst hu; rfl) (by unfold maxLen; omega) (by omega) (Nat.zero_le _)
  have h2' : w'.ownsRow 0 3 1 v' (xs ++ [z]).length (intVs (xs ++ [z])) := by simpa [intVs] using h2
  obtain ⟨a, c, hv⟩ := own_form h2'
  exact ⟨v', w', h1, h2', h3, h5, a, c, by rw [hv]; simp⟩

def Ris (b : Nat) (g o t : Value) (x : Nat) : Prop := x = b ∨ g.ownBlock = some x ∨ o.ownBlock = some x ∨ t.ownBlock = some x
/-- The reference's vault: three slices, each in a block of its own. -/
structure RM (w : World) (b : Nat) (g o t : Value) (gs : List Bool) (zs : List Int) (ts : List ByteArray) : Prop where
  blk : w.heap[b]? = some (.cells #[g, o, t] 41 (0, 0))
  grow : w.ownsRow 0 4 1 g gs.length (boolVs gs)
  orow : w.ownsRow 0 3 1 o zs.length (intVs zs)
  trow : w.ownsRow 0 9 1 t ts.length (strVs ts)
  bg : g.ownBlock ≠ some b
  bo : o.ownBlock ≠ some b
  bt : t.ownBlock ≠ some b
  go : ∀ x, g.ownBlock = some x → o.ownBlock ≠ some x
  gt : ∀ x, g.ownBlock = some x → t.ownBlock ≠ some x
  ot : ∀ x, o.ownBlock = some x → t.ownBlock ≠ some x
structure RMoved (w w' : World) (b : Nat) (g o t g' o' t' : Value) : Prop where
  os : w'.os = w.os
  tape : w'.tape = w.tape
  output : w'.output = w.output
  size : w.heap.size ≤ w'.heap.size
  block : ∀ x, x < w.heap.size → ¬ Ris b g o t x → w'.heap[x]? = w.heap[x]?
  its : ∀ x, Ris b g' o' t' x → Ris b g o t x ∨ w.heap.size ≤ x
section
variable {w0 w w' w1 w2 w3 : World} {os : List Ob} {i b : Nat} {V V' : Vt} {g o t g' o' t' g'' o'' t'' : Value} {gs gs' : List Bool} {zs zs' : List Int} {ts ts' : List ByteArray}
theorem RM.lt (h : RM w b g o t gs zs ts) (x : Nat) (hx : Ris b g o t x) : x < w.heap.size := by
  rcases hx with rfl | hx | hx | hx
  · exact lt_heap h.blk
  · exact (h.grow.lt x hx).2
  · exact (h.orow.lt x hx).2
  · exact (h.trow.lt x hx).2
theorem RM.kept (h : RM w b g o t gs zs ts) (hb : ∀ x, Ris b g o t x → w'.heap[x]? = w.heap[x]?) : RM w' b g o t gs zs ts :=
  ⟨(hb b (.inl rfl)).trans h.blk, ownsRow_block h.grow fun x hx => hb x (.inr (.inl hx)), ownsRow_block h.orow fun x hx => hb x (.inr (.inr (.inl hx))), ownsRow_block h.trow fun x hx => hb x (.inr (.inr (.inr hx))), h.bg, h.bo, h.bt, h.go, h.gt, h.ot⟩
theorem RM.fresh (h : RM w b g o t gs zs ts) (hb : Below w.heap.size w w') : RM w' b g o t gs zs ts := h.kept fun x hx => hb.block x (h.lt x hx)
theorem RMoved.fresh (hb : Below w.heap.size w w1) : RMoved w w1 b g o t g o t := ⟨hb.os, hb.tape, hb.output, hb.size, fun x hx _ => hb.block x hx, fun _ hx => .inl hx⟩
theorem RMoved.trans (h : RMoved w w1 b g o t g' o' t') (h' : RMoved w1 w2 b g' o' t' g'' o'' t'') : RMoved w w2 b g o t g'' o'' t'' := by
  refine ⟨h'.os.trans h.os, h'.tape.trans h.tape, h'.output.trans h.output, Nat.le_trans h.size h'.size, fun x hx hn => ?_, fun x hx => ?_⟩
  · have := h.size
    refine (h'.block x (by omega) fun q => ?_).trans (h.block x hx hn)
    rcases h.its x q with z | z
    · exact hn z
    · omega
  · rcases h'.its x hx with z | z
    · exact h.its x z
    · exact .inr (Nat.le_trans h.size z)
def keysOf (V : Vt) : List Int := V.boxes.map fun x => (x.1 : Int)
def textsOf (V : Vt) : List ByteArray := V.boxes.map (·.2)
theorem keysOf_length (V : Vt) : (keysOf V).length = V.boxes.length := by simp [keysOf]
theorem textsOf_length (V : Vt) : (textsOf V).length = V.boxes.length := by simp [textsOf]
def refK (b : Nat) (V : Vt) : Kind where
  Q w B := ∃ g o t, RM w b g o t V.good (keysOf V) (textsOf V) ∧ ∀ x, B x ↔ Ris b g o t x
  lt := fun ⟨_, _, _, h, hB⟩ x hx => h.lt x ((hB x).1 hx)
  kept := fun ⟨g, o, t, h, hB⟩ hb => ⟨g, o, t, h.kept fun x hx => hb x ((hB x).2 hx), hB⟩
/-- The reference's vault in block b. -/
def Ob.ref (b : Nat) (V : Vt) : Ob := .of (refK b V)
def RChanges (w0 w : World) (os : List Ob) (i b : Nat) (g o t : Value) : Prop := ∀ (w' : World) (V' : Vt) (g' o' t' : Value), RMoved w w' b g o t g' o' t' → RM w' b g' o' t' V'.good (keysOf V') (textsOf V') → OMem w0 w' (os.set i (.ref b V'))
theorem OMem.ref (h : OMem w0 w os) (hi : os[i]? = some (.ref b V)) : ∃ g o t, RM w b g o t V.good (keysOf V) (textsOf V) ∧ RChanges w0 w os i b g o t := by
  obtain ⟨B, ⟨g, o, t, hc, hB⟩, hch⟩ := h.change hi
  exact ⟨g, o, t, hc, fun w' V' g' o' t' hm hc' => hch hm.os hm.tape hm.output hm.size (fun x hx hn => hm.block x hx fun q => hn ((hB x).2 q)) (K' := refK b V') (B' := Ris b g' o' t') ⟨g', o', t', hc', fun _ => Iff.rfl⟩ fun x hx => (hm.its x hx).imp_left (hB x).2⟩
theorem OMem.refNew (h : OMem w0 w os) (hb : Below w.heap.size w w') (hc : RM w' b g o t V.good (keysOf V) (textsOf V)) (hn : ∀ x, Ris b g o t x → w.heap.size ≤ x) : OMem w0 w' (os ++ [.ref b V]) :=
  h.make hb (K := refK b V) (B := Ris b g o t) ⟨g, o, t, hc, fun _ => Iff.rfl⟩ hn
theorem RM.cell (h : RM w b g o t gs zs ts) : w.cell? ⟨b, 0, none⟩ = some g ∧ w.cell? ⟨b, 1, none⟩ = some o ∧ w.cell? ⟨b, 2, none⟩ = some t := by
  rw [Lib.cell_of_heap h.blk, Lib.cell_of_heap h.blk, Lib.cell_of_heap h.blk]; exact ⟨rfl, rfl, rfl⟩
/-- One of the slices grows. -/
theorem RM.push_g (h : RM w b g o t gs zs ts) (hb : Below w.heap.size w w2) (hg : w2.grownBy w3 g.ownBlock) (ho : w3.ownsRow 0 4 1 g' gs'.length (boolVs gs')) (hat : g'.ownBlock = g.ownBlock ∨ g'.ownBlock = some w2.heap.size) :
    RM (w3.setCell ⟨b, 0, none⟩ g') b g' o t gs' zs ts ∧ RMoved w (w3.setCell ⟨b, 0, none⟩ g') b g o t g' o t ∧ w3.cell? ⟨b, 0, none⟩ = some g ∧ w3.frozen? ⟨b, 0, none⟩ = false := by
  have hs := hb.size
  have hz : w.heap.size ≤ w3.heap.size := by have := hg.size; omega
  have hl := h.lt
  have lb : b < w.heap.size := hl b (.inl rfl)
  have lg : ∀ x, g.ownBlock = some x → x < w.heap.size := fun x e => hl x (.inr (.inl e))
  have lo : ∀ x, o.ownBlock = some x → x < w.heap.size := fun x e => hl x (.inr (.inr (.inl e)))
  have lt : ∀ x, t.ownBlock = some x → x < w.heap.size := fun x e => hl x (.inr (.inr (.inr e)))
  have hnew : g'.ownBlock = g.ownBlock ∨ ∀ x, g'.ownBlock = some x → w.heap.size ≤ x := hat.imp_right fun e x hx => by
    have := e.symm.trans hx; simp at this; omega
  have old : ∀ x, x < w.heap.size → g.ownBlock ≠ some x → w3.heap[x]? = w.heap[x]? := fun x hx h2 => by
    rw [hg.block x (by omega) (fun e => h2 e.symm), hb.block x hx]
  have hbb := (old b lb h.bg).trans h.blk
  have old' : ∀ x, x < w.heap.size → x ≠ b → g.ownBlock ≠ some x → (w3.setCell ⟨b, 0, none⟩ g').heap[x]? = w.heap[x]? := fun x hx h1 h2 => by
    rw [set_other h1]; exact old x hx h2
  have hs' : g'.ownBlock ≠ some b := fun e => by
    rcases hnew with q | q
    · exact h.bg (q.symm.trans e)
    · have := q b e; omega
  have far : ∀ (v : Value), (∀ x, v.ownBlock = some x → x < w.heap.size) → (∀ x, v.ownBlock = some x → g.ownBlock ≠ some x) → ∀ x, v.ownBlock = some x → g'.ownBlock ≠ some x := fun v h1 h2 x e z => by
    rcases hnew with q | q
    · exact h2 x e (q.symm.trans z)
    · have := q x z; have := h1 x e; omega
  refine ⟨?_, ⟨hg.os.trans hb.os, hg.tape.trans hb.tape, hg.output.trans hb.output, by rw [set_size]; exact hz, fun x hx hn => old' x hx (fun e => hn (.inl e)) (fun e => hn (.inr <| .inl e)), ?_⟩, by rw [Lib.cell_of_heap hbb]; rfl, Lib.frozen_of_heap hbb 0⟩
  · have hrow := ownsRow_block (w' := w3.setCell ⟨b, 0, none⟩ g') ho fun x hx => set_other (fun e => hs' (by rw [hx]; exact congrArg some e))
    exact ⟨set_heap hbb g', hrow, ownsRow_block h.orow fun x hx => old' x (lo x hx) (fun e => h.bo (e ▸ hx)) (fun z => h.go x z hx), ownsRow_block h.trow fun x hx => old' x (lt x hx) (fun e => h.bt (e ▸ hx)) (fun z => h.gt x z hx), hs', h.bo, h.bt, fun x e z => far o lo (fun x e z => h.go x z e) x z e, fun x e z => far t lt (fun x e z => h.gt x z e) x z e, h.ot⟩
  · rintro x (rfl | hx | hx | hx)
    · exact .inl (.inl rfl)
    · exact hnew.imp (fun e => .inr (.inl (e.symm.trans hx))) fun e => e x hx
    · exact .inl (.inr (.inr (.inl hx)))
    · exact .inl (.inr (.inr (.inr hx)))
/-- One of the slices grows. -/
theorem RM.push_o (h : RM w b g o t gs zs ts) (hb : Below w.heap.size w w2) (hg : w2.grownBy w3 o.ownBlock) (ho : w3.ownsRow 0 3 1 o' zs'.length (intVs zs')) (hat : o'.ownBlock = o.ownBlock ∨ o'.ownBlock = some w2.heap.size) :
    RM (w3.setCell ⟨b, 1, none⟩ o') b g o' t gs zs' ts ∧ RMoved w (w3.setCell ⟨b, 1, none⟩ o') b g o t g o' t ∧ w3.cell? ⟨b, 1, none⟩ = some o ∧ w3.frozen? ⟨b, 1, none⟩ = false := by
  have hs := hb.size
  have hz : w.heap.size ≤ w3.heap.size := by have := hg.size; omega
  have hl := h.lt
  have lb : b < w.heap.size := hl b (.inl rfl)
  have lg : ∀ x, g.ownBlock = some x → x < w.heap.size := fun x e => hl x (.inr (.inl e))
  have lo : ∀ x, o.ownBlock = some x → x < w.heap.size := fun x e => hl x (.inr (.inr (.inl e)))
  have lt : ∀ x, t.ownBlock = some x → x < w.heap.size := fun x e => hl x (.inr (.inr (.inr e)))
  have hnew : o'.ownBlock = o.ownBlock ∨ ∀ x, o'.ownBlock = some x → w.heap.size ≤ x := hat.imp_right fun e x hx => by
    have := e.symm.trans hx; simp at this; omega
  have old : ∀ x, x < w.heap.size → o.ownBlock ≠ some x → w3.heap[x]? = w.heap[x]? := fun x hx h2 => by
    rw [hg.block x (by omega) (fun e => h2 e.symm), hb.block x hx]
  have hbb := (old b lb h.bo).trans h.blk
  have old' : ∀ x, x < w.heap.size → x ≠ b → o.ownBlock ≠ some x → (w3.setCell ⟨b, 1, none⟩ o').heap[x]? = w.heap[x]? := fun x hx h1 h2 => by
    rw [set_other h1]; exact old x hx h2
  have hs' : o'.ownBlock ≠ some b := fun e => by
    rcases hnew with q | q
    · exact h.bo (q.symm.trans e)
    · have := q b e; omega
  have far : ∀ (v : Value), (∀ x, v.ownBlock = some x → x < w.heap.size) → (∀ x, v.ownBlock = some x → o.ownBlock ≠ some x) → ∀ x, v.ownBlock = some x → o'.ownBlock ≠ some x := fun v h1 h2 x e z => by
    rcases hnew with q | q
    · exact h2 x e (q.symm.trans z)
    · have := q x z; have := h1 x e; omega
  refine ⟨?_, ⟨hg.os.trans hb.os, hg.tape.trans hb.tape, hg.output.trans hb.output, by rw [set_size]; exact hz, fun x hx hn => old' x hx (fun e => hn (.inl e)) (fun e => hn (.inr <| .inr <| .inl e)), ?_⟩, by rw [Lib.cell_of_heap hbb]; rfl, Lib.frozen_of_heap hbb 1⟩
  · have hrow := ownsRow_block (w' := w3.setCell ⟨b, 1, none⟩ o') ho fun x hx => set_other (fun e => hs' (by rw [hx]; exact congrArg some e))
    exact ⟨set_heap hbb o', ownsRow_block h.grow fun x hx => old' x (lg x hx) (fun e => h.bg (e ▸ hx)) (h.go x hx), hrow, ownsRow_block h.trow fun x hx => old' x (lt x hx) (fun e => h.bt (e ▸ hx)) (fun z => h.ot x z hx), h.bg, hs', h.bt, far g lg h.go, h.gt, fun x e z => far t lt (fun x e z => h.ot x z e) x z e⟩
  · rintro x (rfl | hx | hx | hx)
    · exact .inl (.inl rfl)
    · exact .inl (.inr (.inl hx))
    · exact hnew.imp (fun e => .inr (.inr (.inl (e.symm.trans hx)))) fun e => e x hx
    · exact .inl (.inr (.inr (.inr hx)))
/-- One of the slices grows. -/
theorem RM.push_t (h : RM w b g o t gs zs ts) (hb : Below w.heap.size w w2) (hg : w2.grownBy w3 t.ownBlock) (ho : w3.ownsRow 0 9 1 t' ts'.length (strVs ts')) (hat : t'.ownBlock = t.ownBlock ∨ t'.ownBlock = some w2.heap.size) :
    RM (w3.setCell ⟨b, 2, none⟩ t') b g o t' gs zs ts' ∧ RMoved w (w3.setCell ⟨b, 2, none⟩ t') b g o t g o t' ∧ w3.cell? ⟨b, 2, none⟩ = some t ∧ w3.frozen? ⟨b, 2, none⟩ = false := by
  have hs := hb.size
  have hz : w.heap.size ≤ w3.heap.size := by have := hg.size; omega
  have hl := h.lt
  have lb : b < w.heap.size := hl b (.inl rfl)
  have lg : ∀ x, g.ownBlock = some x → x < w.heap.size := fun x e => hl x (.inr (.inl e))
  have lo : ∀ x, o.ownBlock = some x → x < w.heap.size := fun x e => hl x (.inr (.inr (.inl e)))
  have lt : ∀ x, t.ownBlock = some x → x < w.heap.size := fun x e => hl x (.inr (.inr (.inr e)))
  have hnew : t'.ownBlock = t.ownBlock ∨ ∀ x, t'.ownBlock = some x → w.heap.size ≤ x := hat.imp_right fun e x hx => by
    have := e.symm.trans hx; simp at this; omega
  have old : ∀ x, x < w.heap.size → t.ownBlock ≠ some x → w3.heap[x]? = w.heap[x]? := fun x hx h2 => by
    rw [hg.block x (by omega) (fun e => h2 e.symm), hb.block x hx]
  have hbb := (old b lb h.bt).trans h.blk
  have old' : ∀ x, x < w.heap.size → x ≠ b → t.ownBlock ≠ some x → (w3.setCell ⟨b, 2, none⟩ t').heap[x]? = w.heap[x]? := fun x hx h1 h2 => by
    rw [set_other h1]; exact old x hx h2
  have hs' : t'.ownBlock ≠ some b := fun e => by
    rcases hnew with q | q
    · exact h.bt (q.symm.trans e)
    · have := q b e; omega
  have far : ∀ (v : Value), (∀ x, v.ownBlock = some x → x < w.heap.size) → (∀ x, v.ownBlock = some x → t.ownBlock ≠ some x) → ∀ x, v.ownBlock = some x → t'.ownBlock ≠ some x := fun v h1 h2 x e z => by
    rcases hnew with q | q
    · exact h2 x e (q.symm.trans z)
    · have := q x z; have := h1 x e; omega
  refine ⟨?_, ⟨hg.os.trans hb.os, hg.tape.trans hb.tape, hg.output.trans hb.output, by rw [set_size]; exact hz, fun x hx hn => old' x hx (fun e => hn (.inl e)) (fun e => hn (.inr <| .inr <| .inr e)), ?_⟩, by rw [Lib.cell_of_heap hbb]; rfl, Lib.frozen_of_heap hbb 2⟩
  · have hrow := ownsRow_block (w' := w3.setCell ⟨b, 2, none⟩ t') ho fun x hx => set_other (fun e => hs' (by rw [hx]; exact congrArg some e))
    exact ⟨set_heap hbb t', ownsRow_block h.grow fun x hx => old' x (lg x hx) (fun e => h.bg (e ▸ hx)) (h.gt x hx), ownsRow_block h.orow fun x hx => old' x (lo x hx) (fun e => h.bo (e ▸ hx)) (h.ot x hx), hrow, h.bg, h.bo, hs', h.go, far g lg h.gt, far o lo h.ot⟩
  · rintro x (rfl | hx | hx | hx)
    · exact .inl (.inl rfl)
    · exact .inl (.inr (.inl hx))
    · exact .inl (.inr (.inr (.inl hx)))
    · exact hnew.imp (fun e => .inr (.inr (.inr (e.symm.trans hx)))) fun e => e x hx
/-- A key is destroyed. -/
theorem RM.wipe {x c k : Nat} (h : RM w b (.slice (some ⟨x, 0, none⟩) gs.length c) o t gs zs ts) : RM (w.setCell ⟨x, k, none⟩ (.bool false)) b (.slice (some ⟨x, 0, none⟩) (gs.set k false).length c) o t (gs.set k false) zs ts ∧
    RMoved w (w.setCell ⟨x, k, none⟩ (.bool false)) b (.slice (some ⟨x, 0, none⟩) gs.length c) o t (.slice (some ⟨x, 0, none⟩) gs.length c) o t := by
  have hx : (Value.slice (some ⟨x, 0, none⟩) gs.length c).ownBlock = some x := rfl
  have old : ∀ y, y ≠ x → (w.setCell ⟨x, k, none⟩ (.bool false)).heap[y]? = w.heap[y]? := fun y h1 => set_other h1
  rw [List.length_set]
  refine ⟨⟨(old b fun e => h.bg (by rw [hx, e])).trans h.blk, ?_, ownsRow_block h.orow fun y hy => old y fun e => h.go y (by rw [hx, e]) hy, ownsRow_block h.trow fun y hy => old y fun e => h.gt y (by rw [hx, e]) hy, h.bg, h.bo, h.bt, h.go, h.gt, h.ot⟩, ⟨rfl, rfl, rfl, by rw [set_size]; exact Nat.le_refl _, fun y _ hn => old y fun e => hn (.inr (.inl (by rw [hx, e]))), fun _ hy => .inl hy⟩⟩
  have := own_set h.grow k (.bool false)
  rw [List.length_set]
  have hm : boolVs (gs.set k false) = (boolVs gs).set k (.bool false) := by unfold boolVs; rw [List.map_set]
  rw [hm]; exact this
end
end Go.Proofs.Ytkicdfoncopklaa
