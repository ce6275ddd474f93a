/- A list of names, and the reference's, in memory. -/
import Derived.Test.YtjhedlkanphlhaaNSpec
import Derived.Test.YtjhedlkanphlhaaMaps
import Derived.Test.YtjhedlkanphlhaaShelf
import Derived.StringKeys
namespace Go.Proofs.Ytjhedlkanphlhaa
open Go.RowKit Go.Maps Go.ChangeMaps Go.MapKept
open Np

theorem lawT : Keyed Try.prog 9 := string_keyed Try.underlying9
theorem keyT {s : ByteArray} (h : s.size ≤ 65536) : keyOf Try.prog 9 (.string s) = some (.string s.data.toList) := Go.WideMaps.keyOf_string_mk Try.underlying9 (by unfold maxLen; omega)
theorem zeroI (w : World) : (zeroValue 3).run Try.prog w = .ok (.int .i64 0) w := by kernel_rfl
def idxMap (T : List ByteArray) : Lit → Option Value
  | .string l => if (⟨l.toArray⟩ : ByteArray) ∈ T then some (.int .i64 (pos T ⟨l.toArray⟩ : Int)) else none
  | _ => none
theorem idxMap_at (T : List ByteArray) (s : ByteArray) : idxMap T (.string s.data.toList) = if s ∈ T then some (.int .i64 (pos T s : Int)) else none := by
  have : (⟨s.data.toList.toArray⟩ : ByteArray) = s := Lib.mk_data s
  show (if (⟨s.data.toList.toArray⟩ : ByteArray) ∈ T then some (Value.int .i64 (pos T ⟨s.data.toList.toArray⟩ : Int)) else none) = _
  rw [this]
open Classical in
theorem idxMap_snoc {T : List ByteArray} {s : ByteArray} (h : s ∉ T) (x : Lit) : idxMap (T ++ [s]) x = if x = .string s.data.toList then some (.int .i64 (T.length : Int)) else idxMap T x := by
  cases x with
  | string l =>
    have hl : l = (⟨l.toArray⟩ : ByteArray).data.toList := rfl
    rw [hl, idxMap_at, idxMap_at]
    generalize (⟨l.toArray⟩ : ByteArray) = t
    by_cases ht : t = s
    · subst ht
      rw [if_pos rfl, if_pos (by simp), pos_snoc h]
    · rw [if_neg (show ¬ (Lit.string t.data.toList = Lit.string s.data.toList) from fun e => ht (by
        injection e with e
        rw [← Lib.mk_data t, ← Lib.mk_data s, e]))]
      by_cases hm : t ∈ T
      · rw [if_pos (by simp [hm]), if_pos hm, pos_app hm]
      · rw [if_neg (by simp [hm, ht]), if_neg hm]
  | _ => rw [if_neg (by simp)]; rfl

structure NmIn (w : World) (lab : Nat → Nat) (id b : Nat) (T : List ByteArray) (v : Value) (mb : Nat) : Prop where
  blk : w.heap[b]? = some (.cells #[v, .map (some mb)] 51 (0, 0))
  row : w.ownsRow 0 9 1 v T.length (strVs T)
  map : MapIs Try.prog w 9 mb T.length (idxMap T)
  lb : lab b = id
  lm : lab mb = id + 1
  lr : ∀ k, v.ownBlock = some k → lab k = id + 2
/-- A list of names in block b. -/
def Ob.names (b : Nat) (T : List ByteArray) : Ob where
  In w lab id := ∃ v mb, NmIn w lab id b T v mb
  kept := fun {w w' lab lab' id} ⟨v, mb, h⟩ lo hl hb => ⟨v, mb, by rw [hb b (lt_heap h.blk) (by rw [h.lb]; omega) (by rw [h.lb]; omega)]; exact h.blk,
    ownsRow_block h.row fun k hk => hb k (h.row.lt k hk).2 (by rw [h.lr k hk]; omega) (by rw [h.lr k hk]; omega),
    h.map.block (hb mb h.map.lt (by rw [h.lm]; omega) (by rw [h.lm]; omega)),
    (hl b (lt_heap h.blk)).trans h.lb, (hl mb h.map.lt).trans h.lm, fun k hk => (hl k (h.row.lt k hk).2).trans (h.lr k hk)⟩
structure RfIn (w : World) (lab : Nat → Nat) (id b : Nat) (T : List ByteArray) (v : Value) : Prop where
  blk : w.heap[b]? = some (.cells #[v] 48 (0, 0))
  row : w.ownsRow 0 9 1 v T.length (strVs T)
  lb : lab b = id
  lr : ∀ k, v.ownBlock = some k → lab k = id + 2
/-- The reference's list in block b. -/
def Ob.ref (b : Nat) (T : List ByteArray) : Ob where
  In w lab id := ∃ v, RfIn w lab id b T v
  kept := fun {w w' lab lab' id} ⟨v, h⟩ lo hl hb => ⟨v, by rw [hb b (lt_heap h.blk) (by rw [h.lb]; omega) (by rw [h.lb]; omega)]; exact h.blk,
    ownsRow_block h.row fun k hk => hb k (h.row.lt k hk).2 (by rw [h.lr k hk]; omega) (by rw [h.lr k hk]; omega),
    (hl b (lt_heap h.blk)).trans h.lb, fun k hk => (hl k (h.row.lt k hk).2).trans (h.lr k hk)⟩

/-- What a walk reads of a list. -/
structure NmC (w : World) (b : Nat) (T : List ByteArray) (v : Value) (mb : Nat) : Prop where
  blk : w.heap[b]? = some (.cells #[v, .map (some mb)] 51 (0, 0))
  row : w.ownsRow 0 9 1 v T.length (strVs T)
  map : MapIs Try.prog w 9 mb T.length (idxMap T)
  bm : b ≠ mb
  br : v.ownBlock ≠ some b
  mr : v.ownBlock ≠ some mb
structure RfC (w : World) (b : Nat) (T : List ByteArray) (v : Value) : Prop where
  blk : w.heap[b]? = some (.cells #[v] 48 (0, 0))
  row : w.ownsRow 0 9 1 v T.length (strVs T)
  br : v.ownBlock ≠ some b
section
variable {w0 w w1 w' : World} {lab : Nat → Nat} {os : List Ob} {i b mb : Nat} {T T' : List ByteArray} {v v' : Value}
theorem NmC.c0 (h : NmC w b T v mb) : w.cell? ⟨b, 0, none⟩ = some v := by rw [Lib.cell_of_heap h.blk]; rfl
theorem NmC.c1 (h : NmC w b T v mb) : w.cell? ⟨b, 1, none⟩ = some (.map (some mb)) := by rw [Lib.cell_of_heap h.blk]; rfl
theorem NmC.fz (h : NmC w b T v mb) (i : Nat) : w.frozen? ⟨b, i, none⟩ = false := Lib.frozen_of_heap h.blk i
theorem NmC.fresh (h : NmC w b T v mb) (hb : Below w.heap.size w w') : NmC w' b T v mb :=
  ⟨(hb.block b (lt_heap h.blk)).trans h.blk, ownsRow_block h.row fun k hk => hb.block k (h.row.lt k hk).2, h.map.block (hb.block mb h.map.lt), h.bm, h.br, h.mr⟩
theorem RfC.c0 (h : RfC w b T v) : w.cell? ⟨b, 0, none⟩ = some v := by rw [Lib.cell_of_heap h.blk]; rfl
theorem RfC.fz (h : RfC w b T v) (i : Nat) : w.frozen? ⟨b, i, none⟩ = false := Lib.frozen_of_heap h.blk i
theorem RfC.fresh (h : RfC w b T v) (hb : Below w.heap.size w w') : RfC w' b T v :=
  ⟨(hb.block b (lt_heap h.blk)).trans h.blk, ownsRow_block h.row fun k hk => hb.block k (h.row.lt k hk).2, h.br⟩
theorem OMem.names (h : OMem w0 w os) (hi : os[i]? = some (.names b T)) : ∃ v mb, NmC w b T v mb := by
  obtain ⟨lab, h⟩ := h
  obtain ⟨v, mb, g⟩ := h.at_ i _ hi
  exact ⟨v, mb, g.blk, g.row, g.map, fun e => by have := g.lb; have := g.lm; subst e; omega, fun e => by have := g.lb; have := g.lr b e; omega, fun e => by have := g.lm; have := g.lr mb e; omega⟩
theorem OMem.ref (h : OMem w0 w os) (hi : os[i]? = some (.ref b T)) : ∃ v, RfC w b T v := by
  obtain ⟨lab, h⟩ := h
  obtain ⟨v, g⟩ := h.at_ i _ hi
  exact ⟨v, g.blk, g.row, fun e => by have := g.lb; have := g.lr b e; omega⟩
/-- A list has changed in its blocks. -/
theorem OMem.named (h : OMem w0 w os) (hi : os[i]? = some (.names b T)) (hc : NmC w b T v mb) (hos : w'.os = w.os) (ht : w'.tape = w.tape) (ho : w'.output = w.output) (hs : w.heap.size ≤ w'.heap.size)
    (hb : ∀ x, x < w.heap.size → x ≠ b → x ≠ mb → v.ownBlock ≠ some x → w'.heap[x]? = w.heap[x]?) (blk : w'.heap[b]? = some (.cells #[v', .map (some mb)] 51 (0, 0)))
    (row : w'.ownsRow 0 9 1 v' T'.length (strVs T')) (map : MapIs Try.prog w' 9 mb T'.length (idxMap T')) (hloc : v'.ownBlock = v.ownBlock ∨ ∀ k, v'.ownBlock = some k → w.heap.size ≤ k) : OMem w0 w' (os.set i (.names b T')) := by
  obtain ⟨lab, h⟩ := h
  obtain ⟨u, mu, hv⟩ := h.at_ i _ hi
  have he := hv.blk.symm.trans hc.blk
  simp only [Option.some.injEq, Obj.cells.injEq, Array.mk.injEq, List.cons.injEq, Value.map.injEq, and_true] at he
  obtain ⟨rfl, rfl⟩ := he
  have hlt := lt_heap hv.blk
  have hml := hv.map.lt
  have lo : LabOk (relab lab w v' (64 * (i + 1) + 2)) w' := fun y hy => by
    unfold relab
    rw [if_neg (by omega), if_neg (fun q => by have := (row.lt y q).2; omega)]
  refine ⟨relab lab w v' (64 * (i + 1) + 2), h.set ⟨v', mu, blk, row, map, ?_, ?_, relab_own (fun k hk => (hv.row.lt k hk).2) hv.lr hloc⟩ lo ⟨hos, ht, ho, hs, fun x hx => by simp [relab, hx], fun x hx hl => hb x hx ?_ ?_ ?_, fun x hx => ?_⟩⟩
  · unfold relab; rw [if_pos hlt]; exact hv.lb
  · unfold relab; rw [if_pos hml]; exact hv.lm
  · rintro rfl; have := hv.lb; omega
  · rintro rfl; have := hv.lm; omega
  · intro e; have := hv.lr x e; omega
  · unfold relab
    rw [if_neg (by omega)]
    split
    · exact .inr ⟨by omega, by omega⟩
    · exact .inl rfl
theorem OMem.refd (h : OMem w0 w os) (hi : os[i]? = some (.ref b T)) (hc : RfC w b T v) (hos : w'.os = w.os) (ht : w'.tape = w.tape) (ho : w'.output = w.output) (hs : w.heap.size ≤ w'.heap.size)
    (hb : ∀ x, x < w.heap.size → x ≠ b → v.ownBlock ≠ some x → w'.heap[x]? = w.heap[x]?) (blk : w'.heap[b]? = some (.cells #[v'] 48 (0, 0)))
    (row : w'.ownsRow 0 9 1 v' T'.length (strVs T')) (hloc : v'.ownBlock = v.ownBlock ∨ ∀ k, v'.ownBlock = some k → w.heap.size ≤ k) : OMem w0 w' (os.set i (.ref b T')) := by
  obtain ⟨lab, h⟩ := h
  obtain ⟨u, hv⟩ := h.at_ i _ hi
  have he := hv.blk.symm.trans hc.blk
  simp only [Option.some.injEq, Obj.cells.injEq, Array.mk.injEq, List.cons.injEq, and_true] at he
  subst he
  have hlt := lt_heap hv.blk
  have lo : LabOk (relab lab w v' (64 * (i + 1) + 2)) w' := fun y hy => by
    unfold relab
    rw [if_neg (by omega), if_neg (fun q => by have := (row.lt y q).2; omega)]
  refine ⟨relab lab w v' (64 * (i + 1) + 2), h.set ⟨v', blk, row, ?_, relab_own (fun k hk => (hv.row.lt k hk).2) hv.lr hloc⟩ lo ⟨hos, ht, ho, hs, fun x hx => by simp [relab, hx], fun x hx hl => hb x hx ?_ ?_, fun x hx => ?_⟩⟩
  · unfold relab; rw [if_pos hlt]; exact hv.lb
  · rintro rfl; have := hv.lb; omega
  · intro e; have := hv.lr x e; omega
  · unfold relab
    rw [if_neg (by omega)]
    split
    · exact .inr ⟨by omega, by omega⟩
    · exact .inl rfl
/-- A list in new blocks. -/
theorem OMem.pushNames (h : OMem w0 w os) (hb : Below w.heap.size w w') (blk : w'.heap[b]? = some (.cells #[v, .map (some mb)] 51 (0, 0))) (row : w'.ownsRow 0 9 1 v T.length (strVs T)) (map : MapIs Try.prog w' 9 mb T.length (idxMap T))
    (nb : w.heap.size ≤ b) (nm : w.heap.size ≤ mb) (nr : ∀ k, v.ownBlock = some k → w.heap.size ≤ k) (bm : b ≠ mb) (br : v.ownBlock ≠ some b) (mr : v.ownBlock ≠ some mb) : OMem w0 w' (os ++ [.names b T]) := by
  obtain ⟨lab, h⟩ := h
  have hs := hb.size
  have hbl := lt_heap blk
  have hml := map.lt
  let id := 64 * (os.length + 1)
  let lab' : Nat → Nat := fun x => if x = b then id else if x = mb then id + 1 else if x < w.heap.size then lab x else if v.ownBlock = some x then id + 2 else 0
  have old : ∀ x, x < w.heap.size → lab' x = lab x := fun x hx => by
    show (if x = b then id else if x = mb then id + 1 else if x < w.heap.size then lab x else if v.ownBlock = some x then id + 2 else 0) = _
    rw [if_neg (by omega), if_neg (by omega), if_pos hx]
  refine ⟨lab', h.push ⟨v, mb, blk, row, map, if_pos rfl, ?_, fun k hk => ?_⟩ (fun x hx => ?_) ⟨hb.os, hb.tape, hb.output, hb.size, old, fun x hx _ => hb.block x hx, fun x hx => ?_⟩⟩
  · show (if mb = b then id else if mb = mb then id + 1 else _) = _
    rw [if_neg (Ne.symm bm), if_pos rfl]
  · have := nr k hk
    show (if k = b then id else if k = mb then id + 1 else if k < w.heap.size then lab k else if v.ownBlock = some k then id + 2 else 0) = _
    rw [if_neg (fun e => br (by rw [← e]; exact hk)), if_neg (fun e => mr (by rw [← e]; exact hk)), if_neg (by omega), if_pos hk]
  · show (if x = b then id else if x = mb then id + 1 else if x < w.heap.size then lab x else if v.ownBlock = some x then id + 2 else 0) = _
    rw [if_neg (by omega), if_neg (by omega), if_neg (by omega), if_neg (fun e => by have := (row.lt x e).2; omega)]
  · show (if x = b then id else if x = mb then id + 1 else if x < w.heap.size then lab x else if v.ownBlock = some x then id + 2 else 0) = 0 ∨ _ ≤ (if x = b then id else if x = mb then id + 1 else if x < w.heap.size then lab x else if v.ownBlock = some x then id + 2 else 0) ∧ (if x = b then id else if x = mb then id + 1 else if x < w.heap.size then lab x else if v.ownBlock = some x then id + 2 else 0) < _
    have hid : id = 64 * (os.length + 1) := rfl
    (repeat' split) <;> omega
theorem OMem.pushRef (h : OMem w0 w os) (hb : Below w.heap.size w w') (blk : w'.heap[b]? = some (.cells #[v] 48 (0, 0))) (row : w'.ownsRow 0 9 1 v T.length (strVs T))
    (nb : w.heap.size ≤ b) (nr : ∀ k, v.ownBlock = some k → w.heap.size ≤ k) (br : v.ownBlock ≠ some b) : OMem w0 w' (os ++ [.ref b T]) := by
  obtain ⟨lab, h⟩ := h
  have hs := hb.size
  have hbl := lt_heap blk
  let id := 64 * (os.length + 1)
  let lab' : Nat → Nat := fun x => if x = b then id else if x < w.heap.size then lab x else if v.ownBlock = some x then id + 2 else 0
  have old : ∀ x, x < w.heap.size → lab' x = lab x := fun x hx => by
    show (if x = b then id else if x < w.heap.size then lab x else if v.ownBlock = some x then id + 2 else 0) = _
    rw [if_neg (by omega), if_pos hx]
  refine ⟨lab', h.push ⟨v, blk, row, if_pos rfl, fun k hk => ?_⟩ (fun x hx => ?_) ⟨hb.os, hb.tape, hb.output, hb.size, old, fun x hx _ => hb.block x hx, fun x hx => ?_⟩⟩
  · have := nr k hk
    show (if k = b then id else if k < w.heap.size then lab k else if v.ownBlock = some k then id + 2 else 0) = _
    rw [if_neg (fun e => br (by rw [← e]; exact hk)), if_neg (by omega), if_pos hk]
  · show (if x = b then id else if x < w.heap.size then lab x else if v.ownBlock = some x then id + 2 else 0) = _
    rw [if_neg (by omega), if_neg (by omega), if_neg (fun e => by have := (row.lt x e).2; omega)]
  · show (if x = b then id else if x < w.heap.size then lab x else if v.ownBlock = some x then id + 2 else 0) = 0 ∨ _ ≤ (if x = b then id else if x < w.heap.size then lab x else if v.ownBlock = some x then id + 2 else 0) ∧ (if x = b then id else if x < w.heap.size then lab x else if v.ownBlock = some x then id + 2 else 0) < _
    have hid : id = 64 * (os.length + 1) := rfl
    (repeat' split) <;> omega
end
end Go.Proofs.Ytjhedlkanphlhaa
