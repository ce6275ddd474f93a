/- Objects in one memory, each in blocks with labels of its own, beside blocks that nothing changes any more (label 0), which objects may share; and the lists that the statements bring: no layer's own. -/
import Derived.Test.YtenbdnkipkfpkaaDoorChecked
import Derived.Lib.Hide
import Derived.Lib.AppendStr
import Derived.Lib.Builder
import Derived.Lib.Strings
import Derived.Lib.AtoiErrMem
import Derived.Lib.ItoaMem
import Derived.Maps.AppendAt
import Derived.Maps.OwnSet
import Derived.Maps.OwnOps
import Derived.Maps.Ext
import Derived.WalkKit
import Derived.WalkSpells
import Derived.WalkSmall
import Derived.WalkMore
import Derived.Deep.QuietTactic
import Derived.BigQuiet
import Derived.Deep.DeepFit
import Derived.Deep.RegionHeld3
import Derived.Deep.DrawnRows
import Derived.Lib.SliceRun
import Derived.Outline
namespace Go.Proofs.YtenbdnkipkfpkaaDoor
open Go.RowKit Go.Maps Go.ChangeMaps Go.MapKept

/-! ### Worlds -/
def I64 (x : Int) : Prop := -9223372036854775808 ≤ x ∧ x ≤ 9223372036854775807
/-- One memory, whatever has been drawn. -/
structure Hp (w w' : World) : Prop where
  heap : w'.heap = w.heap
  os : w'.os = w.os
  tape : w'.tape = w.tape
  output : w'.output = w.output
theorem Hp.refl (w : World) : Hp w w := ⟨rfl, rfl, rfl, rfl⟩
theorem hp_below {w w' : World} (h : Hp w w') : Below w.heap.size w w' := ⟨h.os, h.tape, h.output, by rw [h.heap]; exact Nat.le_refl _, fun k _ => by rw [h.heap]⟩
theorem below_drew (w : World) : Below w.heap.size w w.drew := ⟨rfl, rfl, rfl, Nat.le_refl _, fun _ _ => rfl⟩
theorem below_cell {w w' : World} {p : Addr} {v : Value} (h : w.cell? p = some v) (hb : Below w.heap.size w w') : w'.cell? p = some v :=
  (hb.cell (p := p) (Lib.lt_of_cell h)).trans h
theorem lt_heap {w : World} {b : Nat} {o : Obj} (h : w.heap[b]? = some o) : b < w.heap.size := (Array.getElem?_eq_some_iff.1 h).1
theorem set_heap {w : World} {b o : Nat} {cs : Array Value} {e : TypeId} {fz : Nat × Nat} (h : w.heap[b]? = some (.cells cs e fz)) (v : Value) : (w.setCell ⟨b, o, none⟩ v).heap[b]? = some (.cells (cs.setIfInBounds o v) e fz) := by
  simp [World.setCell, Array.getElem?_modify, h]
theorem set_size (w : World) (a : Addr) (v : Value) : (w.setCell a v).heap.size = w.heap.size := by simp [World.setCell]
theorem set_other {w : World} {a : Addr} {v : Value} {k : Nat} (h : k ≠ a.block) : (w.setCell a v).heap[k]? = w.heap[k]? := Below.heap_setCell w a v k h
theorem ownsRow_block {w w' : World} {base : Nat} {e : TypeId} {size n : Nat} {v : Value} {xs : List Value} (h : w.ownsRow base e size v n xs) (hb : ∀ k, v.ownBlock = some k → w'.heap[k]? = w.heap[k]?) : w'.ownsRow base e size v n xs := by
  refine ⟨h.1, ?_⟩
  rcases h.2 with hn | ⟨g, cap, cur, rfl, hb', hgg, rest⟩
  · exact .inl hn
  · exact .inr ⟨g, cap, cur, rfl, hb', (hb g rfl).trans hgg, rest⟩
theorem own_form {w : World} {base : Nat} {e : TypeId} {size n : Nat} {v : Value} {xs : List Value} (h : w.ownsRow base e size v n xs) : ∃ a c, v = .slice a n c := by
  rcases h.2 with ⟨rfl, rfl⟩ | ⟨g, cap, cur, rfl, _⟩
  · exact ⟨_, _, rfl⟩
  · exact ⟨_, _, rfl⟩
theorem ret_bool {a b : Bool} (h : a = b) : Ending.returned (.bool a) = .returned (.bool b) := by rw [h]
theorem ret_int {a b : Int} (h : a = b) : Ending.returned (.int .i64 a) = .returned (.int .i64 b) := by rw [h]
theorem cell_one_new (w : World) (u : Value) (e : TypeId) : ∀ (j : Nat) (y : Value), [u][j]? = some y → (w.alloc (.cells #[u] e)).cell? ((⟨w.heap.size, 0, none⟩ : Addr).add j) = some y := by
  intro j y hj
  match j, hj with
  | 0, hj => simp at hj; subst hj; simp [Addr.add]

/-! ### Labels -/
def LabOk (lab : Nat → Nat) (w : World) : Prop := ∀ x, w.heap.size ≤ x → lab x = 0
/-- What a call on the object with this id may do: of what was there only blocks with its labels change. -/
structure Chg (id : Nat) (lab lab' : Nat → Nat) (w w' : World) : Prop where
  os : w'.os = w.os
  tape : w'.tape = w.tape
  output : w'.output = w.output
  size : w.heap.size ≤ w'.heap.size
  labs : ∀ x, x < w.heap.size → lab' x = lab x
  block : ∀ x, x < w.heap.size → (lab x < id ∨ id + 64 ≤ lab x) → w'.heap[x]? = w.heap[x]?
  fresh : ∀ x, w.heap.size ≤ x → lab' x = 0 ∨ (id ≤ lab' x ∧ lab' x < id + 64)
theorem Chg.refl {id : Nat} {lab : Nat → Nat} {w : World} (h : LabOk lab w) : Chg id lab lab w w := ⟨rfl, rfl, rfl, Nat.le_refl _, fun _ _ => rfl, fun _ _ _ => rfl, fun x hx => .inl (h x hx)⟩
theorem Chg.trans {id : Nat} {l1 l2 l3 : Nat → Nat} {a b c : World} (h : Chg id l1 l2 a b) (k : Chg id l2 l3 b c) : Chg id l1 l3 a c where
  os := k.os.trans h.os
  tape := k.tape.trans h.tape
  output := k.output.trans h.output
  size := Nat.le_trans h.size k.size
  labs x hx := (k.labs x (Nat.lt_of_lt_of_le hx h.size)).trans (h.labs x hx)
  block x hx hl := (k.block x (Nat.lt_of_lt_of_le hx h.size) (by rw [h.labs x hx]; exact hl)).trans (h.block x hx hl)
  fresh x hx := by
    by_cases hb : x < b.heap.size
    · rw [k.labs x hb]; exact h.fresh x hx
    · exact k.fresh x (by omega)
/-- All that was there at the start of the call bears no label, and is as it was. -/
structure Under (w0 w : World) (lab : Nat → Nat) : Prop where
  below : Below w0.heap.size w0 w
  labs : ∀ x, x < w0.heap.size → lab x = 0
theorem Under.start (w0 : World) : Under w0 w0 (fun _ => 0) := ⟨Below.refl _ _, fun _ _ => rfl⟩
theorem Under.step {w0 w w' : World} {lab lab' : Nat → Nat} {id : Nat} (h : Under w0 w lab) (k : Chg id lab lab' w w') (h64 : 64 ≤ id) : Under w0 w' lab' :=
  have hs := h.below.size
  ⟨⟨k.os.trans h.below.os, k.tape.trans h.below.tape, k.output.trans h.below.output, Nat.le_trans hs k.size, fun x hx => (k.block x (by omega) (by rw [h.labs x hx]; omega)).trans (h.below.block x hx)⟩, fun x hx => (k.labs x (by omega)).trans (h.labs x hx)⟩
theorem Under.fresh {w0 w w' : World} {lab : Nat → Nat} (h : Under w0 w lab) (hb : Below w.heap.size w w') : Under w0 w' lab := ⟨h.below.trans (hb.mono h.below.size), h.labs⟩
/-- The labels behind a slice's growing. -/
def relab (lab : Nat → Nat) (w : World) (v : Value) (c : Nat) (x : Nat) : Nat := if x < w.heap.size then lab x else if v.ownBlock = some x then c else 0
theorem relab_own {w : World} {lab : Nat → Nat} {row : Option Nat} {c2 : Nat} {v' : Value} (g : ∀ k, row = some k → k < w.heap.size) (hrow : ∀ k, row = some k → lab k = c2)
    (hloc : v'.ownBlock = row ∨ ∀ k, v'.ownBlock = some k → w.heap.size ≤ k) : ∀ k, v'.ownBlock = some k → relab lab w v' c2 k = c2 := by
  intro k hk
  unfold relab
  rcases hloc with h | h
  · have h1 : row = some k := h.symm.trans hk
    rw [if_pos (g k h1)]; exact hrow k h1
  · have := h k hk
    rw [if_neg (by omega), if_pos hk]

/-! ### Objects -/
/-- An object: how it lies in memory, and that it stays so while its blocks do. -/
structure Ob where
  In : World → (Nat → Nat) → Nat → Prop
  kept : ∀ {w w' : World} {lab lab' : Nat → Nat} {id : Nat}, In w lab id → LabOk lab' w' → (∀ x, x < w.heap.size → lab' x = lab x) → (∀ x, x < w.heap.size → lab x = 0 ∨ id ≤ lab x ∧ lab x < id + 64 → w'.heap[x]? = w.heap[x]?) → In w' lab' id
theorem Ob.other (o : Ob) {w w' : World} {lab lab' : Nat → Nat} {id id' : Nat} (h : o.In w lab id) (k : Chg id' lab lab' w w') (lo : LabOk lab' w') (h64 : 64 ≤ id') (hne : id' + 64 ≤ id ∨ id + 64 ≤ id') : o.In w' lab' id :=
  o.kept h lo k.labs fun x hx h1 => k.block x hx (by omega)
theorem Ob.fresh (o : Ob) {w w' : World} {lab : Nat → Nat} {id : Nat} (h : o.In w lab id) (lo : LabOk lab w) (hb : Below w.heap.size w w') : o.In w' lab id :=
  o.kept h (fun x hx => lo x (Nat.le_trans hb.size hx)) (fun _ _ => rfl) fun x hx _ => hb.block x hx
/-- A slice in a block of its own. -/
def Ob.own (e : TypeId) (v : Value) (xs : List Value) : Ob where
  In w lab id := w.ownsRow 0 e 1 v xs.length xs ∧ ∀ k, v.ownBlock = some k → lab k = id
  kept := fun {w w' lab lab' id} h lo hl hb => ⟨ownsRow_block h.1 fun k hk => hb k (h.1.lt k hk).2 (.inr ⟨by rw [h.2 k hk]; omega, by rw [h.2 k hk]; omega⟩), fun k hk => (hl k (h.1.lt k hk).2).trans (h.2 k hk)⟩

/-! ### One memory -/
structure OMemL (w0 w : World) (lab : Nat → Nat) (os : List Ob) : Prop where
  lo : LabOk lab w
  und : Under w0 w lab
  at_ : ∀ (i : Nat) (o : Ob), os[i]? = some o → o.In w lab (64 * (i + 1))
def OMem (w0 w : World) (os : List Ob) : Prop := ∃ lab, OMemL w0 w lab os
theorem OMemL.fresh {w0 w w' : World} {lab : Nat → Nat} {os : List Ob} (h : OMemL w0 w lab os) (hb : Below w.heap.size w w') : OMemL w0 w' lab os :=
  ⟨fun x hx => h.lo x (Nat.le_trans hb.size hx), h.und.fresh hb, fun i o hi => o.fresh (h.at_ i o hi) h.lo hb⟩
theorem OMemL.set {w0 w w' : World} {os : List Ob} {i : Nat} {o' : Ob} {lab lab' : Nat → Nat} (h : OMemL w0 w lab os) (g : o'.In w' lab' (64 * (i + 1))) (lo : LabOk lab' w') (k : Chg (64 * (i + 1)) lab lab' w w') : OMemL w0 w' lab' (os.set i o') := by
  refine ⟨lo, h.und.step k (by omega), fun j p hj => ?_⟩
  rw [List.getElem?_set] at hj
  split at hj
  · rename_i he
    subst he
    split at hj
    · cases hj; exact g
    · cases hj
  · exact p.other (h.at_ j p hj) k lo (by omega) (by omega)
theorem OMemL.push {w0 w w' : World} {os : List Ob} {o' : Ob} {lab lab' : Nat → Nat} (h : OMemL w0 w lab os) (g : o'.In w' lab' (64 * (os.length + 1))) (lo : LabOk lab' w') (k : Chg (64 * (os.length + 1)) lab lab' w w') : OMemL w0 w' lab' (os ++ [o']) := by
  refine ⟨lo, h.und.step k (by omega), fun j p hj => ?_⟩
  rcases Nat.lt_or_ge j os.length with hl | hl
  · rw [List.getElem?_append_left hl] at hj
    exact p.other (h.at_ j p hj) k lo (by omega) (by omega)
  · rw [List.getElem?_append_right hl] at hj
    have hz : j - os.length = 0 := by
      rcases Nat.eq_zero_or_pos (j - os.length) with h | h
      · exact h
      · rw [List.getElem?_eq_none (by simp; omega)] at hj; cases hj
    rw [hz] at hj
    obtain rfl : j = os.length := by omega
    simp at hj
    subst hj
    exact g
section
variable {w0 w w' : World} {os : List Ob} {i b : Nat}
theorem OMem.start (w0 : World) : OMem w0 w0 [] := ⟨fun _ => 0, fun _ _ => rfl, Under.start w0, fun i p h => by simp at h⟩
theorem OMem.below (h : OMem w0 w os) : Below w0.heap.size w0 w := by obtain ⟨_, h⟩ := h; exact h.und.below
theorem OMem.fresh (h : OMem w0 w os) (hb : Below w.heap.size w w') : OMem w0 w' os := by obtain ⟨lab, h⟩ := h; exact ⟨lab, h.fresh hb⟩
theorem OMem.hp (h : OMem w0 w os) (hb : Hp w w') : OMem w0 w' os := h.fresh (hp_below hb)
theorem OMem.drew (h : OMem w0 w os) : OMem w0 w.drew os := h.fresh (below_drew w)
theorem OMem.take (h : OMem w0 w os) (n : Nat) : OMem w0 w (os.take n) := by
  obtain ⟨lab, h⟩ := h
  exact ⟨lab, h.lo, h.und, fun i p hi => h.at_ i p (by rw [List.getElem?_take] at hi; split at hi; exact hi; cases hi)⟩
/-- A slice in a new block. -/
theorem OMem.row (h : OMem w0 w os) (hb : Below w.heap.size w w') {e : TypeId} {v : Value} {xs : List Value} (hf : w'.ownsRow 0 e 1 v xs.length xs) (hn : ∀ k, v.ownBlock = some k → w.heap.size ≤ k) : OMem w0 w' (os ++ [.own e v xs]) := by
  obtain ⟨lab, h⟩ := h
  have lo : LabOk (relab lab w v (64 * (os.length + 1))) w' := fun x hx => by
    unfold relab
    rw [if_neg (by have := hb.size; omega), if_neg (fun q => by have := (hf.lt x q).2; omega)]
  refine ⟨relab lab w v (64 * (os.length + 1)), h.push ⟨hf, fun k hk => ?_⟩ lo ⟨hb.os, hb.tape, hb.output, hb.size, fun x hx => by simp [relab, hx], fun x hx _ => hb.block x hx, fun x hx => ?_⟩⟩
  · unfold relab
    rw [if_neg (by have := hn k hk; omega), if_pos hk]
  · unfold relab
    rw [if_neg (by omega)]
    split
    · exact .inr ⟨by omega, by omega⟩
    · exact .inl rfl
theorem OMem.nil (h : OMem w0 w os) (e : TypeId) : OMem w0 w (os ++ [.own e (.slice none 0 0) []]) := h.row (Below.refl _ _) (World.ownsRow_nil _ _ _ _) fun k hk => by cases hk
theorem OMem.at_row (h : OMem w0 w os) {e : TypeId} {v : Value} {xs : List Value} (hi : os[i]? = some (.own e v xs)) : w.ownsRow 0 e 1 v xs.length xs := by
  obtain ⟨lab, h⟩ := h; exact (h.at_ i _ hi).1
/-- A slice of the statement's own grows. -/
theorem OMem.grow (h : OMem w0 w os) {e : TypeId} {v v' : Value} {xs xs' : List Value} (hi : os[i]? = some (.own e v xs)) (g : w.grownBy w' v.ownBlock) (o : w'.ownsRow 0 e 1 v' xs'.length xs') (hloc : v'.ownBlock = v.ownBlock ∨ v'.ownBlock = some w.heap.size) : OMem w0 w' (os.set i (.own e v' xs')) := by
  obtain ⟨lab, h⟩ := h
  have hv := h.at_ i _ hi
  have hloc : v'.ownBlock = v.ownBlock ∨ ∀ k, v'.ownBlock = some k → w.heap.size ≤ k := hloc.imp_right fun q k hk => by rw [q] at hk; cases hk; exact Nat.le_refl _
  have lo : LabOk (relab lab w v' (64 * (i + 1))) w' := fun x hx => by
    unfold relab
    rw [if_neg (by have := g.size; omega), if_neg (fun q => by have := (o.lt x q).2; omega)]
  refine ⟨relab lab w v' (64 * (i + 1)), h.set ⟨o, relab_own (fun k hk => (hv.1.lt k hk).2) hv.2 hloc⟩ lo ⟨g.os, g.tape, g.output, g.size, fun x hx => by simp [relab, hx], fun x hx hl => g.block x hx (fun q => by have := hv.2 x q.symm; omega), fun x hx => ?_⟩⟩
  unfold relab
  rw [if_neg (by omega)]
  split
  · exact .inr ⟨by omega, by omega⟩
  · exact .inl rfl
theorem set_noop {α : Type} {l : List α} {i : Nat} {a : α} (h : l[i]? = some a) : l.set i a = l := by
  apply List.ext_getElem?
  intro j
  rw [List.getElem?_set]
  split
  · rename_i e; subst e
    obtain ⟨hlt, _⟩ := List.getElem?_eq_some_iff.1 h
    rw [if_pos hlt, h]
  · rfl
theorem set_get {α : Type} {l : List α} {i j : Nat} {a x : α} (h : l[i]? = some x) (hne : j ≠ i) : (l.set j a)[i]? = some x := by rw [List.getElem?_set_ne hne]; exact h
theorem set_here {α : Type} {l : List α} {i : Nat} {a x : α} (h : l[i]? = some x) : (l.set i a)[i]? = some a := by
  obtain ⟨hlt, _⟩ := List.getElem?_eq_some_iff.1 h
  exact List.getElem?_set_self hlt
end

/-! ### Lists of strings, of numbers -/
def strVs (l : List ByteArray) : List Value := l.map .string
theorem strVs_length (l : List ByteArray) : (strVs l).length = l.length := by simp [strVs]
theorem strVs_snoc (l : List ByteArray) (a : ByteArray) : strVs l ++ [Value.string a] = strVs (l ++ [a]) := by simp [strVs]
theorem oneCell_strs (l : List ByteArray) : ∀ u ∈ strVs l, u.oneCell' = true := by
  intro u hu; obtain ⟨b, _, rfl⟩ := List.mem_map.1 hu; rfl
def intVs (l : List Int) : List Value := l.map (.int .i64)
theorem intVs_length (l : List Int) : (intVs l).length = l.length := by simp [intVs]
theorem intVs_snoc (l : List Int) (a : Int) : intVs l ++ [Value.int .i64 a] = intVs (l ++ [a]) := by simp [intVs]
theorem oneCell_ints (l : List Int) : ∀ u ∈ intVs l, u.oneCell' = true := by
  intro u hu; obtain ⟨b, _, rfl⟩ := List.mem_map.1 hu; rfl

/-- A slice that is read: its elements, each one cell. -/
def RowAt (w : World) (v : Value) (xs : List Value) : Prop :=
  ∃ a cap, v = .slice a xs.length cap ∧ ∀ k u, xs[k]? = some u → ∃ b off, a = some ⟨b, off, none⟩ ∧ w.cell? ⟨b, off + k, none⟩ = some u
theorem RowAt.keep {w w' : World} {v : Value} {xs : List Value} (h : RowAt w v xs) (hb : Below w.heap.size w w') : RowAt w' v xs := by
  obtain ⟨a, cap, rfl, hc⟩ := h
  refine ⟨a, cap, rfl, fun k u hk => ?_⟩
  obtain ⟨b, off, h1, h2⟩ := hc k u hk
  exact ⟨b, off, h1, below_cell h2 hb⟩
theorem RowAt.of_own {w : World} {base : Nat} {e : TypeId} {v : Value} {xs : List Value} (h : w.ownsRow base e 1 v xs.length xs) : RowAt w v xs := by
  rcases h.2 with ⟨rfl, h0⟩ | ⟨g, cap, cur, rfl, _⟩
  · have : xs = [] := List.eq_nil_of_length_eq_zero h0
    subst this
    exact ⟨none, 0, rfl, fun k u hk => by simp at hk⟩
  · refine ⟨_, cap, rfl, fun k u hk => ⟨g, 0, rfl, ?_⟩⟩
    have := h.cells rfl k u hk
    rw [Lib.add_plain] at this
    exact this
theorem OMem.row_at {w0 w : World} {os : List Ob} {i : Nat} (h : OMem w0 w os) {e : TypeId} {v : Value} {xs : List Value} (hi : os[i]? = some (.own e v xs)) : RowAt w v xs := .of_own (h.at_row hi)
def TextsAt (w : World) (v : Value) (l : List ByteArray) : Prop := RowAt w v (strVs l)
theorem TextsAt.keep {w w' : World} {v : Value} {l : List ByteArray} (h : TextsAt w v l) (hb : Below w.heap.size w w') : TextsAt w' v l := RowAt.keep h hb
theorem TextsAt.form {w : World} {v : Value} {l : List ByteArray} (h : TextsAt w v l) : ∃ a cap, v = .slice a l.length cap ∧ ∀ k (hk : k < l.length), ∃ b off, a = some ⟨b, off, none⟩ ∧ w.cell? ⟨b, off + k, none⟩ = some (.string l[k]) := by
  obtain ⟨a, cap, hv, hc⟩ := h
  rw [strVs_length] at hv
  exact ⟨a, cap, hv, fun k hk => hc k _ (by simp [strVs, hk])⟩
theorem texts_own {w : World} {base : Nat} {e : TypeId} {v : Value} {l : List ByteArray} (h : w.ownsRow base e 1 v l.length (strVs l)) : TextsAt w v l := RowAt.of_own (by rw [strVs_length]; exact h)
def IntsAt (w : World) (v : Value) (l : List Int) : Prop := RowAt w v (intVs l)
theorem IntsAt.keep {w w' : World} {v : Value} {l : List Int} (h : IntsAt w v l) (hb : Below w.heap.size w w') : IntsAt w' v l := RowAt.keep h hb
theorem IntsAt.form {w : World} {v : Value} {l : List Int} (h : IntsAt w v l) : ∃ a cap, v = .slice a l.length cap ∧ ∀ k (hk : k < l.length), ∃ b off, a = some ⟨b, off, none⟩ ∧ w.cell? ⟨b, off + k, none⟩ = some (.int .i64 l[k]) := by
  obtain ⟨a, cap, hv, hc⟩ := h
  rw [intVs_length] at hv
  exact ⟨a, cap, hv, fun k hk => hc k _ (by simp [intVs, hk])⟩
theorem string_info : (Tryd.prog.info? 9).map (fun i => (i.zero, i.size, i.bytes)) = some (some (.string ⟨#[]⟩), 1, 16) := by kernel_rfl
theorem int_info : (Tryd.prog.info? 3).map (fun i => (i.zero, i.size, i.bytes)) = some (some (.int .i64 0), 1, 8) := by kernel_rfl
theorem byte_info : (Tryd.prog.info? 5).map (fun i => (i.zero, i.size, i.bytes)) = some (some (.int .u8 0), 1, 1) := by kernel_rfl
end Go.Proofs.YtenbdnkipkfpkaaDoor
