/- Several texts in one: Gen7, Obj7, Str, Toks, Lq, Lq2, Lq6, Lq7, Lq8. -/
import Derived.Test.YtlefgffnjcmfoaaGreatDoorChecked
import Derived.Lib.Hide
import Derived.Lib.AppendStr
import Derived.Lib.Builder
import Derived.Lib.Strings
import Derived.Lib.AtoiErrMem
import Derived.Lib.ItoaMem
import Derived.Maps.AppendAt
import Derived.Maps.OwnSet
import Derived.Maps.OwnOps
import Derived.Maps.Ext
import Derived.WalkKit
import Derived.WalkSpells
import Derived.WalkSmall
import Derived.WalkMore
import Derived.Deep.QuietTactic
import Derived.BigQuiet
import Derived.Deep.DeepFit
import Derived.Deep.RegionHeld3
import Derived.Deep.DrawnRows
import Derived.Lib.SliceRun
import Derived.Outline
import Derived.Laws.OwnMore
import Derived.Lib.AppendZeros
import Derived.Test.YtlefgffnjcmfoaaGreatDoorMA
import Derived.OwnWalk
import Derived.Laws.Rows
namespace Go.Proofs.YtlefgffnjcmfoaaGreatDoor
open Go.RowKit Go.Maps Go.ChangeMaps Go.MapKept

/-! ### Worlds -/
def I64 (x : Int) : Prop := -9223372036854775808 ≤ x ∧ x ≤ 9223372036854775807
/-- One memory, whatever has been drawn. -/
structure Hp (w w' : World) : Prop where
  heap : w'.heap = w.heap
  os : w'.os = w.os
  tape : w'.tape = w.tape
  output : w'.output = w.output
theorem Hp.refl (w : World) : Hp w w := ⟨rfl, rfl, rfl, rfl⟩
theorem hp_below {w w' : World} (h : Hp w w') : Below w.heap.size w w' := ⟨h.os, h.tape, h.output, by rw [h.heap]; exact Nat.le_refl _, fun k _ => by rw [h.heap]⟩
theorem below_drew (w : World) : Below w.heap.size w w.drew := ⟨rfl, rfl, rfl, Nat.le_refl _, fun _ _ => rfl⟩
theorem below_cell {w w' : World} {p : Addr} {v : Value} (h : w.cell? p = some v) (hb : Below w.heap.size w w') : w'.cell? p = some v :=
  (hb.cell (p := p) (Lib.lt_of_cell h)).trans h
theorem lt_heap {w : World} {b : Nat} {o : Obj} (h : w.heap[b]? = some o) : b < w.heap.size := (Array.getElem?_eq_some_iff.1 h).1
theorem set_heap {w : World} {b o : Nat} {cs : Array Value} {e : TypeId} {fz : Nat × Nat} (h : w.heap[b]? = some (.cells cs e fz)) (v : Value) : (w.setCell ⟨b, o, none⟩ v).heap[b]? = some (.cells (cs.setIfInBounds o v) e fz) := by
  simp [World.setCell, Array.getElem?_modify, h]
theorem set_size (w : World) (a : Addr) (v : Value) : (w.setCell a v).heap.size = w.heap.size := by simp [World.setCell]
theorem set_other {w : World} {a : Addr} {v : Value} {k : Nat} (h : k ≠ a.block) : (w.setCell a v).heap[k]? = w.heap[k]? := Below.heap_setCell w a v k h
theorem ownsRow_block {w w' : World} {base : Nat} {e : TypeId} {size n : Nat} {v : Value} {xs : List Value} (h : w.ownsRow base e size v n xs) (hb : ∀ k, v.ownBlock = some k → w'.heap[k]? = w.heap[k]?) : w'.ownsRow base e size v n xs := by
  refine ⟨h.1, ?_⟩
  rcases h.2 with hn | ⟨g, cap, cur, rfl, hb', hgg, rest⟩
  · exact .inl hn
  · exact .inr ⟨g, cap, cur, rfl, hb', (hb g rfl).trans hgg, rest⟩
theorem own_form {w : World} {base : Nat} {e : TypeId} {size n : Nat} {v : Value} {xs : List Value} (h : w.ownsRow base e size v n xs) : ∃ a c, v = .slice a n c := by
  rcases h.2 with ⟨rfl, rfl⟩ | ⟨g, cap, cur, rfl, _⟩
  · exact ⟨_, _, rfl⟩
  · exact ⟨_, _, rfl⟩
theorem ret_bool {a b : Bool} (h : a = b) : Ending.returned (.bool a) = .returned (.bool b) := by rw [h]
theorem ret_int {a b : Int} (h : a = b) : Ending.returned (.int .i64 a) = .returned (.int .i64 b) := by rw [h]
theorem cell_one_new (w : World) (u : Value) (e : TypeId) : ∀ (j : Nat) (y : Value), [u][j]? = some y → (w.alloc (.cells #[u] e)).cell? ((⟨w.heap.size, 0, none⟩ : Addr).add j) = some y := by
  intro j y hj
  match j, hj with
  | 0, hj => simp at hj; subst hj; simp [Addr.add]

/-! ### Labels -/
def LabOk (lab : Nat → Nat) (w : World) : Prop := ∀ x, w.heap.size ≤ x → lab x = 0
/-- What a call on the object with this id may do: of what was there only blocks with its labels change. -/
structure Chg (id : Nat) (lab lab' : Nat → Nat) (w w' : World) : Prop where
  os : w'.os = w.os
  tape : w'.tape = w.tape
  output : w'.output = w.output
  size : w.heap.size ≤ w'.heap.size
  labs : ∀ x, x < w.heap.size → lab' x = lab x
  block : ∀ x, x < w.heap.size → (lab x < id ∨ id + 64 ≤ lab x) → w'.heap[x]? = w.heap[x]?
  fresh : ∀ x, w.heap.size ≤ x → lab' x = 0 ∨ (id ≤ lab' x ∧ lab' x < id + 64)
theorem Chg.refl {id : Nat} {lab : Nat → Nat} {w : World} (h : LabOk lab w) : Chg id lab lab w w := ⟨rfl, rfl, rfl, Nat.le_refl _, fun _ _ => rfl, fun _ _ _ => rfl, fun x hx => .inl (h x hx)⟩
theorem Chg.trans {id : Nat} {l1 l2 l3 : Nat → Nat} {a b c : World} (h : Chg id l1 l2 a b) (k : Chg id l2 l3 b c) : Chg id l1 l3 a c where
  os := k.os.trans h.os
  tape := k.tape.trans h.tape
  output := k.output.trans h.output
  size := Nat.le_trans h.size k.size
  labs x hx := (k.labs x (Nat.lt_of_lt_of_le hx h.size)).trans (h.labs x hx)
  block x hx hl := (k.block x (Nat.lt_of_lt_of_le hx h.size) (by rw [h.labs x hx]; exact hl)).trans (h.block x hx hl)
  fresh x hx := by
    by_cases hb : x < b.heap.size
    · rw [k.labs x hb]; exact h.fresh x hx
    · exact k.fresh x (by omega)
/-- All that was there at the start of the call bears no label, and is as it was. -/
structure Under (w0 w : World) (lab : Nat → Nat) : Prop where
  below : Below w0.heap.size w0 w
  labs : ∀ x, x < w0.heap.size → lab x = 0
theorem Under.start (w0 : World) : Under w0 w0 (fun _ => 0) := ⟨Below.refl _ _, fun _ _ => rfl⟩
theorem Under.step {w0 w w' : World} {lab lab' : Nat → Nat} {id : Nat} (h : Under w0 w lab) (k : Chg id lab lab' w w') (h64 : 64 ≤ id) : Under w0 w' lab' :=
  have hs := h.below.size
  ⟨⟨k.os.trans h.below.os, k.tape.trans h.below.tape, k.output.trans h.below.output, Nat.le_trans hs k.size, fun x hx => (k.block x (by omega) (by rw [h.labs x hx]; omega)).trans (h.below.block x hx)⟩, fun x hx => (k.labs x (by omega)).trans (h.labs x hx)⟩
theorem Under.fresh {w0 w w' : World} {lab : Nat → Nat} (h : Under w0 w lab) (hb : Below w.heap.size w w') : Under w0 w' lab := ⟨h.below.trans (hb.mono h.below.size), h.labs⟩
/-- The labels behind a slice's growing. -/
def relab (lab : Nat → Nat) (w : World) (v : Value) (c : Nat) (x : Nat) : Nat := if x < w.heap.size then lab x else if v.ownBlock = some x then c else 0
theorem relab_own {w : World} {lab : Nat → Nat} {row : Option Nat} {c2 : Nat} {v' : Value} (g : ∀ k, row = some k → k < w.heap.size) (hrow : ∀ k, row = some k → lab k = c2)
    (hloc : v'.ownBlock = row ∨ ∀ k, v'.ownBlock = some k → w.heap.size ≤ k) : ∀ k, v'.ownBlock = some k → relab lab w v' c2 k = c2 := by
  intro k hk
  unfold relab
  rcases hloc with h | h
  · have h1 : row = some k := h.symm.trans hk
    rw [if_pos (g k h1)]; exact hrow k h1
  · have := h k hk
    rw [if_neg (by omega), if_pos hk]

/-! ### Objects -/
/-- An object: how it lies in memory, and that it stays so while its blocks do. -/
structure Ob where
  In : World → (Nat → Nat) → Nat → Prop
  kept : ∀ {w w' : World} {lab lab' : Nat → Nat} {id : Nat}, In w lab id → LabOk lab' w' → (∀ x, x < w.heap.size → lab' x = lab x) → (∀ x, x < w.heap.size → lab x = 0 ∨ id ≤ lab x ∧ lab x < id + 64 → w'.heap[x]? = w.heap[x]?) → In w' lab' id
theorem Ob.other (o : Ob) {w w' : World} {lab lab' : Nat → Nat} {id id' : Nat} (h : o.In w lab id) (k : Chg id' lab lab' w w') (lo : LabOk lab' w') (h64 : 64 ≤ id') (hne : id' + 64 ≤ id ∨ id + 64 ≤ id') : o.In w' lab' id :=
  o.kept h lo k.labs fun x hx h1 => k.block x hx (by omega)
theorem Ob.fresh (o : Ob) {w w' : World} {lab : Nat → Nat} {id : Nat} (h : o.In w lab id) (lo : LabOk lab w) (hb : Below w.heap.size w w') : o.In w' lab id :=
  o.kept h (fun x hx => lo x (Nat.le_trans hb.size hx)) (fun _ _ => rfl) fun x hx _ => hb.block x hx
/-- A slice in a block of its own. -/
def Ob.own (e : TypeId) (v : Value) (xs : List Value) : Ob where
  In w lab id := w.ownsRow 0 e 1 v xs.length xs ∧ ∀ k, v.ownBlock = some k → lab k = id
  kept := fun {w w' lab lab' id} h lo hl hb => ⟨ownsRow_block h.1 fun k hk => hb k (h.1.lt k hk).2 (.inr ⟨by rw [h.2 k hk]; omega, by rw [h.2 k hk]; omega⟩), fun k hk => (hl k (h.1.lt k hk).2).trans (h.2 k hk)⟩

/-! ### One memory -/
structure OMemL (w0 w : World) (lab : Nat → Nat) (os : List Ob) : Prop where
  lo : LabOk lab w
  und : Under w0 w lab
  at_ : ∀ (i : Nat) (o : Ob), os[i]? = some o → o.In w lab (64 * (i + 1))
def OMem (w0 w : World) (os : List Ob) : Prop := ∃ lab, OMemL w0 w lab os
theorem OMemL.fresh {w0 w w' : World} {lab : Nat → Nat} {os : List Ob} (h : OMemL w0 w lab os) (hb : Below w.heap.size w w') : OMemL w0 w' lab os :=
  ⟨fun x hx => h.lo x (Nat.le_trans hb.size hx), h.und.fresh hb, fun i o hi => o.fresh (h.at_ i o hi) h.lo hb⟩
theorem OMemL.set {w0 w w' : World} {os : List Ob} {i : Nat} {o' : Ob} {lab lab' : Nat → Nat} (h : OMemL w0 w lab os) (g : o'.In w' lab' (64 * (i + 1))) (lo : LabOk lab' w') (k : Chg (64 * (i + 1)) lab lab' w w') : OMemL w0 w' lab' (os.set i o') := by
  refine ⟨lo, h.und.step k (by omega), fun j p hj => ?_⟩
  rw [List.getElem?_set] at hj
  split at hj
  · rename_i he
    subst he
    split at hj
    · cases hj; exact g
    · cases hj
  · exact p.other (h.at_ j p hj) k lo (by omega) (by omega)
theorem OMemL.push {w0 w w' : World} {os : List Ob} {o' : Ob} {lab lab' : Nat → Nat} (h : OMemL w0 w lab os) (g : o'.In w' lab' (64 * (os.length + 1))) (lo : LabOk lab' w') (k : Chg (64 * (os.length + 1)) lab lab' w w') : OMemL w0 w' lab' (os ++ [o']) := by
  refine ⟨lo, h.und.step k (by omega), fun j p hj => ?_⟩
  rcases Nat.lt_or_ge j os.length with hl | hl
  · rw [List.getElem?_append_left hl] at hj
    exact p.other (h.at_ j p hj) k lo (by omega) (by omega)
  · rw [List.getElem?_append_right hl] at hj
    have hz : j - os.length = 0 := by
      rcases Nat.eq_zero_or_pos (j - os.length) with h | h
      · exact h
      · rw [List.getElem?_eq_none (by simp; omega)] at hj; cases hj
    rw [hz] at hj
    obtain rfl : j = os.length := by omega
    simp at hj
    subst hj
    exact g
section
variable {w0 w w' : World} {os : List Ob} {i b : Nat}
theorem OMem.start (w0 : World) : OMem w0 w0 [] := ⟨fun _ => 0, fun _ _ => rfl, Under.start w0, fun i p h => by simp at h⟩
theorem OMem.below (h : OMem w0 w os) : Below w0.heap.size w0 w := by obtain ⟨_, h⟩ := h; exact h.und.below
theorem OMem.fresh (h : OMem w0 w os) (hb : Below w.heap.size w w') : OMem w0 w' os := by obtain ⟨lab, h⟩ := h; exact ⟨lab, h.fresh hb⟩
theorem OMem.hp (h : OMem w0 w os) (hb : Hp w w') : OMem w0 w' os := h.fresh (hp_below hb)
theorem OMem.drew (h : OMem w0 w os) : OMem w0 w.drew os := h.fresh (below_drew w)
theorem OMem.take (h : OMem w0 w os) (n : Nat) : OMem w0 w (os.take n) := by
  obtain ⟨lab, h⟩ := h
  exact ⟨lab, h.lo, h.und, fun i p hi => h.at_ i p (by rw [List.getElem?_take] at hi; split at hi; exact hi; cases hi)⟩
/-- A slice in a new block. -/
theorem OMem.row (h : OMem w0 w os) (hb : Below w.heap.size w w') {e : TypeId} {v : Value} {xs : List Value} (hf : w'.ownsRow 0 e 1 v xs.length xs) (hn : ∀ k, v.ownBlock = some k → w.heap.size ≤ k) : OMem w0 w' (os ++ [.own e v xs]) := by
  obtain ⟨lab, h⟩ := h
  have lo : LabOk (relab lab w v (64 * (os.length + 1))) w' := fun x hx => by
    unfold relab
    rw [if_neg (by have := hb.size; omega), if_neg (fun q => by have := (hf.lt x q).2; omega)]
  refine ⟨relab lab w v (64 * (os.length + 1)), h.push ⟨hf, fun k hk => ?_⟩ lo ⟨hb.os, hb.tape, hb.output, hb.size, fun x hx => by simp [relab, hx], fun x hx _ => hb.block x hx, fun x hx => ?_⟩⟩
  · unfold relab
    rw [if_neg (by have := hn k hk; omega), if_pos hk]
  · unfold relab
    rw [if_neg (by omega)]
    split
    · exact .inr ⟨by omega, by omega⟩
    · exact .inl rfl
theorem OMem.nil (h : OMem w0 w os) (e : TypeId) : OMem w0 w (os ++ [.own e (.slice none 0 0) []]) := h.row (Below.refl _ _) (World.ownsRow_nil _ _ _ _) fun k hk => by cases hk
theorem OMem.at_row (h : OMem w0 w os) {e : TypeId} {v : Value} {xs : List Value} (hi : os[i]? = some (.own e v xs)) : w.ownsRow 0 e 1 v xs.length xs := by
  obtain ⟨lab, h⟩ := h; exact (h.at_ i _ hi).1
/-- A slice of the statement's own grows. -/
theorem OMem.grow (h : OMem w0 w os) {e : TypeId} {v v' : Value} {xs xs' : List Value} (hi : os[i]? = some (.own e v xs)) (g : w.grownBy w' v.ownBlock) (o : w'.ownsRow 0 e 1 v' xs'.length xs') (hloc : v'.ownBlock = v.ownBlock ∨ v'.ownBlock = some w.heap.size) : OMem w0 w' (os.set i (.own e v' xs')) := by
  obtain ⟨lab, h⟩ := h
  have hv := h.at_ i _ hi
  have hloc : v'.ownBlock = v.ownBlock ∨ ∀ k, v'.ownBlock = some k → w.heap.size ≤ k := hloc.imp_right fun q k hk => by rw [q] at hk; cases hk; exact Nat.le_refl _
  have lo : LabOk (relab lab w v' (64 * (i + 1))) w' := fun x hx => by
    unfold relab
    rw [if_neg (by have := g.size; omega), if_neg (fun q => by have := (o.lt x q).2; omega)]
  refine ⟨relab lab w v' (64 * (i + 1)), h.set ⟨o, relab_own (fun k hk => (hv.1.lt k hk).2) hv.2 hloc⟩ lo ⟨g.os, g.tape, g.output, g.size, fun x hx => by simp [relab, hx], fun x hx hl => g.block x hx (fun q => by have := hv.2 x q.symm; omega), fun x hx => ?_⟩⟩
  unfold relab
  rw [if_neg (by omega)]
  split
  · exact .inr ⟨by omega, by omega⟩
  · exact .inl rfl
theorem set_noop {α : Type} {l : List α} {i : Nat} {a : α} (h : l[i]? = some a) : l.set i a = l := by
  apply List.ext_getElem?
  intro j
  rw [List.getElem?_set]
  split
  · rename_i e; subst e
    obtain ⟨hlt, _⟩ := List.getElem?_eq_some_iff.1 h
    rw [if_pos hlt, h]
  · rfl
theorem set_get {α : Type} {l : List α} {i j : Nat} {a x : α} (h : l[i]? = some x) (hne : j ≠ i) : (l.set j a)[i]? = some x := by rw [List.getElem?_set_ne hne]; exact h
theorem set_here {α : Type} {l : List α} {i : Nat} {a x : α} (h : l[i]? = some x) : (l.set i a)[i]? = some a := by
  obtain ⟨hlt, _⟩ := List.getElem?_eq_some_iff.1 h
  exact List.getElem?_set_self hlt
end

/-! ### Lists of strings, of numbers -/
def strVs (l : List ByteArray) : List Value := l.map .string
theorem strVs_length (l : List ByteArray) : (strVs l).length = l.length := by simp [strVs]
theorem strVs_snoc (l : List ByteArray) (a : ByteArray) : strVs l ++ [Value.string a] = strVs (l ++ [a]) := by simp [strVs]
theorem oneCell_strs (l : List ByteArray) : ∀ u ∈ strVs l, u.oneCell' = true := by
  intro u hu; obtain ⟨b, _, rfl⟩ := List.mem_map.1 hu; rfl
def intVs (l : List Int) : List Value := l.map (.int .i64)
theorem intVs_length (l : List Int) : (intVs l).length = l.length := by simp [intVs]
theorem intVs_snoc (l : List Int) (a : Int) : intVs l ++ [Value.int .i64 a] = intVs (l ++ [a]) := by simp [intVs]
theorem oneCell_ints (l : List Int) : ∀ u ∈ intVs l, u.oneCell' = true := by
  intro u hu; obtain ⟨b, _, rfl⟩ := List.mem_map.1 hu; rfl

/-- A slice that is read: its elements, each one cell. -/
def RowAt (w : World) (v : Value) (xs : List Value) : Prop :=
  ∃ a cap, v = .slice a xs.length cap ∧ ∀ k u, xs[k]? = some u → ∃ b off, a = some ⟨b, off, none⟩ ∧ w.cell? ⟨b, off + k, none⟩ = some u
theorem RowAt.keep {w w' : World} {v : Value} {xs : List Value} (h : RowAt w v xs) (hb : Below w.heap.size w w') : RowAt w' v xs := by
  obtain ⟨a, cap, rfl, hc⟩ := h
  refine ⟨a, cap, rfl, fun k u hk => ?_⟩
  obtain ⟨b, off, h1, h2⟩ := hc k u hk
  exact ⟨b, off, h1, below_cell h2 hb⟩
theorem RowAt.of_own {w : World} {base : Nat} {e : TypeId} {v : Value} {xs : List Value} (h : w.ownsRow base e 1 v xs.length xs) : RowAt w v xs := by
  rcases h.2 with ⟨rfl, h0⟩ | ⟨g, cap, cur, rfl, _⟩
  · have : xs = [] := List.eq_nil_of_length_eq_zero h0
    subst this
    exact ⟨none, 0, rfl, fun k u hk => by simp at hk⟩
  · refine ⟨_, cap, rfl, fun k u hk => ⟨g, 0, rfl, ?_⟩⟩
    have := h.cells rfl k u hk
    rw [Lib.add_plain] at this
    exact this
theorem OMem.row_at {w0 w : World} {os : List Ob} {i : Nat} (h : OMem w0 w os) {e : TypeId} {v : Value} {xs : List Value} (hi : os[i]? = some (.own e v xs)) : RowAt w v xs := .of_own (h.at_row hi)
def TextsAt (w : World) (v : Value) (l : List ByteArray) : Prop := RowAt w v (strVs l)
theorem TextsAt.keep {w w' : World} {v : Value} {l : List ByteArray} (h : TextsAt w v l) (hb : Below w.heap.size w w') : TextsAt w' v l := RowAt.keep h hb
theorem TextsAt.form {w : World} {v : Value} {l : List ByteArray} (h : TextsAt w v l) : ∃ a cap, v = .slice a l.length cap ∧ ∀ k (hk : k < l.length), ∃ b off, a = some ⟨b, off, none⟩ ∧ w.cell? ⟨b, off + k, none⟩ = some (.string l[k]) := by
  obtain ⟨a, cap, hv, hc⟩ := h
  rw [strVs_length] at hv
  exact ⟨a, cap, hv, fun k hk => hc k _ (by simp [strVs, hk])⟩
theorem texts_own {w : World} {base : Nat} {e : TypeId} {v : Value} {l : List ByteArray} (h : w.ownsRow base e 1 v l.length (strVs l)) : TextsAt w v l := RowAt.of_own (by rw [strVs_length]; exact h)
def IntsAt (w : World) (v : Value) (l : List Int) : Prop := RowAt w v (intVs l)
theorem IntsAt.keep {w w' : World} {v : Value} {l : List Int} (h : IntsAt w v l) (hb : Below w.heap.size w w') : IntsAt w' v l := RowAt.keep h hb
theorem IntsAt.form {w : World} {v : Value} {l : List Int} (h : IntsAt w v l) : ∃ a cap, v = .slice a l.length cap ∧ ∀ k (hk : k < l.length), ∃ b off, a = some ⟨b, off, none⟩ ∧ w.cell? ⟨b, off + k, none⟩ = some (.int .i64 l[k]) := by
  obtain ⟨a, cap, hv, hc⟩ := h
  rw [intVs_length] at hv
  exact ⟨a, cap, hv, fun k hk => hc k _ (by simp [intVs, hk])⟩
theorem string_info : (Tryz.prog.info? 9).map (fun i => (i.zero, i.size, i.bytes)) = some (some (.string ⟨#[]⟩), 1, 16) := by kernel_rfl
theorem int_info : (Tryz.prog.info? 3).map (fun i => (i.zero, i.size, i.bytes)) = some (some (.int .i64 0), 1, 8) := by kernel_rfl
theorem byte_info : (Tryz.prog.info? 5).map (fun i => (i.zero, i.size, i.bytes)) = some (some (.int .u8 0), 1, 1) := by kernel_rfl
end Go.Proofs.YtlefgffnjcmfoaaGreatDoor
namespace Go.Proofs.YtlefgffnjcmfoaaGreatDoor
open Go.RowKit Go.Maps Go.ChangeMaps Go.MapKept

/-- What an object's blocks hold: B its own, S those that stay as they are. -/
structure Kind where
  Q : World → (Nat → Prop) → (Nat → Prop) → Prop
  lt : ∀ {w : World} {B S : Nat → Prop}, Q w B S → ∀ x, B x ∨ S x → x < w.heap.size
  kept : ∀ {w w' : World} {B S : Nat → Prop}, Q w B S → (∀ x, B x ∨ S x → w'.heap[x]? = w.heap[x]?) → Q w' B S
def Ob.of (K : Kind) : Ob where
  In w lab id := ∃ B S, K.Q w B S ∧ (∀ x, B x → lab x = id) ∧ ∀ x, S x → lab x = 0
  kept := fun {_ _ _ _ _} ⟨B, S, h, hl, hs⟩ _ hlab hb => ⟨B, S, K.kept h fun x hx => hb x (K.lt h x hx) (hx.elim (fun q => .inr (by rw [hl x q]; omega)) fun q => .inl (hs x q)),
    fun x hx => (hlab x (K.lt h x (.inl hx))).trans (hl x hx), fun x hx => (hlab x (K.lt h x (.inr hx))).trans (hs x hx)⟩
section
variable {w0 w w' : World} {os : List Ob} {i : Nat} {K K' : Kind}
open Classical in
/-- An object at place i: its blocks, and that it may change in them and in new ones. -/
theorem OMem.change (h : OMem w0 w os) (hi : os[i]? = some (.of K)) : ∃ B S, K.Q w B S ∧ ∀ {w' : World} {K' : Kind} {B' S' : Nat → Prop}, w'.os = w.os → w'.tape = w.tape → w'.output = w.output → w.heap.size ≤ w'.heap.size →
    (∀ x, x < w.heap.size → ¬ B x → w'.heap[x]? = w.heap[x]?) → K'.Q w' B' S' → (∀ x, B' x → B x ∨ w.heap.size ≤ x) → (∀ x, S' x → S x ∨ x < w0.heap.size ∨ w.heap.size ≤ x ∧ ¬ B' x) → OMem w0 w' (os.set i (.of K')) := by
  obtain ⟨lab, h⟩ := h
  obtain ⟨B, S, hq, hl, hs0⟩ := h.at_ i _ hi
  refine ⟨B, S, hq, fun {w' K' B' S'} hos ht ho hs hb hq' hB hS => ?_⟩
  let lab' : Nat → Nat := fun x => if x < w.heap.size then lab x else if B' x then 64 * (i + 1) else 0
  have old : ∀ x, x < w.heap.size → lab' x = lab x := fun x hx => if_pos hx
  have hz := h.und.below.size
  refine ⟨lab', h.set ⟨B', S', hq', fun x hx => ?_, fun x hx => ?_⟩ (fun x hx => ?_) ⟨hos, ht, ho, hs, old, fun x hx hz => hb x hx fun hB => by have := hl x hB; omega, fun x hx => ?_⟩⟩
  · by_cases hx' : x < w.heap.size
    · rw [old x hx']
      rcases hB x hx with q | q
      · exact hl x q
      · omega
    · show (if x < w.heap.size then lab x else if B' x then 64 * (i + 1) else 0) = _
      rw [if_neg hx', if_pos hx]
  · rcases hS x hx with q | q | q
    · rw [old x (K.lt hq x (.inr q))]; exact hs0 x q
    · rw [old x (by omega)]; exact h.und.labs x q
    · show (if x < w.heap.size then lab x else if B' x then 64 * (i + 1) else 0) = _
      rw [if_neg (by omega), if_neg q.2]
  · show (if x < w.heap.size then lab x else if B' x then 64 * (i + 1) else 0) = _
    rw [if_neg (by omega), if_neg (fun q => by have := K'.lt hq' x (.inl q); omega)]
  · show (if x < w.heap.size then lab x else if B' x then 64 * (i + 1) else 0) = 0 ∨ _ ≤ (if x < w.heap.size then lab x else if B' x then 64 * (i + 1) else 0) ∧ (if x < w.heap.size then lab x else if B' x then 64 * (i + 1) else 0) < _
    rw [if_neg (by omega)]
    split <;> omega
open Classical in
/-- An object in new blocks, and in blocks that stay as they are. -/
theorem OMemL.make {lab : Nat → Nat} (h : OMemL w0 w lab os) (hb : Below w.heap.size w w') {B S : Nat → Prop} (hq : K.Q w' B S) (hn : ∀ x, B x → w.heap.size ≤ x) (hS : ∀ x, S x → x < w.heap.size ∧ lab x = 0 ∨ w.heap.size ≤ x ∧ ¬ B x) : OMem w0 w' (os ++ [.of K]) := by
  have hs := hb.size
  let lab' : Nat → Nat := fun x => if x < w.heap.size then lab x else if B x then 64 * (os.length + 1) else 0
  have old : ∀ x, x < w.heap.size → lab' x = lab x := fun x hx => if_pos hx
  refine ⟨lab', h.push ⟨B, S, hq, fun x hx => ?_, fun x hx => ?_⟩ (fun x hx => ?_) ⟨hb.os, hb.tape, hb.output, hb.size, old, fun x hx _ => hb.block x hx, fun x hx => ?_⟩⟩
  · have := hn x hx
    show (if x < w.heap.size then lab x else if B x then 64 * (os.length + 1) else 0) = _
    rw [if_neg (by omega), if_pos hx]
  · rcases hS x hx with q | q
    · rw [old x q.1]; exact q.2
    · show (if x < w.heap.size then lab x else if B x then 64 * (os.length + 1) else 0) = _
      rw [if_neg (by omega), if_neg q.2]
  · show (if x < w.heap.size then lab x else if B x then 64 * (os.length + 1) else 0) = _
    rw [if_neg (by omega), if_neg (fun q => by have := K.lt hq x (.inl q); omega)]
  · show (if x < w.heap.size then lab x else if B x then 64 * (os.length + 1) else 0) = 0 ∨ _ ≤ (if x < w.heap.size then lab x else if B x then 64 * (os.length + 1) else 0) ∧ (if x < w.heap.size then lab x else if B x then 64 * (os.length + 1) else 0) < _
    rw [if_neg (by omega)]
    split <;> omega
/-- An object in new blocks. -/
theorem OMem.make (h : OMem w0 w os) (hb : Below w.heap.size w w') {B S : Nat → Prop} (hq : K.Q w' B S) (hn : ∀ x, B x → w.heap.size ≤ x) (hS : ∀ x, S x → x < w0.heap.size ∨ w.heap.size ≤ x ∧ ¬ B x) : OMem w0 w' (os ++ [.of K]) := by
  obtain ⟨lab, h⟩ := h
  have hz := h.und.below.size
  exact h.make hb hq hn fun x hx => (hS x hx).imp_left fun q => ⟨by omega, h.und.labs x q⟩
/-- An object in new blocks, and in those of another one that stay as they are. -/
theorem OMem.makeOf (h : OMem w0 w os) (hi : os[i]? = some (.of K)) : ∃ B S, K.Q w B S ∧ ∀ {w' : World} {K' : Kind} {B' S' : Nat → Prop}, Below w.heap.size w w' → K'.Q w' B' S' → (∀ x, B' x → w.heap.size ≤ x) →
    (∀ x, S' x → S x ∨ x < w0.heap.size ∨ w.heap.size ≤ x ∧ ¬ B' x) → OMem w0 w' (os ++ [.of K']) := by
  obtain ⟨lab, h⟩ := h
  obtain ⟨B, S, hq, hl, hs0⟩ := h.at_ i _ hi
  have hz := h.und.below.size
  refine ⟨B, S, hq, fun {w' K' B' S'} hb hq' hn hS => h.make hb hq' hn fun x hx => ?_⟩
  rcases hS x hx with q | q | q
  · exact .inl ⟨K.lt hq x (.inr q), hs0 x q⟩
  · exact .inl ⟨by omega, h.und.labs x q⟩
  · exact .inr q
/-- What is asked of one object alone, of blocks that stay as they are behind a call on another one. -/
theorem OMem.look (h : OMem w0 w os) (hi : os[i]? = some (.of K)) : ∃ B S, K.Q w B S := by
  obtain ⟨B, S, hq, _⟩ := h.change hi; exact ⟨B, S, hq⟩
end

/-! ### Rows: a store, lists of elements with two cells -/
theorem own_set {w : World} {g n c : Nat} {e : TypeId} {size : Nat} {xs : List Value} (h : w.ownsRow 0 e size (.slice (some ⟨g, 0, none⟩) n c) n xs) (j : Nat) (y : Value) : (w.setCell ⟨g, j, none⟩ y).ownsRow 0 e size (.slice (some ⟨g, 0, none⟩) n c) n (xs.set j y) := by
  refine ⟨by rw [List.length_set]; exact h.1, .inr ?_⟩
  rcases h.2 with ⟨h1, _⟩ | ⟨g', cap, cur, h1, h2, h3, h4, h5, h6, h7⟩
  · cases h1
  · cases h1
    refine ⟨g, c, cur.setIfInBounds j y, rfl, h2, set_heap h3 y, h4, h5, by simp [h6], ?_⟩
    rw [Array.toList_setIfInBounds, List.take_set, h7]
theorem own_at {w : World} {g n c : Nat} {e : TypeId} {size : Nat} {xs : List Value} (h : w.ownsRow 0 e size (.slice (some ⟨g, 0, none⟩) n c) n xs) {j : Nat} {y : Value} (hj : xs[j]? = some y) : w.cell? ⟨g, j, none⟩ = some y := by
  have := h.cells rfl j y hj
  rw [Lib.add_plain, Nat.zero_add] at this
  exact this
theorem own_fz {w : World} {g n c : Nat} {e : TypeId} {size : Nat} {xs : List Value} (h : w.ownsRow 0 e size (.slice (some ⟨g, 0, none⟩) n c) n xs) (j : Nat) : w.frozen? ⟨g, j, none⟩ = false := by
  rcases h.2 with ⟨h1, _⟩ | ⟨g', cap, cur, h1, h2, h3, h4⟩
  · cases h1
  · cases h1; exact Lib.frozen_of_heap h3 j
theorem own_some {w : World} {v : Value} {n : Nat} {e : TypeId} {size : Nat} {xs : List Value} (h : w.ownsRow 0 e size v n xs) (hn : 0 < n) : ∃ g c, v = .slice (some ⟨g, 0, none⟩) n c := by
  rcases h.2 with ⟨_, h1⟩ | ⟨g, cap, cur, h1, _⟩
  · omega
  · exact ⟨g, cap, h1⟩

/-! ### A block of the call's own -/
def rawK (b : Nat) (o : Obj) : Kind where
  Q w B S := w.heap[b]? = some o ∧ (∀ x, B x ↔ x = b) ∧ ∀ x, ¬ S x
  lt := fun ⟨h, hB, hS⟩ x hx => by
    rcases hx with hx | hx
    · rw [(hB x).1 hx]; exact lt_heap h
    · exact (hS x hx).elim
  kept := fun ⟨h, hB, hS⟩ hb => ⟨(hb _ (.inl ((hB _).2 rfl))).trans h, hB, hS⟩
def Ob.raw (b : Nat) (o : Obj) : Ob := .of (rawK b o)
section
variable {w0 w : World} {os : List Ob} {i b : Nat} {o : Obj} {cs : Array Value} {e : TypeId}
theorem OMem.raw (h : OMem w0 w os) (o : Obj) : OMem w0 (w.alloc o) (os ++ [.raw w.heap.size o]) :=
  h.make ((Below.refl _ _).alloc (Nat.le_refl _) _) (K := rawK w.heap.size o) (B := (· = w.heap.size)) (S := fun _ => False) ⟨(MapKept.heap_alloc w o).1, fun _ => Iff.rfl, fun _ => id⟩ (fun _ hx => Nat.le_of_eq hx.symm) fun _ h => h.elim
theorem OMem.two (h : OMem w0 w os) (o o' : Obj) : OMem w0 ((w.alloc o).alloc o') (os ++ [.raw w.heap.size o, .raw (w.heap.size + 1) o']) := by
  have h1 := (h.raw o).raw o'
  have hs : (w.alloc o).heap.size = w.heap.size + 1 := by simp
  rw [List.append_assoc, hs] at h1
  exact h1
theorem OMem.raw_at (h : OMem w0 w os) (hi : os[i]? = some (.raw b o)) : w.heap[b]? = some o := by
  obtain ⟨_, _, hq, _⟩ := h.change hi; exact hq.1
theorem OMem.raw_set (h : OMem w0 w os) (hi : os[i]? = some (.raw b (.cells cs e (0, 0)))) (j : Nat) (v : Value) : OMem w0 (w.setCell ⟨b, j, none⟩ v) (os.set i (.raw b (.cells (cs.setIfInBounds j v) e (0, 0)))) := by
  obtain ⟨B, S, hq, hch⟩ := h.change hi
  exact hch rfl rfl rfl (by rw [set_size]; exact Nat.le_refl _) (fun x _ hn => set_other fun e => hn ((hq.2.1 x).2 e)) (K' := rawK b (.cells (cs.setIfInBounds j v) e (0, 0))) (B' := (· = b)) (S' := fun _ => False) ⟨set_heap hq.1 v, fun _ => Iff.rfl, fun _ => id⟩ (fun x hx => .inl ((hq.2.1 x).2 hx)) fun _ h => h.elim
theorem raw_last {os : List Ob} {x y z : Ob} : (os ++ [x, y]).set (os.length + 1) z = os ++ [x, z] := by simp
theorem get_last {os : List Ob} {x y : Ob} : (os ++ [x, y])[os.length + 1]? = some y := by simp
/-- The list with an object changed, and two more behind it. -/
theorem set_two {os : List Ob} {a x y z : Ob} (hi : os[i]? = some z) : (os ++ [x, y]).set i a = os.set i a ++ [x, y] := List.set_append_left _ _ (List.getElem?_eq_some_iff.1 hi).1
theorem get_two {os : List Ob} {x y z : Ob} (hi : os[i]? = some z) : (os ++ [x, y])[i]? = some z := by rw [List.getElem?_append_left (List.getElem?_eq_some_iff.1 hi).1]; exact hi
theorem OMem.drop_two {x y : Ob} (h : OMem w0 w (os ++ [x, y])) : OMem w0 w os := by have := h.take os.length; rwa [List.take_left] at this
end

/-! ### A slice of the call's own, of elements of any size -/
def rowK (e : TypeId) (size : Nat) (v : Value) (n : Nat) (xs : List Value) : Kind where
  Q w B S := w.ownsRow 0 e size v n xs ∧ (∀ x, B x ↔ v.ownBlock = some x) ∧ ∀ x, ¬ S x
  lt := fun ⟨h, hB, hS⟩ x hx => hx.elim (fun q => (h.lt x ((hB x).1 q)).2) fun q => (hS x q).elim
  kept := fun ⟨h, hB, hS⟩ hb => ⟨ownsRow_block h fun x hx => hb x (.inl ((hB x).2 hx)), hB, hS⟩
def Ob.row (e : TypeId) (size : Nat) (v : Value) (n : Nat) (xs : List Value) : Ob := .of (rowK e size v n xs)
section
variable {w0 w w' : World} {os : List Ob} {i n n' size : Nat} {e : TypeId} {v v' : Value} {xs xs' : List Value}
theorem OMem.rowNil (h : OMem w0 w os) (e : TypeId) (size : Nat) : OMem w0 w (os ++ [.row e size (.slice none 0 0) 0 []]) :=
  h.make (Below.refl _ _) (K := rowK e size (.slice none 0 0) 0 []) (B := fun x => (Value.slice none 0 0).ownBlock = some x) (S := fun _ => False) ⟨World.ownsRow_nil _ _ _ _, fun _ => Iff.rfl, fun _ => id⟩ (fun _ hx => (by cases hx)) fun _ h => h.elim
theorem OMem.rowAt (h : OMem w0 w os) (hi : os[i]? = some (.row e size v n xs)) : w.ownsRow 0 e size v n xs := by
  obtain ⟨_, _, hq, _⟩ := h.change hi; exact hq.1
theorem OMem.rowGrow (h : OMem w0 w os) (hi : os[i]? = some (.row e size v n xs)) (hg : w.grownBy w' v.ownBlock) (ho : w'.ownsRow 0 e size v' n' xs') (hat : v'.ownBlock = v.ownBlock ∨ v'.ownBlock = some w.heap.size) : OMem w0 w' (os.set i (.row e size v' n' xs')) := by
  obtain ⟨B, S, hq, hch⟩ := h.change hi
  refine hch hg.os hg.tape hg.output hg.size (fun x hx hn => hg.block x hx fun q => hn ((hq.2.1 x).2 q.symm)) (K' := rowK e size v' n' xs') (B' := fun x => v'.ownBlock = some x) (S' := fun _ => False) ⟨ho, fun _ => Iff.rfl, fun _ => id⟩ (fun x hx => ?_) fun _ h => h.elim
  rcases hat with q | q
  · exact .inl ((hq.2.1 x).2 (q.symm.trans hx))
  · have := q.symm.trans hx; simp at this; exact .inr (by omega)
end
section
variable {w0 w w' : World} {os : List Ob} {i n n' g c size : Nat} {e : TypeId} {v v' : Value} {xs xs' : List Value}
/-- A slice that was just made. -/
theorem OMem.rowMade (h : OMem w0 w os) (hg : w.grownBy w' none) (ho : w'.ownsRow 0 e size (.slice (some ⟨w.heap.size, 0, none⟩) n c) n xs) : OMem w0 w' (os ++ [.row e size (.slice (some ⟨w.heap.size, 0, none⟩) n c) n xs]) :=
  h.make ⟨hg.os, hg.tape, hg.output, hg.size, fun x hx => hg.block x hx (by simp)⟩ (K := rowK e size (.slice (some ⟨w.heap.size, 0, none⟩) n c) n xs) (B := fun x => (Value.slice (some ⟨w.heap.size, 0, none⟩) n c).ownBlock = some x) (S := fun _ => False) ⟨ho, fun _ => Iff.rfl, fun _ => id⟩ (fun x hx => Nat.le_of_eq (by simpa [Value.ownBlock] using hx)) fun _ h => h.elim
/-- A store into a slice. -/
theorem OMem.rowSet (h : OMem w0 w os) (hi : os[i]? = some (.row e size (.slice (some ⟨g, 0, none⟩) n c) n xs)) (j : Nat) (y : Value) : OMem w0 (w.setCell ⟨g, j, none⟩ y) (os.set i (.row e size (.slice (some ⟨g, 0, none⟩) n c) n (xs.set j y))) := by
  obtain ⟨B, S, hq, hch⟩ := h.change hi
  refine hch rfl rfl rfl (by rw [set_size]; exact Nat.le_refl _) (fun x _ hn => set_other fun e => hn ((hq.2.1 x).2 (by rw [e]; rfl))) (K' := rowK e size (.slice (some ⟨g, 0, none⟩) n c) n (xs.set j y)) (B' := B) (S' := S) ⟨own_set hq.1 j y, hq.2⟩ (fun x hx => .inl hx) fun x hx => .inl hx
end
end Go.Proofs.YtlefgffnjcmfoaaGreatDoor
namespace Go.Proofs.YtlefgffnjcmfoaaGreatDoor
open Go.RowKit Go.Maps Go.ChangeMaps Go.MapKept
def bs (l : List UInt8) : ByteArray := ⟨l.toArray⟩
theorem bs_size (l : List UInt8) : (bs l).size = l.length := by rw [Lib.size_eq]; rfl
theorem bs_list (l : List UInt8) : (bs l).data.toList = l := rfl
theorem bs_toList (l : List UInt8) : (bs l).toList = l := Lib.toList_data _
theorem bs_of (s : ByteArray) : bs s.data.toList = s := Lib.mk_data s
theorem bs_extract (l : List UInt8) (a b : Nat) : (bs l).extract a b = bs ((l.drop a).take (b - a)) := Lib.extract_eq _ a b
theorem bs_append (a b : List UInt8) : bs a ++ bs b = bs (a ++ b) := ByteArray.mk_append_mk a b
theorem bs_inj {a b : List UInt8} (h : bs a = bs b) : a = b := by have := congrArg ByteArray.toList h; rwa [bs_toList, bs_toList] at this
theorem bs_get {l : List UInt8} {k : Nat} {c : UInt8} (h : l[k]? = some c) : ∃ h : k < (bs l).size, (bs l)[k]'h = c := by
  obtain ⟨h1, h2⟩ := List.getElem?_eq_some_iff.1 h
  exact ⟨by rw [bs_size]; exact h1, by rw [← h2]; rfl⟩
theorem ret_string {a b : ByteArray} (h : a = b) : Ending.returned (.string a) = .returned (.string b) := by rw [h]
theorem empty_yes : (bs ([] : List UInt8)).toList.isEmpty = true := by rw [bs_toList]; rfl
theorem empty_no {t : List UInt8} (h : t ≠ []) : (bs t).toList.isEmpty = false := by
  rw [bs_toList]; cases t with
  | nil => exact (h rfl).elim
  | cons x y => rfl
theorem str_ne {a b : List UInt8} (h : a ≠ b) : ((bs a).toList == (bs b).toList) = false := by
  rw [bs_toList, bs_toList]; exact beq_eq_false_iff_ne.2 h
theorem byte_eq {a b : UInt8} (h : a.toNat = b.toNat) : a = b := UInt8.toNat_inj.1 h
theorem drewN_below (w : World) (n : Nat) : Below w.heap.size w (w.drewN n) := ⟨rfl, rfl, rfl, Nat.le_refl _, fun _ _ => rfl⟩
theorem below_grown {w w1 w' : World} {row : Option Nat} (hb : Below w.heap.size w w1) (hg : w1.grownBy w' row) (hr : ∀ x, row = some x → w.heap.size ≤ x) : Below w.heap.size w w' :=
  ⟨hg.os.trans hb.os, hg.tape.trans hb.tape, hg.output.trans hb.output, Nat.le_trans hb.size hg.size, fun x hx => by
    have hs := hb.size
    rw [hg.block x (by omega) (fun e => by have := hr x e.symm; omega), hb.block x hx]⟩
end Go.Proofs.YtlefgffnjcmfoaaGreatDoor
namespace Go.Proofs.YtlefgffnjcmfoaaGreatDoor
open Go.RowKit Go.Maps Go.ChangeMaps Go.MapKept
open Lx
def tkVs : List Tk → List Value
  | [] => []
  | p :: l => .int .i64 p.kind :: .string (bs p.text) :: .int .i64 p.n :: .int .i64 p.pos :: tkVs l
theorem tkVs_length (l : List Tk) : (tkVs l).length = l.length * 4 := by
  induction l with
  | nil => rfl
  | cons a l ih => simp [tkVs, ih]; omega
theorem tkVs_app (l m : List Tk) : tkVs (l ++ m) = tkVs l ++ tkVs m := by
  induction l with
  | nil => rfl
  | cons a l ih => simp [tkVs, ih]
theorem tk_at {l : List Tk} {k : Nat} {p : Tk} (h : l[k]? = some p) : (tkVs l)[k * 4]? = some (.int .i64 p.kind) ∧ (tkVs l)[k * 4 + 1]? = some (.string (bs p.text)) ∧ (tkVs l)[k * 4 + 2]? = some (.int .i64 p.n) ∧ (tkVs l)[k * 4 + 3]? = some (.int .i64 p.pos) := by
  induction l generalizing k with
  | nil => simp at h
  | cons a l ih =>
    cases k with
    | zero => simp at h; subst h; exact ⟨rfl, rfl, rfl, rfl⟩
    | succ k =>
      have := ih (k := k) (by simpa using h)
      rw [show (k + 1) * 4 = k * 4 + 1 + 1 + 1 + 1 by omega]
      simpa [tkVs] using this
theorem tk_one (l : List Tk) : ∀ u ∈ tkVs l, u.oneCell' = true := by
  induction l with
  | nil => intro u hu; cases hu
  | cons a l ih =>
    intro u hu
    simp only [tkVs, List.mem_cons] at hu
    rcases hu with rfl | rfl | rfl | rfl | hu
    · rfl
    · rfl
    · rfl
    · rfl
    · exact ih u hu
/-- Where a token lies. -/
def TkCells (w : World) (b o : Nat) (p : Tk) : Prop := w.cell? ⟨b, o, none⟩ = some (.int .i64 p.kind) ∧ w.cell? ⟨b, o + 1, none⟩ = some (.string (bs p.text)) ∧ w.cell? ⟨b, o + 2, none⟩ = some (.int .i64 p.n) ∧ w.cell? ⟨b, o + 3, none⟩ = some (.int .i64 p.pos)
/-- A slice of tokens that is read. -/
def TkAt (w : World) (v : Value) (l : List Tk) : Prop := ∃ a cap, v = .slice a l.length cap ∧ (l.length ≤ cap ∧ (a = none → cap = 0)) ∧ ∀ (k : Nat) (p : Tk), l[k]? = some p → ∃ b off, a = some ⟨b, off, none⟩ ∧ TkCells w b (off + k * 4) p
theorem TkAt.keep {w w' : World} {v : Value} {l : List Tk} (h : TkAt w v l) (hb : Below w.heap.size w w') : TkAt w' v l := by
  obtain ⟨a, cap, hv, hl, hc⟩ := h
  refine ⟨a, cap, hv, hl, fun k o hk => ?_⟩
  obtain ⟨b, off, h1, c0, c1, c2, c3⟩ := hc k o hk
  exact ⟨b, off, h1, below_cell c0 hb, below_cell c1 hb, below_cell c2 hb, below_cell c3 hb⟩
theorem TkAt.nil (w : World) : TkAt w (.slice none 0 0) [] := ⟨none, 0, rfl, ⟨Nat.le_refl _, fun _ => rfl⟩, fun k u hk => by simp at hk⟩
theorem TkAt.of_own {w : World} {base : Nat} {e : TypeId} {v : Value} {n : Nat} {l : List Tk} (h : w.ownsRow base e 4 v n (tkVs l)) : TkAt w v l := by
  have hn : n = l.length := by have := h.1; rw [tkVs_length] at this; omega
  subst hn
  rcases h.2 with ⟨rfl, h0⟩ | ⟨g, cap, cur, rfl, _, _, hcap, _⟩
  · have : l = [] := List.eq_nil_of_length_eq_zero h0
    subst this
    exact TkAt.nil w
  · refine ⟨_, cap, rfl, ⟨hcap, fun e => by cases e⟩, fun k p hk => ⟨g, 0, rfl, ?_⟩⟩
    have h0 := h.cells rfl _ _ (tk_at hk).1
    have h1 := h.cells rfl _ _ (tk_at hk).2.1
    have h2 := h.cells rfl _ _ (tk_at hk).2.2.1
    have h3 := h.cells rfl _ _ (tk_at hk).2.2.2
    rw [Lib.add_plain] at h0 h1 h2 h3
    exact ⟨h0, h1, h2, h3⟩
theorem TkAt.slice {w : World} {v : Value} {l : List Tk} (h : TkAt w v l) : ∃ a c, v = .slice a l.length c := by obtain ⟨a, c, hv, _⟩ := h; exact ⟨a, c, hv⟩
/-- A slice that is not empty. -/
theorem TkAt.form {w : World} {v : Value} {l : List Tk} (h : TkAt w v l) (h0 : 0 < l.length) : ∃ b off cap, v = .slice (some ⟨b, off, none⟩) l.length cap ∧ l.length ≤ cap ∧ ∀ (k : Nat) (p : Tk), l[k]? = some p → TkCells w b (off + k * 4) p := by
  obtain ⟨a, cap, hv, hl, hc⟩ := h
  obtain ⟨b, off, rfl, _⟩ := hc 0 _ (List.getElem?_eq_getElem h0)
  refine ⟨b, off, cap, hv, hl.1, fun k p hk => ?_⟩
  obtain ⟨b', off', h1, h2⟩ := hc k p hk
  cases h1
  exact h2
theorem token_info : (Tryz.prog.info? 42).map (fun i => (i.zero, i.size, i.bytes)) = some (some (.agg #[.int .i64 0, .string ⟨#[]⟩, .int .i64 0, .int .i64 0]), 4, 40) := by kernel_rfl
theorem run_pushK (w : World) (v u : Value) (ks ps : List Tk) (hown : w.ownsRow 0 42 4 v ks.length (tkVs ks)) (hu : TkAt w u ps) (hn : ks.length + ps.length ≤ 100000) :
    ∃ a c w', (Builtin.append_ #[35, 35] 35 #[v, u]).run Tryz.prog w = .ok (.slice a (ks.length + ps.length) c) w' ∧ w'.ownsRow 0 42 4 (.slice a (ks.length + ps.length) c) (ks.length + ps.length) (tkVs (ks ++ ps)) ∧ w.grownBy w' v.ownBlock ∧
      ((Value.slice a (ks.length + ps.length) c).ownBlock = v.ownBlock ∨ (Value.slice a (ks.length + ps.length) c).ownBlock = some w.heap.size) := by
  obtain ⟨i0, hi, hz0, hz1, hz2⟩ := info_parts token_info
  by_cases h0 : ps.length = 0
  · obtain rfl := List.eq_nil_of_length_eq_zero h0
    obtain ⟨a, cap, rfl, ⟨_, hn0⟩, _⟩ := hu
    cases a with
    | none =>
      obtain rfl := hn0 rfl
      have hr := run_append_owned_none (P := Tryz.prog) (w := w) 0 35 35 42 i0 4 Tryz.underlying35 hi v ks.length _ hown
      obtain ⟨a', c', hv⟩ := own_form hown
      subst hv
      rw [List.append_nil]
      exact ⟨a', c', w, hr, hown, ⟨rfl, rfl, rfl, Nat.le_refl _, fun _ _ _ => rfl⟩, .inl rfl⟩
    | some x =>
      obtain ⟨v', w', r1, r2, r3, _, r5⟩ := run_append_own_at (P := Tryz.prog) w 0 35 35 42 i0 (.agg #[.int .i64 0, .string ⟨#[]⟩, .int .i64 0, .int .i64 0]) 4 40 Tryz.underlying35 hi hz0 hz1 hz2 rfl (by decide) v ks.length _ hown x 0 cap [] rfl (fun j u hj => by simp at hj) (fun u hu => by cases hu) (by unfold maxLen; omega) (by omega) (Nat.zero_le _)
      rw [List.append_nil] at r2 ⊢
      obtain ⟨a', c', hv⟩ := own_form r2
      subst hv
      exact ⟨a', c', w', r1, r2, r3, r5⟩
  · obtain ⟨b, off, cap, rfl, hl, hc⟩ := hu.form (by omega)
    have hcell : ∀ j u, (tkVs ps)[j]? = some u → w.cell? ((⟨b, off, none⟩ : Addr).add j) = some u := by
      intro j u hj
      have hj2 : j < ps.length * 4 := by have := (List.getElem?_eq_some_iff.1 hj).1; rwa [tkVs_length] at this
      have hk : j / 4 < ps.length := by omega
      have hp := List.getElem?_eq_getElem hk
      have h1 := tk_at hp
      have h2 := hc _ _ hp
      rw [Lib.add_plain]
      have hm : j = j / 4 * 4 ∨ j = j / 4 * 4 + 1 ∨ j = j / 4 * 4 + 2 ∨ j = j / 4 * 4 + 3 := by omega
      rcases hm with hm | hm | hm | hm
      · rw [hm] at hj ⊢
        rw [h1.1] at hj; cases hj
        exact h2.1
      · rw [hm] at hj ⊢
        rw [h1.2.1] at hj; cases hj
        exact h2.2.1
      · rw [hm] at hj ⊢
        rw [h1.2.2.1] at hj; cases hj
        exact h2.2.2.1
      · rw [hm] at hj ⊢
        rw [h1.2.2.2] at hj; cases hj
        exact h2.2.2.2
    obtain ⟨v', w', r1, r2, r3, _, r5⟩ := run_append_own_at (P := Tryz.prog) w 0 35 35 42 i0 (.agg #[.int .i64 0, .string ⟨#[]⟩, .int .i64 0, .int .i64 0]) 4 40 Tryz.underlying35 hi hz0 hz1 hz2 rfl (by decide) v ks.length _ hown ⟨b, off, none⟩ ps.length cap (tkVs ps) (tkVs_length _) hcell (tk_one _) (by unfold maxLen; omega) (by omega) (Nat.zero_le _)
    rw [← tkVs_app] at r2
    obtain ⟨a, c, rfl⟩ := own_form r2
    exact ⟨a, c, w', r1, r2, r3, r5⟩
theorem own_token (w : World) (p : Tk) : (w.alloc (.cells #[.int .i64 p.kind, .string (bs p.text), .int .i64 p.n, .int .i64 p.pos] 42)).ownsRow 0 42 4 (.slice (some ⟨w.heap.size, 0, none⟩) 1 1) 1 (tkVs [p]) :=
  World.ownsRow_lit w #[.int .i64 p.kind, .string (bs p.text), .int .i64 p.n, .int .i64 p.pos] 1 (Nat.zero_le _) (by decide) rfl
theorem tks_lit (w : World) (l : List Tk) (hl : l.length ≤ 100) : TkAt (w.alloc (.cells (tkVs l).toArray 42)) (.slice (some ⟨w.heap.size, 0, none⟩) l.length l.length) l :=
  TkAt.of_own (World.ownsRow_lit (e := 42) (size := 4) (base := 0) w (tkVs l).toArray l.length (Nat.zero_le _) (by unfold maxLen; omega) (by simp [tkVs_length]))
section
variable {w0 w : World} {os : List Ob} {i : Nat} {v : Value} {ks : List Tk}
theorem OMem.pushK (h : OMem w0 w os) (hi : os[i]? = some (.row 42 4 v ks.length (tkVs ks))) (p : Tk) (hn : ks.length ≤ 5000) :
    ∃ a c w', (Builtin.append_ #[35, 35] 35 #[v, .slice (some ⟨w.heap.size, 0, none⟩) 1 1]).run Tryz.prog (w.alloc (.cells #[.int .i64 p.kind, .string (bs p.text), .int .i64 p.n, .int .i64 p.pos] 42)) = .ok (.slice a (ks.length + 1) c) w' ∧
      OMem w0 w' (os.set i (.row 42 4 (.slice a (ks.length + 1) c) (ks.length + 1) (tkVs (ks ++ [p])))) := by
  have hb2 := (Below.refl w.heap.size w).alloc (Nat.le_refl _) (.cells #[.int .i64 p.kind, .string (bs p.text), .int .i64 p.n, .int .i64 p.pos] 42)
  have h2 := h.fresh hb2
  obtain ⟨a, c, w', r1, r2, r3, r4⟩ := run_pushK _ v _ ks [p] (h2.rowAt hi) (TkAt.of_own (own_token w p)) (by simp; omega)
  have e : ks.length + [p].length = ks.length + 1 := by simp
  rw [e] at r1 r2 r4
  exact ⟨a, c, w', r1, h2.rowGrow hi r3 r2 r4⟩
end
end Go.Proofs.YtlefgffnjcmfoaaGreatDoor
namespace Go.Proofs.YtlefgffnjcmfoaaGreatDoor
open Go.RowKit Go.Maps Go.ChangeMaps Go.MapKept
open Lx
attribute [local go_sem ↓] Go.wp_at_zero Go.wp_at_succ
theorem letter_n (c : UInt8) {b : Bool} (h : decide (97 ≤ c.toNat ∧ c.toNat ≤ 122) = b) : letter c = b := h
theorem digit_n (c : UInt8) {b : Bool} (h : decide (48 ≤ c.toNat ∧ c.toNat ≤ 57) = b) : digit c = b := h
section
variable {w : World}
set_option maxHeartbeats 1000000 in
set_option maxRecDepth 100000 in
theorem q_letter {c : UInt8} : Calls Tryz.prog 60 #[.int .u8 (c.toNat : Int)] w fun e w' => e = .returned (.bool (letter c)) ∧ w = w' := by
  by_cases h1 : c.toNat < 97
  · have HR := Lib.hid (letter_n c (decide_eq_false (by omega)))
    generalize c.toNat = n at h1 ⊢
    have h1' : ¬ (97 : Int) ≤ (n : Int) := by omega
    go_enter Tryz.func60, Tryz.ntmps60
    go_wp2
    go_ret
    exact ⟨ret_bool HR.out.symm, rfl⟩
  · by_cases h2 : c.toNat ≤ 122
    · have HR := Lib.hid (letter_n c (decide_eq_true (by omega)))
      generalize c.toNat = n at h1 h2 ⊢
      have h1' : (97 : Int) ≤ (n : Int) := by omega
      have h2' : (n : Int) ≤ 122 := by omega
      go_enter Tryz.func60, Tryz.ntmps60
      go_wp2
      go_ret
      exact ⟨ret_bool HR.out.symm, rfl⟩
    · have HR := Lib.hid (letter_n c (decide_eq_false (by omega)))
      generalize c.toNat = n at h1 h2 ⊢
      have h1' : (97 : Int) ≤ (n : Int) := by omega
      have h2' : ¬ (n : Int) ≤ 122 := by omega
      go_enter Tryz.func60, Tryz.ntmps60
      go_wp2
      go_ret
      exact ⟨ret_bool HR.out.symm, rfl⟩
set_option maxHeartbeats 1000000 in
set_option maxRecDepth 100000 in
theorem q_digit {c : UInt8} : Calls Tryz.prog 61 #[.int .u8 (c.toNat : Int)] w fun e w' => e = .returned (.bool (digit c)) ∧ w = w' := by
  by_cases h1 : c.toNat < 48
  · have HR := Lib.hid (digit_n c (decide_eq_false (by omega)))
    generalize c.toNat = n at h1 ⊢
    have h1' : ¬ (48 : Int) ≤ (n : Int) := by omega
    go_enter Tryz.func61, Tryz.ntmps61
    go_wp2
    go_ret
    exact ⟨ret_bool HR.out.symm, rfl⟩
  · by_cases h2 : c.toNat ≤ 57
    · have HR := Lib.hid (digit_n c (decide_eq_true (by omega)))
      generalize c.toNat = n at h1 h2 ⊢
      have h1' : (48 : Int) ≤ (n : Int) := by omega
      have h2' : (n : Int) ≤ 57 := by omega
      go_enter Tryz.func61, Tryz.ntmps61
      go_wp2
      go_ret
      exact ⟨ret_bool HR.out.symm, rfl⟩
    · have HR := Lib.hid (digit_n c (decide_eq_false (by omega)))
      generalize c.toNat = n at h1 h2 ⊢
      have h1' : (48 : Int) ≤ (n : Int) := by omega
      have h2' : ¬ (n : Int) ≤ 57 := by omega
      go_enter Tryz.func61, Tryz.ntmps61
      go_wp2
      go_ret
      exact ⟨ret_bool HR.out.symm, rfl⟩
theorem beq_n (c d : UInt8) : ((c.toNat : Int) == (d.toNat : Int)) = (c == d) := by
  rw [Bool.eq_iff_iff, beq_iff_eq, beq_iff_eq]
  constructor
  · intro h; exact byte_eq (by omega)
  · intro h; rw [h]
set_option maxHeartbeats 1000000 in
set_option maxRecDepth 100000 in
theorem q_blank {c : UInt8} : Calls Tryz.prog 49 #[.int .u8 (c.toNat : Int)] w fun e w' => e = .returned (.bool (Lx.blank c)) ∧ w = w' := by
  have e9 : ((c.toNat : Int) == 9) = (c == 9) := beq_n c 9
  have e10 : ((c.toNat : Int) == 10) = (c == 10) := beq_n c 10
  have e32 : ((c.toNat : Int) == 32) = (c == 32) := beq_n c 32
  have HR := Lib.hid (show Lx.blank c = ((c == 9) || (c == 10) || (c == 32)) from rfl)
  generalize (c == 9) = b1 at *
  generalize (c == 10) = b2 at *
  generalize (c == 32) = b3 at *
  cases b1 <;> cases b2 <;> cases b3 <;> (
    go_enter Tryz.func49, Tryz.ntmps49
    go_wp2
    go_ret
    exact ⟨ret_bool HR.out.symm, rfl⟩)
/-! ### Words -/
theorem word_len {s : S} (h : ¬ (1 ≤ s.length ∧ s.length ≤ 20)) : wordOk s = false := by
  cases s with
  | nil => rfl
  | cons c r =>
    unfold wordOk
    rw [decide_eq_false (by simp at h ⊢; omega)]; rfl
theorem word_first {c : UInt8} {r : S} (h : letter c = false) : wordOk (c :: r) = false := by simp [wordOk, h]
theorem word_in {s : S} {i : Nat} {c : UInt8} (hi : 1 ≤ i) (hc : s[i]? = some c) (h : alnum c = false) : wordOk s = false := by
  cases s with
  | nil => rfl
  | cons d r =>
    obtain ⟨j, rfl⟩ : ∃ j, i = j + 1 := ⟨i - 1, by omega⟩
    have hm : c ∈ r := List.mem_of_getElem? (by simpa using hc)
    have : r.all alnum = false := by
      rw [Bool.eq_false_iff]; intro q
      rw [List.all_eq_true.1 q c hm] at h; cases h
    simp [wordOk, this]
theorem word_yes {c : UInt8} {r : S} (h1 : letter c = true) (h2 : (c :: r).length ≤ 20) (h3 : ∀ d ∈ (c :: r).take (c :: r).length, alnum d = true) : wordOk (c :: r) = true := by
  rw [List.take_length] at h3
  simp only [wordOk, Bool.and_eq_true, decide_eq_true_eq, List.all_eq_true]
  exact ⟨h2, h1, fun d hd => h3 d (by simp [hd])⟩
theorem take_all {α : Type} {l : List α} {k : Nat} {a : α} {P : α → Prop} (h : ∀ x ∈ l.take k, P x) (hk : l[k]? = some a) (ha : P a) : ∀ x ∈ l.take (k + 1), P x := by
  intro x hx
  rw [List.take_add_one, hk] at hx
  rcases List.mem_append.1 hx with q | q
  · exact h x q
  · simp at q; subst q; exact ha
set_option maxHeartbeats 4000000 in
set_option maxRecDepth 100000 in
theorem q_word {s : S} (hs : s.length ≤ 100000) : Calls Tryz.prog 36 #[.string (bs s)] w fun e w' => e = .returned (.bool (wordOk s)) ∧ w = w' := by
  have hz := bs_size s
  go_enter Tryz.func36, Tryz.ntmps36
  by_cases h1 : s.length < 1
  · have HR := Lib.hid (word_len (s := s) (by omega))
    have h1' : (s.length : Int) < 1 := by omega
    go_wp2
    go_ret
    exact ⟨ret_bool HR.out.symm, rfl⟩
  · have h1' : ¬ (s.length : Int) < 1 := by omega
    by_cases h2 : 20 < s.length
    · have HR := Lib.hid (word_len (s := s) (by omega))
      have h2' : (20 : Int) < (s.length : Int) := by omega
      go_wp2
      go_ret
      exact ⟨ret_bool HR.out.symm, rfl⟩
    · have h2' : ¬ (20 : Int) < (s.length : Int) := by omega
      obtain ⟨c, r, hcr⟩ : ∃ c r, s = c :: r := by
        cases s with
        | nil => simp at h1
        | cons c r => exact ⟨c, r, rfl⟩
      obtain ⟨i0, g0⟩ := bs_get (l := s) (k := 0) (c := c) (by rw [hcr]; rfl)
      have HL := q_letter (w := w) (c := c)
      have HCR := Lib.hid hcr
      clear hcr
      cases hl : letter c with
      | false =>
        rw [hl] at HL
        have HL := Lib.hid HL
        have HR := Lib.hid (show wordOk s = false by rw [HCR.out]; exact word_first hl)
        clear hl
        go_wp2_with (go_at_call 60; refine (HL.out).mono ?_; rintro e w2 ⟨rfl, rfl⟩; refine Hid.out ?_)
        refine Lib.hid ?_
        go_wp2
        go_ret
        exact ⟨ret_bool HR.out.symm, rfl⟩
      | true =>
        rw [hl] at HL
        have HL := Lib.hid HL
        have HLC := Lib.hid hl
        clear hl
        go_wp2_with (go_at_call 60; refine (HL.out).mono ?_; rintro e w2 ⟨rfl, rfl⟩; refine Hid.out ?_)
        refine Lib.hid ?_
        clear HL g0
        go_wp2
        go_loopw [3] (fun i wr => ∃ k : Nat, 1 ≤ k ∧ k ≤ s.length ∧ i = .int .i64 k ∧ Hid (∀ d ∈ s.take k, alnum d = true) ∧ w = wr) (fun i _ => s.length - (intOf i).toNat)
        case atStart => exact ⟨1, Nat.le_refl _, by omega, rfl, Lib.hid (by rw [HCR.out]; intro d hd; simp at hd; subst hd; unfold alnum; rw [HLC.out]; rfl), rfl⟩
        case round =>
          obtain ⟨k, hk1, hk, rfl, HA, rfl⟩ := hrel
          by_cases hlt : k < s.length
          · obtain ⟨d, hd⟩ : ∃ d, s[k]? = some d := ⟨_, List.getElem?_eq_getElem hlt⟩
            obtain ⟨i1, g1⟩ := bs_get hd
            have HD := Lib.hid hd
            have H1 := q_letter (w := w) (c := d)
            have H2 := q_digit (w := w) (c := d)
            clear hd
            cases hl : letter d with
            | true =>
              rw [hl] at H1
              have H1 := Lib.hid H1
              have HN := Lib.hid (take_all HA.out HD.out (show alnum d = true by unfold alnum; rw [hl]; rfl))
              clear hl H2
              go_wp2_with (go_at_call 60; refine (H1.out).mono ?_; rintro e w2 ⟨rfl, rfl⟩; refine Hid.out ?_)
              refine Lib.hid ?_
              go_wp2
              go_roundw
              case rel => exact ⟨k + 1, by omega, by omega, by go_num, HN, by trivial⟩
              case measure => simp [intOf]; omega
            | false =>
              rw [hl] at H1
              have H1 := Lib.hid H1
              cases hg : digit d with
              | true =>
                rw [hg] at H2
                have H2 := Lib.hid H2
                have HN := Lib.hid (take_all HA.out HD.out (show alnum d = true by unfold alnum; rw [hg, Bool.or_true]))
                clear hl hg
                go_wp2_with (go_at_call 60; refine (H1.out).mono ?_; rintro e w2 ⟨rfl, rfl⟩; refine Hid.out ?_)
                refine Lib.hid ?_
                go_wp2_with (go_at_call 61; refine (H2.out).mono ?_; rintro e w2 ⟨rfl, rfl⟩; refine Hid.out ?_)
                refine Lib.hid ?_
                go_wp2
                go_roundw
                case rel => exact ⟨k + 1, by omega, by omega, by go_num, HN, by trivial⟩
                case measure => simp [intOf]; omega
              | false =>
                rw [hg] at H2
                have H2 := Lib.hid H2
                have HR := Lib.hid (word_in hk1 HD.out (show alnum d = false by unfold alnum; rw [hg, hl]; rfl))
                clear hl hg
                go_wp2_with (go_at_call 60; refine (H1.out).mono ?_; rintro e w2 ⟨rfl, rfl⟩; refine Hid.out ?_)
                refine Lib.hid ?_
                go_wp2_with (go_at_call 61; refine (H2.out).mono ?_; rintro e w2 ⟨rfl, rfl⟩; refine Hid.out ?_)
                refine Lib.hid ?_
                go_wp2
                go_ret
                exact ⟨ret_bool HR.out.symm, rfl⟩
          · obtain rfl : k = s.length := by omega
            have HR := Lib.hid (show wordOk s = true by
              have := HA.out
              rw [HCR.out] at this h2 ⊢
              exact word_yes HLC.out (by omega) this)
            go_wp2
            go_ret
            exact ⟨ret_bool HR.out.symm, rfl⟩
end
end Go.Proofs.YtlefgffnjcmfoaaGreatDoor
namespace Go.Proofs.YtlefgffnjcmfoaaGreatDoor
open Go.RowKit Go.Maps Go.ChangeMaps Go.MapKept
open Lx
attribute [local go_sem ↓] Go.wp_at_zero Go.wp_at_succ
def numRes (s : S) : Int × Bool := if numOk s = true then ((val s : Int), true) else (0, false)
theorem numRes_no {s : S} (h : numOk s = false) : numRes s = (0, false) := by unfold numRes; rw [h]; rfl
theorem numRes_yes {s : S} (h : numOk s = true) : numRes s = ((val s : Int), true) := by unfold numRes; rw [if_pos h]
theorem val_snoc (s : S) (c : UInt8) : val (s ++ [c]) = 10 * val s + (c.toNat - 48) := by simp [val]
theorem fold_ge : ∀ (b : S) (n : Nat), n ≤ b.foldl (fun n c => 10 * n + (c.toNat - 48)) n
  | [], n => Nat.le_refl n
  | c :: b, n => Nat.le_trans (by omega) (fold_ge b (10 * n + (c.toNat - 48)))
theorem val_take (s : S) (k : Nat) : val (s.take k) ≤ val s := by
  conv => rhs; rw [← List.take_append_drop k s]
  unfold val
  rw [List.foldl_append]
  exact fold_ge _ _
theorem num_digit {s : S} {i : Nat} {c : UInt8} (hc : s[i]? = some c) (h : digit c = false) : numOk s = false := by
  have : s.all digit = false := by
    rw [Bool.eq_false_iff]; intro q
    rw [List.all_eq_true.1 q c (List.mem_of_getElem? hc)] at h; cases h
  simp [numOk, this]
theorem num_big {s : S} (h : 1099511627776 < val s) : numOk s = false := by
  unfold numOk; rw [decide_eq_false (show ¬ val s ≤ 1099511627776 by omega), Bool.and_false]
theorem num_nil : numOk [] = false := rfl
theorem num_zero {s : S} (h : 1 < s.length) (h0 : s[0]? = some 48) : numOk s = false := by
  have : s.head? = some 48 := by rw [List.head?_eq_getElem?]; exact h0
  unfold numOk
  rw [decide_eq_false (show ¬ s.length ≤ 1 by omega), this]; simp
theorem num_yes {s : S} (h1 : 1 ≤ s.length) (h2 : ∀ d ∈ s.take s.length, digit d = true) (h3 : s.length ≤ 1 ∨ s[0]? ≠ some 48) (h4 : val s ≤ 1099511627776) : numOk s = true := by
  rw [List.take_length] at h2
  unfold numOk
  simp only [Bool.and_eq_true, Bool.or_eq_true, decide_eq_true_eq, List.all_eq_true]
  refine ⟨⟨⟨?_, h2⟩, h3.imp id fun q => ?_⟩, h4⟩
  · cases s with
    | nil => simp at h1
    | cons c r => rfl
  · rw [List.head?_eq_getElem?]; simpa using q
theorem ret_num {s : S} {a : Int} {b : Bool} (h : numRes s = (a, b)) : Ending.returned (.tuple #[.int .i64 a, .bool b]) = .returned (.tuple #[.int .i64 (numRes s).1, .bool (numRes s).2]) := by rw [h]
section
variable {w : World}
set_option maxHeartbeats 4000000 in
set_option maxRecDepth 100000 in
theorem q_number {s : S} (hs : s.length ≤ 100000) : Calls Tryz.prog 69 #[.string (bs s)] w fun e w' => e = .returned (.tuple #[.int .i64 (numRes s).1, .bool (numRes s).2]) ∧ w = w' := by
  have hz := bs_size s
  go_enter Tryz.func69, Tryz.ntmps69
  go_wp2
  go_loopw [4, 5] (fun n i wr => ∃ k : Nat, k ≤ s.length ∧ i = .int .i64 k ∧ n = .int .i64 (val (s.take k) : Nat) ∧ val (s.take k) ≤ 10995116277769 ∧ Hid (∀ d ∈ s.take k, digit d = true) ∧ w = wr) (fun _ i _ => s.length - (intOf i).toNat)
  case atStart => exact ⟨0, Nat.zero_le _, rfl, rfl, by simp [val], Lib.hid (by simp), rfl⟩
  case round =>
    obtain ⟨k, hk, rfl, rfl, hv, HA, rfl⟩ := hrel
    have hvt := val_take s k
    by_cases hlt : k < s.length
    · obtain ⟨d, hd⟩ : ∃ d, s[k]? = some d := ⟨_, List.getElem?_eq_getElem hlt⟩
      obtain ⟨i1, g1⟩ := bs_get hd
      have HD := Lib.hid hd
      have H2 := q_digit (w := w) (c := d)
      have hsn : val (s.take (k + 1)) = 10 * val (s.take k) + (d.toNat - 48) := by rw [List.take_add_one, hd]; exact val_snoc _ _
      clear hd
      cases hg : digit d with
      | false =>
        rw [hg] at H2
        have H2 := Lib.hid H2
        have HR := Lib.hid (numRes_no (num_digit HD.out hg))
        clear hg hsn hvt
        go_wp2_with (go_at_call 61; refine (H2.out).mono ?_; rintro e w2 ⟨rfl, rfl⟩; refine Hid.out ?_)
        refine Lib.hid ?_
        go_wp2
        go_ret2
        exact ⟨ret_num HR.out, rfl⟩
      | true =>
        rw [hg] at H2
        have H2 := Lib.hid H2
        have hdr := of_decide_eq_true hg
        have HN := Lib.hid (take_all HA.out HD.out hg)
        clear hg
        obtain ⟨m, hm⟩ : ∃ m, val (s.take k) = m := ⟨_, rfl⟩
        rw [hm] at hsn hv hvt ⊢
        have hdi : ((d.toNat : Nat) : Int) ≤ 57 ∧ 48 ≤ ((d.toNat : Nat) : Int) := by omega
        go_wp2_with (go_at_call 61; refine (H2.out).mono ?_; rintro e w2 ⟨rfl, rfl⟩; refine Hid.out ?_)
        refine Lib.hid ?_
        by_cases hb : 1099511627776 < m
        · have HR := Lib.hid (numRes_no (num_big (s := s) (by omega)))
          have hb' : (1099511627776 : Int) < (m : Int) := by omega
          clear hsn
          go_wp2
          go_ret2
          exact ⟨ret_num HR.out, rfl⟩
        · have hb' : ¬ (1099511627776 : Int) < (m : Int) := by omega
          have HSN := Lib.hid (show ((val (s.take (k + 1)) : Nat) : Int) = 10 * (m : Int) + (d.toNat : Int) - 48 by omega)
          have hv2 : val (s.take (k + 1)) ≤ 10995116277769 := by omega
          clear hsn hm
          go_wp2
          go_roundw
          case rel => exact ⟨k + 1, by omega, by go_num, by rw [HSN.out], hv2, HN, by trivial⟩
          case measure => simp [intOf]; omega
    · obtain rfl : k = s.length := by omega
      have hvs : val (s.take s.length) = val s := by rw [List.take_length]
      rw [hvs] at hv ⊢
      clear hvs
      by_cases h1 : s.length < 1
      · have HR := Lib.hid (numRes_no (s := s) (by rw [List.eq_nil_of_length_eq_zero (show s.length = 0 by omega)]; rfl))
        have h1' : (s.length : Int) < 1 := by omega
        go_wp2
        go_ret2
        exact ⟨ret_num HR.out, rfl⟩
      · have h1' : ¬ (s.length : Int) < 1 := by omega
        obtain ⟨d, hd⟩ : ∃ d, s[0]? = some d := ⟨_, List.getElem?_eq_getElem (by omega)⟩
        obtain ⟨i0, g0⟩ := bs_get hd
        have e48 : ((d.toNat : Int) == 48) = (d == 48) := beq_n d 48
        by_cases h2 : 1 < s.length
        · have h2' : (1 : Int) < (s.length : Int) := by omega
          by_cases hd48 : d = 48
          · subst hd48
            have HR := Lib.hid (numRes_no (num_zero h2 hd))
            clear hd
            go_wp2
            go_ret2
            exact ⟨ret_num HR.out, rfl⟩
          · have hf : (d == 48) = false := by simpa using hd48
            rw [hf] at e48
            by_cases hb : 1099511627776 < val s
            · have HR := Lib.hid (numRes_no (num_big hb))
              have hb' : (1099511627776 : Int) < (val s : Int) := by omega
              clear hd
              go_wp2
              go_ret2
              exact ⟨ret_num HR.out, rfl⟩
            · have HR := Lib.hid (numRes_yes (num_yes (by omega) HA.out (.inr (by rw [hd]; intro q; cases q; exact hd48 rfl)) (by omega)))
              have hb' : ¬ (1099511627776 : Int) < (val s : Int) := by omega
              clear hd
              go_wp2
              go_ret2
              exact ⟨ret_num HR.out, rfl⟩
        · have h2' : ¬ (1 : Int) < (s.length : Int) := by omega
          by_cases hb : 1099511627776 < val s
          · have HR := Lib.hid (numRes_no (num_big hb))
            have hb' : (1099511627776 : Int) < (val s : Int) := by omega
            clear hd
            go_wp2
            go_ret2
            exact ⟨ret_num HR.out, rfl⟩
          · have HR := Lib.hid (numRes_yes (num_yes (by omega) HA.out (.inl (by omega)) (by omega)))
            have hb' : ¬ (1099511627776 : Int) < (val s : Int) := by omega
            clear hd
            go_wp2
            go_ret2
            exact ⟨ret_num HR.out, rfl⟩
end
end Go.Proofs.YtlefgffnjcmfoaaGreatDoor
namespace Go.Proofs.YtlefgffnjcmfoaaGreatDoor
open Go.RowKit Go.Maps Go.ChangeMaps Go.MapKept
open Lx
attribute [local go_sem ↓] Go.wp_at_zero Go.wp_at_succ
theorem results_cell_tmp {P : Program} {fn : Func} {p u : Tmp} {ty : TypeId} (h : fn.results = #[.cell p ty, .tmp u]) (tmps : Array Value) (w : World) (g : Nat) (t : TypeId) (cs : Array Value) (fr : Nat × Nat) (d : TypeDesc)
    (hp : tmps.getD p undef = .pointer (some ⟨g, 0, none⟩)) (hg : w.heap[g]? = some (.cells cs t fr))
    (hu : P.underlying ty = some d) (hd : (match d with | .struct _ | .array _ _ => true | _ => false) = true) (hi : (P.info? ty).map (·.size) = some cs.size) :
    (results fn tmps).run P w = .ok (.tuple #[.agg cs, tmps.getD u undef]) w := by
  have hp' : tmps[p]?.getD undef = .pointer (some ⟨g, 0, none⟩) := by simpa using hp
  simp [results, h, hp', asAddr, run_loadVar_row w g t ty cs fr d hg hu hd hi]
def tokRes (s : S) (p : Int) : Tk × Int := match tok s with | .ok (k, w, n) => (⟨k, w, n, p⟩, 0) | .error e => (⟨0, [], 0, 0⟩, e)
theorem tokRes_ok {s w : S} {k n p : Int} (h : tok s = .ok (k, w, n)) : tokRes s p = (⟨k, w, n, p⟩, 0) := by unfold tokRes; rw [h]
theorem tokRes_err {s : S} {e p : Int} (h : tok s = .error e) : tokRes s p = (⟨0, [], 0, 0⟩, e) := by unfold tokRes; rw [h]
def tkV (t : Tk) : Value := .agg #[.int .i64 t.kind, .string (bs t.text), .int .i64 t.n, .int .i64 t.pos]
theorem tw_get {q : UInt8 → Bool} : ∀ {r : S} {i : Nat}, i < (r.takeWhile q).length → ∃ d, r[i]? = some d ∧ q d = true
  | [], i, h => by simp at h
  | c :: r, i, h => by
    by_cases hq : q c = true
    · rw [List.takeWhile_cons_of_pos hq] at h
      cases i with
      | zero => exact ⟨c, rfl, hq⟩
      | succ i => exact tw_get (r := r) (by simpa using h)
    · rw [List.takeWhile_cons_of_neg hq] at h; simp at h
theorem tw_end {q : UInt8 → Bool} : ∀ {r : S} {d : UInt8}, r[(r.takeWhile q).length]? = some d → q d = false
  | [], d, h => by simp at h
  | c :: r, d, h => by
    by_cases hq : q c = true
    · rw [List.takeWhile_cons_of_pos hq] at h
      exact tw_end (r := r) (by simpa using h)
    · rw [List.takeWhile_cons_of_neg hq] at h
      simp at h; subst h; simpa using hq
theorem tw_len {q : UInt8 → Bool} (r : S) : (r.takeWhile q).length ≤ r.length := (List.takeWhile_sublist _).length_le
theorem take_tw {q : UInt8 → Bool} (r : S) : r.take (r.takeWhile q).length = r.takeWhile q := by
  obtain ⟨d, hd, _⟩ := tw_pre (q := q) r
  conv => lhs; rw [hd]
  rw [← hd]
  have : r.take (r.takeWhile q).length = (r.takeWhile q ++ d).take (r.takeWhile q).length := by rw [← hd]
  rw [this]; exact List.take_left
/-- A token's cells that are stored at once. -/
theorem put4 {w0 w : World} {b : Nat} {z : Array Value} {a0 a1 a2 a3 : Value} (h : OMem w0 w [.raw b (.cells #[z.getD 0 undef, z.getD 1 undef, z.getD 2 undef, z.getD 3 undef] 42 (0, 0))]) :
    OMem w0 ((((w.setCell ⟨b, 0, none⟩ a0).setCell ⟨b, 1, none⟩ a1).setCell ⟨b, 2, none⟩ a2).setCell ⟨b, 3, none⟩ a3) [.raw b (.cells #[a0, a1, a2, a3] 42 (0, 0))] :=
  (((h.raw_set (i := 0) rfl 0 a0).raw_set (i := 0) rfl 1 a1).raw_set (i := 0) rfl 2 a2).raw_set (i := 0) rfl 3 a3
end Go.Proofs.YtlefgffnjcmfoaaGreatDoor
namespace Go.Proofs.YtlefgffnjcmfoaaGreatDoor
open Go.RowKit Go.Maps Go.ChangeMaps Go.MapKept
open Lx
attribute [local go_sem ↓] Go.wp_at_zero Go.wp_at_succ
theorem tok_word {c : UInt8} {r : S} {at_ : Int} (h : letter c = true) (h2 : (r.takeWhile alnum).length + 1 ≤ 20) : tokRes (c :: r) at_ = (⟨0, c :: r.takeWhile alnum, 0, at_⟩, 0) := by
  refine tokRes_ok ?_
  rw [tok_cons, if_pos h, if_pos (by simpa using h2)]
theorem tok_long {c : UInt8} {r : S} {at_ : Int} (h : letter c = true) (h2 : ¬ (r.takeWhile alnum).length + 1 ≤ 20) : tokRes (c :: r) at_ = (⟨0, [], 0, 0⟩, 11) := by
  refine tokRes_err ?_
  rw [tok_cons, if_pos h, if_neg (by simpa using h2)]
theorem tok_num {c : UInt8} {r : S} {at_ : Int} (h0 : letter c = false) (h : digit c = true) (h2 : numOk (c :: r.takeWhile digit) = true) : tokRes (c :: r) at_ = (⟨1, c :: r.takeWhile digit, (val (c :: r.takeWhile digit) : Int), at_⟩, 0) := by
  refine tokRes_ok ?_
  rw [tok_cons, if_neg (by simp [h0]), if_pos h, if_pos h2]
theorem tok_bad {c : UInt8} {r : S} {at_ : Int} (h0 : letter c = false) (h : digit c = true) (h2 : numOk (c :: r.takeWhile digit) = false) : tokRes (c :: r) at_ = (⟨0, [], 0, 0⟩, 3) := by
  refine tokRes_err ?_
  rw [tok_cons, if_neg (by simp [h0]), if_pos h, if_neg (by simp [h2])]
theorem tok_sign {r : S} {at_ : Int} : tokRes (59 :: r) at_ = (⟨2, [59], 0, at_⟩, 0) := by
  refine tokRes_ok ?_
  rw [tok_cons, if_neg (by decide), if_neg (by decide), if_pos rfl]
theorem tok_none {c : UInt8} {r : S} {at_ : Int} (h0 : letter c = false) (h : digit c = false) (h2 : c ≠ 59) : tokRes (c :: r) at_ = (⟨0, [], 0, 0⟩, 10) := by
  refine tokRes_err ?_
  rw [tok_cons, if_neg (by simp [h0]), if_neg (by simp [h]), if_neg h2]
theorem ext_tok {s r : S} {c : UInt8} {a n : Nat} {q : UInt8 → Bool} (h : s.drop a = c :: r) (hn : n = (r.takeWhile q).length) : (bs s).extract a (a + 1 + n) = bs (c :: r.takeWhile q) := by
  rw [bs_extract, h, show a + 1 + n - a = n + 1 by omega, List.take_succ_cons, hn, take_tw]
theorem drop_get {s r : S} {c d : UInt8} {a i : Nat} (h : s.drop a = c :: r) (hd : r[i]? = some d) : s[a + 1 + i]? = some d := by
  have : (s.drop a)[i + 1]? = some d := by rw [h]; exact hd
  rw [List.getElem?_drop] at this
  rwa [show a + 1 + i = a + (i + 1) by omega]
theorem get_drop {s r : S} {c : UInt8} {a i : Nat} (h : s.drop a = c :: r) : s[a + 1 + i]? = r[i]? := by
  have : (s.drop a)[i + 1]? = r[i]? := by rw [h]; rfl
  rw [List.getElem?_drop] at this
  rwa [show a + 1 + i = a + (i + 1) by omega]
theorem tok_ret {s : S} {p e : Int} {t : Tk} {v : Value} (h : tokRes s p = (t, e)) (hv : v = tkV t) : Ending.returned (.tuple #[v, .int .i64 e]) = .returned (.tuple #[tkV (tokRes s p).1, .int .i64 (tokRes s p).2]) := by rw [h, hv]
theorem q_letter_of {c : UInt8} {b : Bool} (h : letter c = b) (w : World) : Calls Tryz.prog 60 #[.int .u8 (c.toNat : Int)] w fun e w' => e = .returned (.bool b) ∧ w = w' := by have := q_letter (w := w) (c := c); rwa [h] at this
theorem q_digit_of {c : UInt8} {b : Bool} (h : digit c = b) (w : World) : Calls Tryz.prog 61 #[.int .u8 (c.toNat : Int)] w fun e w' => e = .returned (.bool b) ∧ w = w' := by have := q_digit (w := w) (c := c); rwa [h] at this
section
variable {w : World}
set_option maxHeartbeats 4000000 in
set_option maxRecDepth 100000 in
theorem q_token {s : S} {a : Nat} {c : UInt8} {r : S} (hs : s.length ≤ 100000) (hd : s.drop a = c :: r) :
    Calls Tryz.prog 50 #[.string (bs s), .int .i64 a] w fun e w' => e = .returned (.tuple #[tkV (tokRes (c :: r) a).1, .int .i64 (tokRes (c :: r) a).2]) ∧ Below w.heap.size w w' := by
  have hz := bs_size s
  have M0 := Lib.hid ((OMem.start w).raw (.cells #[.int .i64 0, .string ⟨#[]⟩, .int .i64 0, .int .i64 0] 42 (0, 0)))
  have ha : a < s.length := by
    have := congrArg List.length hd
    simp at this; omega
  have hsl : s.length = a + 1 + r.length := by
    have := congrArg List.length hd
    simp at this; omega
  have hc : s[a]? = some c := by
    have : (s.drop a)[0]? = some c := by rw [hd]; rfl
    rwa [List.getElem?_drop] at this
  obtain ⟨i0, gc⟩ := bs_get hc
  have HD := Lib.hid hd
  clear hd hc
  go_enter Tryz.func50, Tryz.ntmps50
  cases hl : letter c with
  | true =>
    have HL := Lib.hid hl
    have HQ := Lib.hid (q_letter_of hl)
    clear hl
    go_wp2_with (go_at_call 60; refine (HQ.out _).mono ?_; rintro e w2 ⟨rfl, hw⟩; refine Hid.out ?_)
    refine Lib.hid ?_
    have m1 := M0.out
    rw [hw] at m1
    have M1 := Lib.hid (show OMem w w2 [.raw w.heap.size (.cells #[.int .i64 0, .string ⟨#[]⟩, .int .i64 0, .int .i64 0] 42 (0, 0))] from m1)
    clear m1 M0 hw gc HQ
    obtain ⟨t, ht⟩ : ∃ t, r.takeWhile alnum = t := ⟨_, rfl⟩
    have htl : t.length ≤ r.length := by rw [← ht]; exact tw_len r
    have HT := Lib.hid ht
    clear ht
    go_wp2
    go_loopw [6] (fun i wr => ∃ k : Nat, k ≤ t.length ∧ i = .int .i64 (a + 1 + k : Nat) ∧ w2 = wr) (fun i _ => s.length - (intOf i).toNat)
    case atStart => exact ⟨0, Nat.zero_le _, by go_num, rfl⟩
    case round =>
      obtain ⟨k, hk, rfl, rfl⟩ := hrel
      by_cases hlt : k < t.length
      · obtain ⟨d, hd, hq⟩ : ∃ d, r[k]? = some d ∧ alnum d = true := tw_get (by rw [HT.out]; exact hlt)
        obtain ⟨i1, g1⟩ := bs_get (drop_get HD.out hd)
        clear hd
        have hks : a + 1 + k < s.length := by omega
        cases hl : letter d with
        | true =>
          have HQ := Lib.hid (q_letter_of hl)
          clear hl hq
          go_wp2_with (go_at_call 60; refine (HQ.out _).mono ?_; rintro e w3 ⟨rfl, rfl⟩; refine Hid.out ?_)
          refine Lib.hid ?_
          go_wp2
          go_roundw
          case rel => exact ⟨k + 1, by omega, by go_num, by trivial⟩
          case measure => simp [intOf]; omega
        | false =>
          have HG := Lib.hid (q_digit_of (show digit d = true by rw [alnum, hl] at hq; simpa using hq))
          have HQ := Lib.hid (q_letter_of hl)
          clear hl hq
          go_wp2_with (go_at_call 60; refine (HQ.out _).mono ?_; rintro e w3 ⟨rfl, rfl⟩; refine Hid.out ?_)
          refine Lib.hid ?_
          go_wp2_with (go_at_call 61; refine (HG.out _).mono ?_; rintro e w3 ⟨rfl, rfl⟩; refine Hid.out ?_)
          refine Lib.hid ?_
          go_wp2
          go_roundw
          case rel => exact ⟨k + 1, by omega, by go_num, by trivial⟩
          case measure => simp [intOf]; omega
      · obtain rfl : k = t.length := by omega
        clear hk hlt
        as_aux_lemma =>
        by_cases hks : a + 1 + t.length < s.length
        · obtain ⟨d, hd⟩ : ∃ d, r[t.length]? = some d := ⟨_, List.getElem?_eq_getElem (by omega)⟩
          have hq : alnum d = false := tw_end (q := alnum) (r := r) (by rw [HT.out]; exact hd)
          obtain ⟨i1, g1⟩ := bs_get (drop_get HD.out hd)
          have HQ := Lib.hid (q_letter_of (show letter d = false by rw [alnum, Bool.or_eq_false_iff] at hq; exact hq.1))
          have HG := Lib.hid (q_digit_of (show digit d = false by rw [alnum, Bool.or_eq_false_iff] at hq; exact hq.2))
          clear hd hq
          go_wp2_with (go_at_call 60; refine (HQ.out _).mono ?_; rintro e w3 ⟨rfl, rfl⟩; refine Hid.out ?_)
          refine Lib.hid ?_
          go_wp2_with (go_at_call 61; refine (HG.out _).mono ?_; rintro e w3 ⟨rfl, rfl⟩; refine Hid.out ?_)
          refine Lib.hid ?_
          clear HQ HG g1
          by_cases h20 : t.length + 1 ≤ 20
          · have HR := Lib.hid (tok_word (at_ := (a : Int)) HL.out (by rw [HT.out]; exact h20))
            rw [HT.out] at HR
            have hE := ext_tok (q := alnum) HD.out (by rw [HT.out])
            rw [HT.out] at hE
            have h20' : ¬ (20 : Int) < ((a + 1 + t.length : Nat) : Int) - (a : Int) := by omega
            have r2 := M1.out.raw_at (i := 0) rfl
            have g0 : (w2).cell? ⟨w.heap.size, 0, none⟩ = some (.int .i64 0) := by rw [Lib.cell_of_heap r2]; rfl
            have g1 : (w2).cell? ⟨w.heap.size, 1, none⟩ = some (.string ⟨#[]⟩) := by rw [Lib.cell_of_heap r2]; rfl
            have g2 : (w2).cell? ⟨w.heap.size, 2, none⟩ = some (.int .i64 0) := by rw [Lib.cell_of_heap r2]; rfl
            have g3 : (w2).cell? ⟨w.heap.size, 3, none⟩ = some (.int .i64 0) := by rw [Lib.cell_of_heap r2]; rfl
            have z0 : (w2).frozen? ⟨w.heap.size, 0, none⟩ = false := Lib.frozen_of_heap r2 0
            have z1 : (w2).frozen? ⟨w.heap.size, 1, none⟩ = false := Lib.frozen_of_heap r2 1
            have z2 : (w2).frozen? ⟨w.heap.size, 2, none⟩ = false := Lib.frozen_of_heap r2 2
            have z3 : (w2).frozen? ⟨w.heap.size, 3, none⟩ = false := Lib.frozen_of_heap r2 3
            clear r2
            go_wp2
            have m3 := put4 (z := #[.int .i64 0, .string ⟨#[]⟩, .int .i64 0, .int .i64 0]) (a0 := .int .i64 0) (a1 := .string (bs (List.cons c t))) (a2 := .int .i64 0) (a3 := .int .i64 a) M1.out
            have r3 := m3.raw_at (i := 0) rfl
            refine bodyPost_ret (results_cell_tmp (p := 4) (u := 5) rfl _ _ w.heap.size 42 #[.int .i64 0, .string (bs (List.cons c t)), .int .i64 0, .int .i64 a] (0, 0) _ rfl r3 Tryz.underlying42 rfl (by kernel_rfl)) rfl ?_
            exact ⟨tok_ret HR.out rfl, m3.below⟩
          · have HR := Lib.hid (tok_long (at_ := (a : Int)) HL.out (by rw [HT.out]; exact h20))
            have h20' : (20 : Int) < ((a + 1 + t.length : Nat) : Int) - (a : Int) := by omega
            have r2 := M1.out.raw_at (i := 0) rfl
            have g0 : (w2).cell? ⟨w.heap.size, 0, none⟩ = some (.int .i64 0) := by rw [Lib.cell_of_heap r2]; rfl
            have g1 : (w2).cell? ⟨w.heap.size, 1, none⟩ = some (.string ⟨#[]⟩) := by rw [Lib.cell_of_heap r2]; rfl
            have g2 : (w2).cell? ⟨w.heap.size, 2, none⟩ = some (.int .i64 0) := by rw [Lib.cell_of_heap r2]; rfl
            have g3 : (w2).cell? ⟨w.heap.size, 3, none⟩ = some (.int .i64 0) := by rw [Lib.cell_of_heap r2]; rfl
            have z0 : (w2).frozen? ⟨w.heap.size, 0, none⟩ = false := Lib.frozen_of_heap r2 0
            have z1 : (w2).frozen? ⟨w.heap.size, 1, none⟩ = false := Lib.frozen_of_heap r2 1
            have z2 : (w2).frozen? ⟨w.heap.size, 2, none⟩ = false := Lib.frozen_of_heap r2 2
            have z3 : (w2).frozen? ⟨w.heap.size, 3, none⟩ = false := Lib.frozen_of_heap r2 3
            clear r2
            go_wp2
            have m3 := put4 (z := #[.int .i64 0, .string ⟨#[]⟩, .int .i64 0, .int .i64 0]) (a0 := .int .i64 0) (a1 := .string (bs [])) (a2 := .int .i64 0) (a3 := .int .i64 0) M1.out
            have r3 := m3.raw_at (i := 0) rfl
            refine bodyPost_ret (results_cell_tmp (p := 4) (u := 5) rfl _ _ w.heap.size 42 #[.int .i64 0, .string (bs []), .int .i64 0, .int .i64 0] (0, 0) _ rfl r3 Tryz.underlying42 rfl (by kernel_rfl)) rfl ?_
            exact ⟨tok_ret HR.out rfl, m3.below⟩
        · by_cases h20 : t.length + 1 ≤ 20
          · have HR := Lib.hid (tok_word (at_ := (a : Int)) HL.out (by rw [HT.out]; exact h20))
            rw [HT.out] at HR
            have hE := ext_tok (q := alnum) HD.out (by rw [HT.out])
            rw [HT.out] at hE
            have h20' : ¬ (20 : Int) < ((a + 1 + t.length : Nat) : Int) - (a : Int) := by omega
            have r2 := M1.out.raw_at (i := 0) rfl
            have g0 : (w2).cell? ⟨w.heap.size, 0, none⟩ = some (.int .i64 0) := by rw [Lib.cell_of_heap r2]; rfl
            have g1 : (w2).cell? ⟨w.heap.size, 1, none⟩ = some (.string ⟨#[]⟩) := by rw [Lib.cell_of_heap r2]; rfl
            have g2 : (w2).cell? ⟨w.heap.size, 2, none⟩ = some (.int .i64 0) := by rw [Lib.cell_of_heap r2]; rfl
            have g3 : (w2).cell? ⟨w.heap.size, 3, none⟩ = some (.int .i64 0) := by rw [Lib.cell_of_heap r2]; rfl
            have z0 : (w2).frozen? ⟨w.heap.size, 0, none⟩ = false := Lib.frozen_of_heap r2 0
            have z1 : (w2).frozen? ⟨w.heap.size, 1, none⟩ = false := Lib.frozen_of_heap r2 1
            have z2 : (w2).frozen? ⟨w.heap.size, 2, none⟩ = false := Lib.frozen_of_heap r2 2
            have z3 : (w2).frozen? ⟨w.heap.size, 3, none⟩ = false := Lib.frozen_of_heap r2 3
            clear r2
            go_wp2
            have m3 := put4 (z := #[.int .i64 0, .string ⟨#[]⟩, .int .i64 0, .int .i64 0]) (a0 := .int .i64 0) (a1 := .string (bs (List.cons c t))) (a2 := .int .i64 0) (a3 := .int .i64 a) M1.out
            have r3 := m3.raw_at (i := 0) rfl
            refine bodyPost_ret (results_cell_tmp (p := 4) (u := 5) rfl _ _ w.heap.size 42 #[.int .i64 0, .string (bs (List.cons c t)), .int .i64 0, .int .i64 a] (0, 0) _ rfl r3 Tryz.underlying42 rfl (by kernel_rfl)) rfl ?_
            exact ⟨tok_ret HR.out rfl, m3.below⟩
          · have HR := Lib.hid (tok_long (at_ := (a : Int)) HL.out (by rw [HT.out]; exact h20))
            have h20' : (20 : Int) < ((a + 1 + t.length : Nat) : Int) - (a : Int) := by omega
            have r2 := M1.out.raw_at (i := 0) rfl
            have g0 : (w2).cell? ⟨w.heap.size, 0, none⟩ = some (.int .i64 0) := by rw [Lib.cell_of_heap r2]; rfl
            have g1 : (w2).cell? ⟨w.heap.size, 1, none⟩ = some (.string ⟨#[]⟩) := by rw [Lib.cell_of_heap r2]; rfl
            have g2 : (w2).cell? ⟨w.heap.size, 2, none⟩ = some (.int .i64 0) := by rw [Lib.cell_of_heap r2]; rfl
            have g3 : (w2).cell? ⟨w.heap.size, 3, none⟩ = some (.int .i64 0) := by rw [Lib.cell_of_heap r2]; rfl
            have z0 : (w2).frozen? ⟨w.heap.size, 0, none⟩ = false := Lib.frozen_of_heap r2 0
            have z1 : (w2).frozen? ⟨w.heap.size, 1, none⟩ = false := Lib.frozen_of_heap r2 1
            have z2 : (w2).frozen? ⟨w.heap.size, 2, none⟩ = false := Lib.frozen_of_heap r2 2
            have z3 : (w2).frozen? ⟨w.heap.size, 3, none⟩ = false := Lib.frozen_of_heap r2 3
            clear r2
            go_wp2
            have m3 := put4 (z := #[.int .i64 0, .string ⟨#[]⟩, .int .i64 0, .int .i64 0]) (a0 := .int .i64 0) (a1 := .string (bs [])) (a2 := .int .i64 0) (a3 := .int .i64 0) M1.out
            have r3 := m3.raw_at (i := 0) rfl
            refine bodyPost_ret (results_cell_tmp (p := 4) (u := 5) rfl _ _ w.heap.size 42 #[.int .i64 0, .string (bs []), .int .i64 0, .int .i64 0] (0, 0) _ rfl r3 Tryz.underlying42 rfl (by kernel_rfl)) rfl ?_
            exact ⟨tok_ret HR.out rfl, m3.below⟩
  | false =>
    have HL := Lib.hid hl
    have HQ := Lib.hid (q_letter_of hl)
    clear hl
    go_wp2_with (go_at_call 60; refine (HQ.out _).mono ?_; rintro e w2 ⟨rfl, hw⟩; refine Hid.out ?_)
    refine Lib.hid ?_
    have m1 := M0.out
    rw [hw] at m1
    have M1 := Lib.hid (show OMem w w2 [.raw w.heap.size (.cells #[.int .i64 0, .string ⟨#[]⟩, .int .i64 0, .int .i64 0] 42 (0, 0))] from m1)
    clear m1 M0 hw HQ
    cases hg : digit c with
    | true =>
      have HG := Lib.hid hg
      have HQ := Lib.hid (q_digit_of hg)
      clear hg
      go_wp2_with (go_at_call 61; refine (HQ.out _).mono ?_; rintro e w3 ⟨rfl, rfl⟩; refine Hid.out ?_)
      refine Lib.hid ?_
      clear gc HQ
      obtain ⟨t, ht⟩ : ∃ t, r.takeWhile digit = t := ⟨_, rfl⟩
      have htl : t.length ≤ r.length := by rw [← ht]; exact tw_len r
      have HT := Lib.hid ht
      clear ht
      go_wp2
      go_loopw [6] (fun i wr => ∃ k : Nat, k ≤ t.length ∧ i = .int .i64 (a + 1 + k : Nat) ∧ w2 = wr) (fun i _ => s.length - (intOf i).toNat)
      case atStart => exact ⟨0, Nat.zero_le _, by go_num, rfl⟩
      case round =>
        obtain ⟨k, hk, rfl, rfl⟩ := hrel
        by_cases hlt : k < t.length
        · obtain ⟨d, hd, hq⟩ : ∃ d, r[k]? = some d ∧ digit d = true := tw_get (by rw [HT.out]; exact hlt)
          obtain ⟨i1, g1⟩ := bs_get (drop_get HD.out hd)
          clear hd
          have hks : a + 1 + k < s.length := by omega
          have HQ := Lib.hid (q_digit_of hq)
          clear hq
          go_wp2_with (go_at_call 61; refine (HQ.out _).mono ?_; rintro e w3 ⟨rfl, rfl⟩; refine Hid.out ?_)
          refine Lib.hid ?_
          go_wp2
          go_roundw
          case rel => exact ⟨k + 1, by omega, by go_num, by trivial⟩
          case measure => simp [intOf]; omega
        · obtain rfl : k = t.length := by omega
          clear hk hlt
          as_aux_lemma =>
          by_cases hks : a + 1 + t.length < s.length
          · obtain ⟨d, hd⟩ : ∃ d, r[t.length]? = some d := ⟨_, List.getElem?_eq_getElem (by omega)⟩
            have hq : digit d = false := tw_end (q := digit) (r := r) (by rw [HT.out]; exact hd)
            obtain ⟨i1, g1⟩ := bs_get (drop_get HD.out hd)
            have HQ := Lib.hid (q_digit_of hq)
            clear hd hq
            go_wp2_with (go_at_call 61; refine (HQ.out _).mono ?_; rintro e w3 ⟨rfl, rfl⟩; refine Hid.out ?_)
            refine Lib.hid ?_
            clear HQ g1
            have hE := ext_tok (q := digit) HD.out (by rw [HT.out])
            rw [HT.out] at hE
            have HN := q_number (w := w2) (s := List.cons c t) (by simp; omega)
            cases hn : numOk (List.cons c t) with
            | true =>
              have HR := Lib.hid (tok_num (at_ := (a : Int)) HL.out HG.out (by rw [HT.out]; exact hn))
              rw [HT.out] at HR
              rw [numRes_yes hn] at HN
              have HN := Lib.hid HN
              clear hn
              go_wp2_with (go_at_call 69; refine (HN.out).mono ?_; rintro e w3 ⟨rfl, rfl⟩; refine Hid.out ?_)
              refine Lib.hid ?_
              have r2 := M1.out.raw_at (i := 0) rfl
              have g0 : (w2).cell? ⟨w.heap.size, 0, none⟩ = some (.int .i64 0) := by rw [Lib.cell_of_heap r2]; rfl
              have g1 : (w2).cell? ⟨w.heap.size, 1, none⟩ = some (.string ⟨#[]⟩) := by rw [Lib.cell_of_heap r2]; rfl
              have g2 : (w2).cell? ⟨w.heap.size, 2, none⟩ = some (.int .i64 0) := by rw [Lib.cell_of_heap r2]; rfl
              have g3 : (w2).cell? ⟨w.heap.size, 3, none⟩ = some (.int .i64 0) := by rw [Lib.cell_of_heap r2]; rfl
              have z0 : (w2).frozen? ⟨w.heap.size, 0, none⟩ = false := Lib.frozen_of_heap r2 0
              have z1 : (w2).frozen? ⟨w.heap.size, 1, none⟩ = false := Lib.frozen_of_heap r2 1
              have z2 : (w2).frozen? ⟨w.heap.size, 2, none⟩ = false := Lib.frozen_of_heap r2 2
              have z3 : (w2).frozen? ⟨w.heap.size, 3, none⟩ = false := Lib.frozen_of_heap r2 3
              clear r2
              go_wp2
              have m3 := put4 (z := #[.int .i64 0, .string ⟨#[]⟩, .int .i64 0, .int .i64 0]) (a0 := .int .i64 1) (a1 := .string (bs (List.cons c t))) (a2 := .int .i64 (val (List.cons c t) : Nat)) (a3 := .int .i64 a) M1.out
              have r3 := m3.raw_at (i := 0) rfl
              refine bodyPost_ret (results_cell_tmp (p := 4) (u := 5) rfl _ _ w.heap.size 42 #[.int .i64 1, .string (bs (List.cons c t)), .int .i64 (val (List.cons c t) : Nat), .int .i64 a] (0, 0) _ rfl r3 Tryz.underlying42 rfl (by kernel_rfl)) rfl ?_
              exact ⟨tok_ret HR.out rfl, m3.below⟩
            | false =>
              have HR := Lib.hid (tok_bad (at_ := (a : Int)) HL.out HG.out (by rw [HT.out]; exact hn))
              rw [numRes_no hn] at HN
              have HN := Lib.hid HN
              clear hn
              go_wp2_with (go_at_call 69; refine (HN.out).mono ?_; rintro e w3 ⟨rfl, rfl⟩; refine Hid.out ?_)
              refine Lib.hid ?_
              have r2 := M1.out.raw_at (i := 0) rfl
              have g0 : (w2).cell? ⟨w.heap.size, 0, none⟩ = some (.int .i64 0) := by rw [Lib.cell_of_heap r2]; rfl
              have g1 : (w2).cell? ⟨w.heap.size, 1, none⟩ = some (.string ⟨#[]⟩) := by rw [Lib.cell_of_heap r2]; rfl
              have g2 : (w2).cell? ⟨w.heap.size, 2, none⟩ = some (.int .i64 0) := by rw [Lib.cell_of_heap r2]; rfl
              have g3 : (w2).cell? ⟨w.heap.size, 3, none⟩ = some (.int .i64 0) := by rw [Lib.cell_of_heap r2]; rfl
              have z0 : (w2).frozen? ⟨w.heap.size, 0, none⟩ = false := Lib.frozen_of_heap r2 0
              have z1 : (w2).frozen? ⟨w.heap.size, 1, none⟩ = false := Lib.frozen_of_heap r2 1
              have z2 : (w2).frozen? ⟨w.heap.size, 2, none⟩ = false := Lib.frozen_of_heap r2 2
              have z3 : (w2).frozen? ⟨w.heap.size, 3, none⟩ = false := Lib.frozen_of_heap r2 3
              clear r2
              go_wp2
              have m3 := put4 (z := #[.int .i64 0, .string ⟨#[]⟩, .int .i64 0, .int .i64 0]) (a0 := .int .i64 0) (a1 := .string (bs [])) (a2 := .int .i64 0) (a3 := .int .i64 0) M1.out
              have r3 := m3.raw_at (i := 0) rfl
              refine bodyPost_ret (results_cell_tmp (p := 4) (u := 5) rfl _ _ w.heap.size 42 #[.int .i64 0, .string (bs []), .int .i64 0, .int .i64 0] (0, 0) _ rfl r3 Tryz.underlying42 rfl (by kernel_rfl)) rfl ?_
              exact ⟨tok_ret HR.out rfl, m3.below⟩
          · have hE := ext_tok (q := digit) HD.out (by rw [HT.out])
            rw [HT.out] at hE
            have HN := q_number (w := w2) (s := List.cons c t) (by simp; omega)
            cases hn : numOk (List.cons c t) with
            | true =>
              have HR := Lib.hid (tok_num (at_ := (a : Int)) HL.out HG.out (by rw [HT.out]; exact hn))
              rw [HT.out] at HR
              rw [numRes_yes hn] at HN
              have HN := Lib.hid HN
              clear hn
              go_wp2_with (go_at_call 69; refine (HN.out).mono ?_; rintro e w3 ⟨rfl, rfl⟩; refine Hid.out ?_)
              refine Lib.hid ?_
              have r2 := M1.out.raw_at (i := 0) rfl
              have g0 : (w2).cell? ⟨w.heap.size, 0, none⟩ = some (.int .i64 0) := by rw [Lib.cell_of_heap r2]; rfl
              have g1 : (w2).cell? ⟨w.heap.size, 1, none⟩ = some (.string ⟨#[]⟩) := by rw [Lib.cell_of_heap r2]; rfl
              have g2 : (w2).cell? ⟨w.heap.size, 2, none⟩ = some (.int .i64 0) := by rw [Lib.cell_of_heap r2]; rfl
              have g3 : (w2).cell? ⟨w.heap.size, 3, none⟩ = some (.int .i64 0) := by rw [Lib.cell_of_heap r2]; rfl
              have z0 : (w2).frozen? ⟨w.heap.size, 0, none⟩ = false := Lib.frozen_of_heap r2 0
              have z1 : (w2).frozen? ⟨w.heap.size, 1, none⟩ = false := Lib.frozen_of_heap r2 1
              have z2 : (w2).frozen? ⟨w.heap.size, 2, none⟩ = false := Lib.frozen_of_heap r2 2
              have z3 : (w2).frozen? ⟨w.heap.size, 3, none⟩ = false := Lib.frozen_of_heap r2 3
              clear r2
              go_wp2
              have m3 := put4 (z := #[.int .i64 0, .string ⟨#[]⟩, .int .i64 0, .int .i64 0]) (a0 := .int .i64 1) (a1 := .string (bs (List.cons c t))) (a2 := .int .i64 (val (List.cons c t) : Nat)) (a3 := .int .i64 a) M1.out
              have r3 := m3.raw_at (i := 0) rfl
              refine bodyPost_ret (results_cell_tmp (p := 4) (u := 5) rfl _ _ w.heap.size 42 #[.int .i64 1, .string (bs (List.cons c t)), .int .i64 (val (List.cons c t) : Nat), .int .i64 a] (0, 0) _ rfl r3 Tryz.underlying42 rfl (by kernel_rfl)) rfl ?_
              exact ⟨tok_ret HR.out rfl, m3.below⟩
            | false =>
              have HR := Lib.hid (tok_bad (at_ := (a : Int)) HL.out HG.out (by rw [HT.out]; exact hn))
              rw [numRes_no hn] at HN
              have HN := Lib.hid HN
              clear hn
              go_wp2_with (go_at_call 69; refine (HN.out).mono ?_; rintro e w3 ⟨rfl, rfl⟩; refine Hid.out ?_)
              refine Lib.hid ?_
              have r2 := M1.out.raw_at (i := 0) rfl
              have g0 : (w2).cell? ⟨w.heap.size, 0, none⟩ = some (.int .i64 0) := by rw [Lib.cell_of_heap r2]; rfl
              have g1 : (w2).cell? ⟨w.heap.size, 1, none⟩ = some (.string ⟨#[]⟩) := by rw [Lib.cell_of_heap r2]; rfl
              have g2 : (w2).cell? ⟨w.heap.size, 2, none⟩ = some (.int .i64 0) := by rw [Lib.cell_of_heap r2]; rfl
              have g3 : (w2).cell? ⟨w.heap.size, 3, none⟩ = some (.int .i64 0) := by rw [Lib.cell_of_heap r2]; rfl
              have z0 : (w2).frozen? ⟨w.heap.size, 0, none⟩ = false := Lib.frozen_of_heap r2 0
              have z1 : (w2).frozen? ⟨w.heap.size, 1, none⟩ = false := Lib.frozen_of_heap r2 1
              have z2 : (w2).frozen? ⟨w.heap.size, 2, none⟩ = false := Lib.frozen_of_heap r2 2
              have z3 : (w2).frozen? ⟨w.heap.size, 3, none⟩ = false := Lib.frozen_of_heap r2 3
              clear r2
              go_wp2
              have m3 := put4 (z := #[.int .i64 0, .string ⟨#[]⟩, .int .i64 0, .int .i64 0]) (a0 := .int .i64 0) (a1 := .string (bs [])) (a2 := .int .i64 0) (a3 := .int .i64 0) M1.out
              have r3 := m3.raw_at (i := 0) rfl
              refine bodyPost_ret (results_cell_tmp (p := 4) (u := 5) rfl _ _ w.heap.size 42 #[.int .i64 0, .string (bs []), .int .i64 0, .int .i64 0] (0, 0) _ rfl r3 Tryz.underlying42 rfl (by kernel_rfl)) rfl ?_
              exact ⟨tok_ret HR.out rfl, m3.below⟩
    | false =>
      have HG := Lib.hid hg
      have HQ := Lib.hid (q_digit_of hg)
      clear hg
      go_wp2_with (go_at_call 61; refine (HQ.out _).mono ?_; rintro e w3 ⟨rfl, rfl⟩; refine Hid.out ?_)
      refine Lib.hid ?_
      clear HQ
      have e59 : ((c.toNat : Int) == 59) = (c == 59) := beq_n c 59
      by_cases h59 : c = 59
      · subst h59
        have HR := Lib.hid (tok_sign (r := r) (at_ := (a : Int)))
        clear e59
        have r2 := M1.out.raw_at (i := 0) rfl
        have g0 : (w2).cell? ⟨w.heap.size, 0, none⟩ = some (.int .i64 0) := by rw [Lib.cell_of_heap r2]; rfl
        have g1 : (w2).cell? ⟨w.heap.size, 1, none⟩ = some (.string ⟨#[]⟩) := by rw [Lib.cell_of_heap r2]; rfl
        have g2 : (w2).cell? ⟨w.heap.size, 2, none⟩ = some (.int .i64 0) := by rw [Lib.cell_of_heap r2]; rfl
        have g3 : (w2).cell? ⟨w.heap.size, 3, none⟩ = some (.int .i64 0) := by rw [Lib.cell_of_heap r2]; rfl
        have z0 : (w2).frozen? ⟨w.heap.size, 0, none⟩ = false := Lib.frozen_of_heap r2 0
        have z1 : (w2).frozen? ⟨w.heap.size, 1, none⟩ = false := Lib.frozen_of_heap r2 1
        have z2 : (w2).frozen? ⟨w.heap.size, 2, none⟩ = false := Lib.frozen_of_heap r2 2
        have z3 : (w2).frozen? ⟨w.heap.size, 3, none⟩ = false := Lib.frozen_of_heap r2 3
        clear r2
        go_wp2
        have m3 := put4 (z := #[.int .i64 0, .string ⟨#[]⟩, .int .i64 0, .int .i64 0]) (a0 := .int .i64 2) (a1 := .string (bs [59])) (a2 := .int .i64 0) (a3 := .int .i64 a) M1.out
        have r3 := m3.raw_at (i := 0) rfl
        refine bodyPost_ret (results_cell_tmp (p := 4) (u := 5) rfl _ _ w.heap.size 42 #[.int .i64 2, .string (bs [59]), .int .i64 0, .int .i64 a] (0, 0) _ rfl r3 Tryz.underlying42 rfl (by kernel_rfl)) rfl ?_
        exact ⟨tok_ret HR.out rfl, m3.below⟩
      · have HR := Lib.hid (tok_none (r := r) (at_ := (a : Int)) HL.out HG.out h59)
        rw [show (c == 59) = false by simpa using h59] at e59
        clear h59
        have r2 := M1.out.raw_at (i := 0) rfl
        have g0 : (w2).cell? ⟨w.heap.size, 0, none⟩ = some (.int .i64 0) := by rw [Lib.cell_of_heap r2]; rfl
        have g1 : (w2).cell? ⟨w.heap.size, 1, none⟩ = some (.string ⟨#[]⟩) := by rw [Lib.cell_of_heap r2]; rfl
        have g2 : (w2).cell? ⟨w.heap.size, 2, none⟩ = some (.int .i64 0) := by rw [Lib.cell_of_heap r2]; rfl
        have g3 : (w2).cell? ⟨w.heap.size, 3, none⟩ = some (.int .i64 0) := by rw [Lib.cell_of_heap r2]; rfl
        have z0 : (w2).frozen? ⟨w.heap.size, 0, none⟩ = false := Lib.frozen_of_heap r2 0
        have z1 : (w2).frozen? ⟨w.heap.size, 1, none⟩ = false := Lib.frozen_of_heap r2 1
        have z2 : (w2).frozen? ⟨w.heap.size, 2, none⟩ = false := Lib.frozen_of_heap r2 2
        have z3 : (w2).frozen? ⟨w.heap.size, 3, none⟩ = false := Lib.frozen_of_heap r2 3
        clear r2
        go_wp2
        have m3 := put4 (z := #[.int .i64 0, .string ⟨#[]⟩, .int .i64 0, .int .i64 0]) (a0 := .int .i64 0) (a1 := .string (bs [])) (a2 := .int .i64 0) (a3 := .int .i64 0) M1.out
        have r3 := m3.raw_at (i := 0) rfl
        refine bodyPost_ret (results_cell_tmp (p := 4) (u := 5) rfl _ _ w.heap.size 42 #[.int .i64 0, .string (bs []), .int .i64 0, .int .i64 0] (0, 0) _ rfl r3 Tryz.underlying42 rfl (by kernel_rfl)) rfl ?_
        exact ⟨tok_ret HR.out rfl, m3.below⟩
end
end Go.Proofs.YtlefgffnjcmfoaaGreatDoor
namespace Go.Proofs.YtlefgffnjcmfoaaGreatDoor
open Go.RowKit Go.Maps Go.ChangeMaps Go.MapKept
open Lx
attribute [local go_sem ↓] Go.wp_at_zero Go.wp_at_succ
/-- What Lex answers: the tokens, the position and the number of the error. -/
def lexRes (s : S) : List Tk × Int × Int := if 2000 < s.length then ([], 0, 6) else match lex s 0 with | .ok ts => (ts, 0, 0) | .error (p, e) => ([], p, e)
theorem lexRes_big {s : S} (h : 2000 < s.length) : lexRes s = ([], 0, 6) := by unfold lexRes; rw [if_pos h]
theorem lexRes_ok {s : S} {ts : List Tk} (h : ¬ 2000 < s.length) (h2 : lex s 0 = .ok ts) : lexRes s = (ts, 0, 0) := by unfold lexRes; rw [if_neg h, h2]
theorem lexRes_err {s : S} {p e : Int} (h : ¬ 2000 < s.length) (h2 : lex s 0 = .error (p, e)) : lexRes s = ([], p, e) := by unfold lexRes; rw [if_neg h, h2]
/-- So far: the tokens of the first a bytes are ks. -/
def LexTo (s : S) (ks : List Tk) (a : Nat) : Prop := lex s 0 = match lex (s.drop a) a with | .ok ts => .ok (ks ++ ts) | .error e => .error e
theorem LexTo.start (s : S) : LexTo s [] 0 := by
  unfold LexTo
  rw [List.drop_zero, show ((0 : Nat) : Int) = 0 from rfl]
  cases lex s 0 <;> rfl
theorem drop_next {s r : S} {a : Nat} {c : UInt8} (h : s.drop a = c :: r) : s.drop (a + 1) = r := by
  rw [← List.drop_drop, h]; rfl
theorem LexTo.blank {s r : S} {ks : List Tk} {a : Nat} {c : UInt8} (h : LexTo s ks a) (hd : s.drop a = c :: r) (hb : Lx.blank c = true) : LexTo s ks (a + 1) := by
  unfold LexTo at h ⊢
  rw [hd, lex_blank hb] at h
  rw [drop_next hd]
  exact h
theorem LexTo.bad {s r : S} {ks : List Tk} {a : Nat} {c : UInt8} {e : Int} (h : LexTo s ks a) (hd : s.drop a = c :: r) (hb : Lx.blank c = false) (ht : tok (c :: r) = .error e) : lex s 0 = .error ((a : Int), e) := by
  unfold LexTo at h
  rw [hd, lex_bad (by simp [hb]) ht] at h
  exact h
theorem LexTo.tok {s r w : S} {ks : List Tk} {a : Nat} {c : UInt8} {k n : Int} (h : LexTo s ks a) (hd : s.drop a = c :: r) (hb : Lx.blank c = false) (ht : tok (c :: r) = .ok (k, w, n)) : LexTo s (ks ++ [⟨k, w, n, a⟩]) (a + w.length) := by
  unfold LexTo at h ⊢
  rw [hd, lex_tok (by simp [hb]) ht, ← hd, List.drop_drop] at h
  rw [h, show ((a + w.length : Nat) : Int) = (a : Int) + (w.length : Int) by omega]
  cases lex (s.drop (a + w.length)) ((a : Int) + (w.length : Int)) with
  | ok ts => simp
  | error e => rfl
theorem LexTo.end_ {s : S} {ks : List Tk} (h : LexTo s ks s.length) : lex s 0 = .ok (ks ++ [⟨3, [], 0, (s.length : Int)⟩]) := by
  unfold LexTo at h
  rw [List.drop_length, lex_nil] at h
  exact h
theorem tok_err_ne {s : S} {e : Int} (h : tok s = .error e) : (e != 0) = true := by
  cases s with
  | nil => cases h; rfl
  | cons c r =>
    rw [tok_cons] at h
    split at h
    · split at h
      · cases h
      · cases h; rfl
    · split at h
      · split at h
        · cases h
        · cases h; rfl
      · split at h
        · cases h
        · cases h; rfl
theorem q_blank_of {c : UInt8} {b : Bool} (h : Lx.blank c = b) (w : World) : Calls Tryz.prog 49 #[.int .u8 (c.toNat : Int)] w fun e w' => e = .returned (.bool b) ∧ w = w' := by have := q_blank (w := w) (c := c); rwa [h] at this
theorem q_token_ok {s : S} {a : Nat} {c : UInt8} {r t : S} {k n : Int} (hs : s.length ≤ 100000) (hd : s.drop a = c :: r) (h : tok (c :: r) = .ok (k, t, n)) (w : World) :
    Calls Tryz.prog 50 #[.string (bs s), .int .i64 a] w fun e w' => e = .returned (.tuple #[.agg #[.int .i64 k, .string (bs t), .int .i64 n, .int .i64 a], .int .i64 0]) ∧ Below w.heap.size w w' := by
  have := q_token (w := w) hs hd
  rwa [tokRes_ok h] at this
theorem q_token_err {s : S} {a : Nat} {c : UInt8} {r : S} {e : Int} (hs : s.length ≤ 100000) (hd : s.drop a = c :: r) (h : tok (c :: r) = .error e) (w : World) :
    Calls Tryz.prog 50 #[.string (bs s), .int .i64 a] w fun v w' => v = .returned (.tuple #[.agg #[.int .i64 0, .string ⟨#[]⟩, .int .i64 0, .int .i64 0], .int .i64 e]) ∧ Below w.heap.size w w' := by
  have := q_token (w := w) hs hd
  rwa [tokRes_err h] at this
theorem lex_ret {s : S} {ts : List Tk} {p e : Int} {v : Value} {w w' : World} (h : lexRes s = (ts, p, e)) (hv : TkAt w' v ts) (hb : Below w.heap.size w w') :
    ∃ u, Ending.returned (.tuple #[v, .int .i64 p, .int .i64 e]) = .returned (.tuple #[u, .int .i64 (lexRes s).2.1, .int .i64 (lexRes s).2.2]) ∧ TkAt w' u (lexRes s).1 ∧ Below w.heap.size w w' := by
  rw [h]; exact ⟨v, rfl, hv, hb⟩
section
variable {w : World}
set_option maxHeartbeats 4000000 in
set_option maxRecDepth 100000 in
theorem q_lex {s : S} (hs : s.length ≤ 100000) :
    Calls Tryz.prog 17 #[.string (bs s)] w fun e w' => ∃ u, e = .returned (.tuple #[u, .int .i64 (lexRes s).2.1, .int .i64 (lexRes s).2.2]) ∧ TkAt w' u (lexRes s).1 ∧ Below w.heap.size w w' := by
  have hz := bs_size s
  go_enter Tryz.func17, Tryz.ntmps17
  by_cases hbig : 2000 < s.length
  · have HR := Lib.hid (lexRes_big hbig)
    have hb' : (2000 : Int) < (s.length : Int) := by omega
    go_wp2
    go_ret3
    exact lex_ret HR.out (TkAt.nil _) (Below.refl _ _)
  · have HB := Lib.hid hbig
    have hb' : ¬ (2000 : Int) < (s.length : Int) := by omega
    go_wp2
    go_loopw [5, 6] (fun o i wr => ∃ (a : Nat) (ks : List Tk) (oa : Option Addr) (oc : Nat), a ≤ s.length ∧ ks.length ≤ a ∧ i = .int .i64 a ∧ o = .slice oa ks.length oc ∧ Hid (LexTo s ks a) ∧ OMem w wr [.row 42 4 (.slice oa ks.length oc) ks.length (tkVs ks)]) (fun _ i _ => s.length - (intOf i).toNat)
    case atStart => exact ⟨0, [], none, 0, Nat.zero_le _, Nat.le_refl _, rfl, rfl, Lib.hid (LexTo.start s), (OMem.start w).rowNil _ _⟩
    case round =>
      obtain ⟨a, ks, oa, oc, ha, hka, rfl, rfl, HT, m⟩ := hrel
      have M := Lib.hid m
      clear m
      by_cases hlt : a < s.length
      · obtain ⟨c, hc⟩ : ∃ c, s[a]? = some c := ⟨_, List.getElem?_eq_getElem hlt⟩
        obtain ⟨i0, gc⟩ := bs_get hc
        have HD := Lib.hid (show s.drop a = c :: s.drop (a + 1) by rw [List.getElem?_eq_getElem hlt] at hc; cases hc; exact List.drop_eq_getElem_cons hlt)
        clear hc
        generalize s.drop (a + 1) = r at HD
        cases hbl : Lx.blank c with
        | true =>
          have HQ := Lib.hid (q_blank_of hbl)
          have HN := Lib.hid (HT.out.blank HD.out hbl)
          clear hbl
          go_wp2_with (go_at_call 49; refine (HQ.out _).mono ?_; rintro e w2 ⟨rfl, rfl⟩; refine Hid.out ?_)
          refine Lib.hid ?_
          clear HQ gc
          go_wp2
          go_roundw
          case rel => exact ⟨a + 1, ks, oa, oc, by omega, by omega, by go_num, rfl, HN, M.out⟩
          case measure => simp [intOf]; omega
        | false =>
          have HQ := Lib.hid (q_blank_of hbl)
          cases ht : tok (c :: r) with
          | error e0 =>
            have HK := Lib.hid (q_token_err hs HD.out ht)
            have HR := Lib.hid (lexRes_err HB.out (HT.out.bad HD.out hbl ht))
            have he := tok_err_ne ht
            clear hbl ht
            go_wp2_with (go_at_call 49; refine (HQ.out _).mono ?_; rintro e w2 ⟨rfl, rfl⟩; refine Hid.out ?_)
            refine Lib.hid ?_
            clear HQ gc
            go_wp2_with (go_at_call 50; refine (HK.out _).mono ?_; rintro e w3 ⟨rfl, b3⟩; refine Hid.out ?_)
            refine Lib.hid ?_
            have m3 := M.out.fresh b3
            have B3 := Lib.hid (m3.raw (.cells #[.int .i64 0, .string ⟨#[]⟩, .int .i64 0, .int .i64 0] 42)).below
            clear HK m3 b3 M
            go_wp2
            go_ret3
            exact lex_ret HR.out (TkAt.nil _) B3.out
          | ok q =>
            obtain ⟨k, t, n⟩ := q
            have HK := Lib.hid (q_token_ok hs HD.out ht)
            have HN := Lib.hid (HT.out.tok HD.out hbl ht)
            have hl := tok_len ht
            have hl1 := hl.1
            have hl2 : t.length ≤ s.length - a := by have := congrArg List.length HD.out; simp at this; have := hl.2.1; simp at this; omega
            have zt := bs_size t
            clear hbl ht hl
            go_wp2_with (go_at_call 49; refine (HQ.out _).mono ?_; rintro e w2 ⟨rfl, rfl⟩; refine Hid.out ?_)
            refine Lib.hid ?_
            clear HQ gc
            go_wp2_with (go_at_call 50; refine (HK.out _).mono ?_; rintro e w3 ⟨rfl, b3⟩; refine Hid.out ?_)
            refine Lib.hid ?_
            have m3 := M.out.fresh b3
            clear HK b3 M
            have m4 := m3.raw (.cells #[.int .i64 k, .string (bs t), .int .i64 n, .int .i64 a] 42)
            obtain ⟨ya, yc, w6, r6, m6⟩ := m4.pushK (i := 0) rfl ⟨k, t, n, a⟩ (by omega)
            rw [show (w3.alloc (.cells #[.int .i64 k, .string (bs t), .int .i64 n, .int .i64 a] 42)).heap.size = w3.heap.size + 1 by simp] at r6
            have R6 := Lib.hid r6
            have M6 := Lib.hid (show OMem w w6 [.row 42 4 (.slice ya (ks.length + 1) yc) (ks.length + 1) (tkVs (ks ++ [⟨k, t, n, a⟩])), .raw w3.heap.size (.cells #[.int .i64 k, .string (bs t), .int .i64 n, .int .i64 a] 42 (0, 0))] from m6)
            clear m3 m4 m6 r6
            go_wp2_with (at_builtin; refine Hid.out ?_)
            refine Lib.hid ?_
            refine Lib.wpList_append_run _ rfl _ _ _ _ rfl _ _ rfl rfl _ _ R6.out ?_
            clear R6
            have c1 : (w6).cell? ⟨w3.heap.size, 1, none⟩ = some (.string (bs t)) := by rw [Lib.cell_of_heap (M6.out.raw_at (i := 1) rfl)]; rfl
            go_wp2
            go_roundw
            case rel => exact ⟨a + t.length, ks ++ [⟨k, t, n, a⟩], ya, yc, by omega, by simp; omega, by go_num, by simp, HN, by simpa using M6.out.take 1⟩
            case measure => simp [intOf]; omega
      · obtain rfl : a = s.length := by omega
        have HR := Lib.hid (lexRes_ok HB.out HT.out.end_)
        obtain ⟨ya, yc, w6, r6, m6⟩ := M.out.pushK (i := 0) rfl ⟨3, [], 0, (s.length : Int)⟩ (by omega)
        have R6 := Lib.hid r6
        have M6 := Lib.hid (show OMem w w6 [.row 42 4 (.slice ya (ks.length + 1) yc) (ks.length + 1) (tkVs (ks ++ [⟨3, [], 0, (s.length : Int)⟩]))] from m6)
        clear m6 r6
        go_wp2_with (at_builtin; refine Hid.out ?_)
        refine Lib.hid ?_
        refine Lib.wpList_append_run _ rfl _ _ _ _ rfl _ _ rfl rfl _ _ R6.out ?_
        clear R6
        go_wp2
        go_ret3
        refine lex_ret HR.out (TkAt.of_own (base := 0) (e := 42) (n := ks.length + 1) ?_) M6.out.below
        exact M6.out.rowAt (i := 0) rfl
end
end Go.Proofs.YtlefgffnjcmfoaaGreatDoor
