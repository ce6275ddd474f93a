/- An object as a set of blocks of its own, and of blocks that nothing changes any more (which objects may share), and what they hold: one law for a change, two for a new one. No layer's own. -/
import Derived.Test.YtenbdnkipkfpkaaDoorGen7
namespace Go.Proofs.YtenbdnkipkfpkaaDoor
open Go.RowKit Go.Maps Go.ChangeMaps Go.MapKept

/-- What an object's blocks hold: B its own, S those that stay as they are. -/
structure Kind where
  Q : World → (Nat → Prop) → (Nat → Prop) → Prop
  lt : ∀ {w : World} {B S : Nat → Prop}, Q w B S → ∀ x, B x ∨ S x → x < w.heap.size
  kept : ∀ {w w' : World} {B S : Nat → Prop}, Q w B S → (∀ x, B x ∨ S x → w'.heap[x]? = w.heap[x]?) → Q w' B S
def Ob.of (K : Kind) : Ob where
  In w lab id := ∃ B S, K.Q w B S ∧ (∀ x, B x → lab x = id) ∧ ∀ x, S x → lab x = 0
  kept := fun {_ _ _ _ _} ⟨B, S, h, hl, hs⟩ _ hlab hb => ⟨B, S, K.kept h fun x hx => hb x (K.lt h x hx) (hx.elim (fun q => .inr (by rw [hl x q]; omega)) fun q => .inl (hs x q)),
    fun x hx => (hlab x (K.lt h x (.inl hx))).trans (hl x hx), fun x hx => (hlab x (K.lt h x (.inr hx))).trans (hs x hx)⟩
section
variable {w0 w w' : World} {os : List Ob} {i : Nat} {K K' : Kind}
open Classical in
/-- An object at place i: its blocks, and that it may change in them and in new ones. -/
theorem OMem.change (h : OMem w0 w os) (hi : os[i]? = some (.of K)) : ∃ B S, K.Q w B S ∧ ∀ {w' : World} {K' : Kind} {B' S' : Nat → Prop}, w'.os = w.os → w'.tape = w.tape → w'.output = w.output → w.heap.size ≤ w'.heap.size →
    (∀ x, x < w.heap.size → ¬ B x → w'.heap[x]? = w.heap[x]?) → K'.Q w' B' S' → (∀ x, B' x → B x ∨ w.heap.size ≤ x) → (∀ x, S' x → S x ∨ x < w0.heap.size ∨ w.heap.size ≤ x ∧ ¬ B' x) → OMem w0 w' (os.set i (.of K')) := by
  obtain ⟨lab, h⟩ := h
  obtain ⟨B, S, hq, hl, hs0⟩ := h.at_ i _ hi
  refine ⟨B, S, hq, fun {w' K' B' S'} hos ht ho hs hb hq' hB hS => ?_⟩
  let lab' : Nat → Nat := fun x => if x < w.heap.size then lab x else if B' x then 64 * (i + 1) else 0
  have old : ∀ x, x < w.heap.size → lab' x = lab x := fun x hx => if_pos hx
  have hz := h.und.below.size
  refine ⟨lab', h.set ⟨B', S', hq', fun x hx => ?_, fun x hx => ?_⟩ (fun x hx => ?_) ⟨hos, ht, ho, hs, old, fun x hx hz => hb x hx fun hB => by have := hl x hB; omega, fun x hx => ?_⟩⟩
  · by_cases hx' : x < w.heap.size
    · rw [old x hx']
      rcases hB x hx with q | q
      · exact hl x q
      · omega
    · show (if x < w.heap.size then lab x else if B' x then 64 * (i + 1) else 0) = _
      rw [if_neg hx', if_pos hx]
  · rcases hS x hx with q | q | q
    · rw [old x (K.lt hq x (.inr q))]; exact hs0 x q
    · rw [old x (by omega)]; exact h.und.labs x q
    · show (if x < w.heap.size then lab x else if B' x then 64 * (i + 1) else 0) = _
      rw [if_neg (by omega), if_neg q.2]
  · show (if x < w.heap.size then lab x else if B' x then 64 * (i + 1) else 0) = _
    rw [if_neg (by omega), if_neg (fun q => by have := K'.lt hq' x (.inl q); omega)]
  · show (if x < w.heap.size then lab x else if B' x then 64 * (i + 1) else 0) = 0 ∨ _ ≤ (if x < w.heap.size then lab x else if B' x then 64 * (i + 1) else 0) ∧ (if x < w.heap.size then lab x else if B' x then 64 * (i + 1) else 0) < _
    rw [if_neg (by omega)]
    split <;> omega
open Classical in
/-- An object in new blocks, and in blocks that stay as they are. -/
theorem OMemL.make {lab : Nat → Nat} (h : OMemL w0 w lab os) (hb : Below w.heap.size w w') {B S : Nat → Prop} (hq : K.Q w' B S) (hn : ∀ x, B x → w.heap.size ≤ x) (hS : ∀ x, S x → x < w.heap.size ∧ lab x = 0 ∨ w.heap.size ≤ x ∧ ¬ B x) : OMem w0 w' (os ++ [.of K]) := by
  have hs := hb.size
  let lab' : Nat → Nat := fun x => if x < w.heap.size then lab x else if B x then 64 * (os.length + 1) else 0
  have old : ∀ x, x < w.heap.size → lab' x = lab x := fun x hx => if_pos hx
  refine ⟨lab', h.push ⟨B, S, hq, fun x hx => ?_, fun x hx => ?_⟩ (fun x hx => ?_) ⟨hb.os, hb.tape, hb.output, hb.size, old, fun x hx _ => hb.block x hx, fun x hx => ?_⟩⟩
  · have := hn x hx
    show (if x < w.heap.size then lab x else if B x then 64 * (os.length + 1) else 0) = _
    rw [if_neg (by omega), if_pos hx]
  · rcases hS x hx with q | q
    · rw [old x q.1]; exact q.2
    · show (if x < w.heap.size then lab x else if B x then 64 * (os.length + 1) else 0) = _
      rw [if_neg (by omega), if_neg q.2]
  · show (if x < w.heap.size then lab x else if B x then 64 * (os.length + 1) else 0) = _
    rw [if_neg (by omega), if_neg (fun q => by have := K.lt hq x (.inl q); omega)]
  · show (if x < w.heap.size then lab x else if B x then 64 * (os.length + 1) else 0) = 0 ∨ _ ≤ (if x < w.heap.size then lab x else if B x then 64 * (os.length + 1) else 0) ∧ (if x < w.heap.size then lab x else if B x then 64 * (os.length + 1) else 0) < _
    rw [if_neg (by omega)]
    split <;> omega
/-- An object in new blocks. -/
theorem OMem.make (h : OMem w0 w os) (hb : Below w.heap.size w w') {B S : Nat → Prop} (hq : K.Q w' B S) (hn : ∀ x, B x → w.heap.size ≤ x) (hS : ∀ x, S x → x < w0.heap.size ∨ w.heap.size ≤ x ∧ ¬ B x) : OMem w0 w' (os ++ [.of K]) := by
  obtain ⟨lab, h⟩ := h
  have hz := h.und.below.size
  exact h.make hb hq hn fun x hx => (hS x hx).imp_left fun q => ⟨by omega, h.und.labs x q⟩
/-- An object in new blocks, and in those of another one that stay as they are. -/
theorem OMem.makeOf (h : OMem w0 w os) (hi : os[i]? = some (.of K)) : ∃ B S, K.Q w B S ∧ ∀ {w' : World} {K' : Kind} {B' S' : Nat → Prop}, Below w.heap.size w w' → K'.Q w' B' S' → (∀ x, B' x → w.heap.size ≤ x) →
    (∀ x, S' x → S x ∨ x < w0.heap.size ∨ w.heap.size ≤ x ∧ ¬ B' x) → OMem w0 w' (os ++ [.of K']) := by
  obtain ⟨lab, h⟩ := h
  obtain ⟨B, S, hq, hl, hs0⟩ := h.at_ i _ hi
  have hz := h.und.below.size
  refine ⟨B, S, hq, fun {w' K' B' S'} hb hq' hn hS => h.make hb hq' hn fun x hx => ?_⟩
  rcases hS x hx with q | q | q
  · exact .inl ⟨K.lt hq x (.inr q), hs0 x q⟩
  · exact .inl ⟨by omega, h.und.labs x q⟩
  · exact .inr q
/-- What is asked of one object alone, of blocks that stay as they are behind a call on another one. -/
theorem OMem.look (h : OMem w0 w os) (hi : os[i]? = some (.of K)) : ∃ B S, K.Q w B S := by
  obtain ⟨B, S, hq, _⟩ := h.change hi; exact ⟨B, S, hq⟩
end

/-! ### Rows: a store, lists of elements with two cells -/
theorem own_set {w : World} {g n c : Nat} {e : TypeId} {size : Nat} {xs : List Value} (h : w.ownsRow 0 e size (.slice (some ⟨g, 0, none⟩) n c) n xs) (j : Nat) (y : Value) : (w.setCell ⟨g, j, none⟩ y).ownsRow 0 e size (.slice (some ⟨g, 0, none⟩) n c) n (xs.set j y) := by
  refine ⟨by rw [List.length_set]; exact h.1, .inr ?_⟩
  rcases h.2 with ⟨h1, _⟩ | ⟨g', cap, cur, h1, h2, h3, h4, h5, h6, h7⟩
  · cases h1
  · cases h1
    refine ⟨g, c, cur.setIfInBounds j y, rfl, h2, set_heap h3 y, h4, h5, by simp [h6], ?_⟩
    rw [Array.toList_setIfInBounds, List.take_set, h7]
theorem own_at {w : World} {g n c : Nat} {e : TypeId} {size : Nat} {xs : List Value} (h : w.ownsRow 0 e size (.slice (some ⟨g, 0, none⟩) n c) n xs) {j : Nat} {y : Value} (hj : xs[j]? = some y) : w.cell? ⟨g, j, none⟩ = some y := by
  have := h.cells rfl j y hj
  rw [Lib.add_plain, Nat.zero_add] at this
  exact this
theorem own_fz {w : World} {g n c : Nat} {e : TypeId} {size : Nat} {xs : List Value} (h : w.ownsRow 0 e size (.slice (some ⟨g, 0, none⟩) n c) n xs) (j : Nat) : w.frozen? ⟨g, j, none⟩ = false := by
  rcases h.2 with ⟨h1, _⟩ | ⟨g', cap, cur, h1, h2, h3, h4⟩
  · cases h1
  · cases h1; exact Lib.frozen_of_heap h3 j
theorem own_some {w : World} {v : Value} {n : Nat} {e : TypeId} {size : Nat} {xs : List Value} (h : w.ownsRow 0 e size v n xs) (hn : 0 < n) : ∃ g c, v = .slice (some ⟨g, 0, none⟩) n c := by
  rcases h.2 with ⟨_, h1⟩ | ⟨g, cap, cur, h1, _⟩
  · omega
  · exact ⟨g, cap, h1⟩

/-! ### A block of the call's own -/
def rawK (b : Nat) (o : Obj) : Kind where
  Q w B S := w.heap[b]? = some o ∧ (∀ x, B x ↔ x = b) ∧ ∀ x, ¬ S x
  lt := fun ⟨h, hB, hS⟩ x hx => by
    rcases hx with hx | hx
    · rw [(hB x).1 hx]; exact lt_heap h
    · exact (hS x hx).elim
  kept := fun ⟨h, hB, hS⟩ hb => ⟨(hb _ (.inl ((hB _).2 rfl))).trans h, hB, hS⟩
def Ob.raw (b : Nat) (o : Obj) : Ob := .of (rawK b o)
section
variable {w0 w : World} {os : List Ob} {i b : Nat} {o : Obj} {cs : Array Value} {e : TypeId}
theorem OMem.raw (h : OMem w0 w os) (o : Obj) : OMem w0 (w.alloc o) (os ++ [.raw w.heap.size o]) :=
  h.make ((Below.refl _ _).alloc (Nat.le_refl _) _) (K := rawK w.heap.size o) (B := (· = w.heap.size)) (S := fun _ => False) ⟨(MapKept.heap_alloc w o).1, fun _ => Iff.rfl, fun _ => id⟩ (fun _ hx => Nat.le_of_eq hx.symm) fun _ h => h.elim
theorem OMem.two (h : OMem w0 w os) (o o' : Obj) : OMem w0 ((w.alloc o).alloc o') (os ++ [.raw w.heap.size o, .raw (w.heap.size + 1) o']) := by
  have h1 := (h.raw o).raw o'
  have hs : (w.alloc o).heap.size = w.heap.size + 1 := by simp
  rw [List.append_assoc, hs] at h1
  exact h1
theorem OMem.raw_at (h : OMem w0 w os) (hi : os[i]? = some (.raw b o)) : w.heap[b]? = some o := by
  obtain ⟨_, _, hq, _⟩ := h.change hi; exact hq.1
theorem OMem.raw_set (h : OMem w0 w os) (hi : os[i]? = some (.raw b (.cells cs e (0, 0)))) (j : Nat) (v : Value) : OMem w0 (w.setCell ⟨b, j, none⟩ v) (os.set i (.raw b (.cells (cs.setIfInBounds j v) e (0, 0)))) := by
  obtain ⟨B, S, hq, hch⟩ := h.change hi
  exact hch rfl rfl rfl (by rw [set_size]; exact Nat.le_refl _) (fun x _ hn => set_other fun e => hn ((hq.2.1 x).2 e)) (K' := rawK b (.cells (cs.setIfInBounds j v) e (0, 0))) (B' := (· = b)) (S' := fun _ => False) ⟨set_heap hq.1 v, fun _ => Iff.rfl, fun _ => id⟩ (fun x hx => .inl ((hq.2.1 x).2 hx)) fun _ h => h.elim
theorem raw_last {os : List Ob} {x y z : Ob} : (os ++ [x, y]).set (os.length + 1) z = os ++ [x, z] := by simp
theorem get_last {os : List Ob} {x y : Ob} : (os ++ [x, y])[os.length + 1]? = some y := by simp
/-- The list with an object changed, and two more behind it. -/
theorem set_two {os : List Ob} {a x y z : Ob} (hi : os[i]? = some z) : (os ++ [x, y]).set i a = os.set i a ++ [x, y] := List.set_append_left _ _ (List.getElem?_eq_some_iff.1 hi).1
theorem get_two {os : List Ob} {x y z : Ob} (hi : os[i]? = some z) : (os ++ [x, y])[i]? = some z := by rw [List.getElem?_append_left (List.getElem?_eq_some_iff.1 hi).1]; exact hi
theorem OMem.drop_two {x y : Ob} (h : OMem w0 w (os ++ [x, y])) : OMem w0 w os := by have := h.take os.length; rwa [List.take_left] at this
end

/-! ### A slice of the call's own, of elements of any size -/
def rowK (e : TypeId) (size : Nat) (v : Value) (n : Nat) (xs : List Value) : Kind where
  Q w B S := w.ownsRow 0 e size v n xs ∧ (∀ x, B x ↔ v.ownBlock = some x) ∧ ∀ x, ¬ S x
  lt := fun ⟨h, hB, hS⟩ x hx => hx.elim (fun q => (h.lt x ((hB x).1 q)).2) fun q => (hS x q).elim
  kept := fun ⟨h, hB, hS⟩ hb => ⟨ownsRow_block h fun x hx => hb x (.inl ((hB x).2 hx)), hB, hS⟩
def Ob.row (e : TypeId) (size : Nat) (v : Value) (n : Nat) (xs : List Value) : Ob := .of (rowK e size v n xs)
section
variable {w0 w w' : World} {os : List Ob} {i n n' size : Nat} {e : TypeId} {v v' : Value} {xs xs' : List Value}
theorem OMem.rowNil (h : OMem w0 w os) (e : TypeId) (size : Nat) : OMem w0 w (os ++ [.row e size (.slice none 0 0) 0 []]) :=
  h.make (Below.refl _ _) (K := rowK e size (.slice none 0 0) 0 []) (B := fun x => (Value.slice none 0 0).ownBlock = some x) (S := fun _ => False) ⟨World.ownsRow_nil _ _ _ _, fun _ => Iff.rfl, fun _ => id⟩ (fun _ hx => (by cases hx)) fun _ h => h.elim
theorem OMem.rowAt (h : OMem w0 w os) (hi : os[i]? = some (.row e size v n xs)) : w.ownsRow 0 e size v n xs := by
  obtain ⟨_, _, hq, _⟩ := h.change hi; exact hq.1
theorem OMem.rowGrow (h : OMem w0 w os) (hi : os[i]? = some (.row e size v n xs)) (hg : w.grownBy w' v.ownBlock) (ho : w'.ownsRow 0 e size v' n' xs') (hat : v'.ownBlock = v.ownBlock ∨ v'.ownBlock = some w.heap.size) : OMem w0 w' (os.set i (.row e size v' n' xs')) := by
  obtain ⟨B, S, hq, hch⟩ := h.change hi
  refine hch hg.os hg.tape hg.output hg.size (fun x hx hn => hg.block x hx fun q => hn ((hq.2.1 x).2 q.symm)) (K' := rowK e size v' n' xs') (B' := fun x => v'.ownBlock = some x) (S' := fun _ => False) ⟨ho, fun _ => Iff.rfl, fun _ => id⟩ (fun x hx => ?_) fun _ h => h.elim
  rcases hat with q | q
  · exact .inl ((hq.2.1 x).2 (q.symm.trans hx))
  · have := q.symm.trans hx; simp at this; exact .inr (by omega)
end
section
variable {w0 w w' : World} {os : List Ob} {i n n' g c size : Nat} {e : TypeId} {v v' : Value} {xs xs' : List Value}
/-- A slice that was just made. -/
theorem OMem.rowMade (h : OMem w0 w os) (hg : w.grownBy w' none) (ho : w'.ownsRow 0 e size (.slice (some ⟨w.heap.size, 0, none⟩) n c) n xs) : OMem w0 w' (os ++ [.row e size (.slice (some ⟨w.heap.size, 0, none⟩) n c) n xs]) :=
  h.make ⟨hg.os, hg.tape, hg.output, hg.size, fun x hx => hg.block x hx (by simp)⟩ (K := rowK e size (.slice (some ⟨w.heap.size, 0, none⟩) n c) n xs) (B := fun x => (Value.slice (some ⟨w.heap.size, 0, none⟩) n c).ownBlock = some x) (S := fun _ => False) ⟨ho, fun _ => Iff.rfl, fun _ => id⟩ (fun x hx => Nat.le_of_eq (by simpa [Value.ownBlock] using hx)) fun _ h => h.elim
/-- A store into a slice. -/
theorem OMem.rowSet (h : OMem w0 w os) (hi : os[i]? = some (.row e size (.slice (some ⟨g, 0, none⟩) n c) n xs)) (j : Nat) (y : Value) : OMem w0 (w.setCell ⟨g, j, none⟩ y) (os.set i (.row e size (.slice (some ⟨g, 0, none⟩) n c) n (xs.set j y))) := by
  obtain ⟨B, S, hq, hch⟩ := h.change hi
  refine hch rfl rfl rfl (by rw [set_size]; exact Nat.le_refl _) (fun x _ hn => set_other fun e => hn ((hq.2.1 x).2 (by rw [e]; rfl))) (K' := rowK e size (.slice (some ⟨g, 0, none⟩) n c) n (xs.set j y)) (B' := B) (S' := S) ⟨own_set hq.1 j y, hq.2⟩ (fun x hx => .inl hx) fun x hx => .inl hx
end
end Go.Proofs.YtenbdnkipkfpkaaDoor
