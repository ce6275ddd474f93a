/- The reference's disk: plain, and how it lies in memory. -/
import Derived.Test.YtadnmoaemnajgaaMem
import Derived.Test.YtadnmoaemnajgaaPlain
import Derived.Laws.OwnMore
namespace Go.Proofs.Ytadnmoaemnajgaa
open Go.RowKit Go.Maps Go.ChangeMaps Go.MapKept
open Dp

/-- A file of the reference. -/
structure Fl where
  num : Nat
  now : List UInt8
  dur : List UInt8
/-- The reference's disk. -/
structure Rf where
  files : List Fl
  queue : List (Nat × Nat)
  lost : Nat
  down : Bool
  armed : Nat
  keep : List Int
def Rf.new : Rf := ⟨[], [], 0, false, 0, []⟩
def Rf.look (R : Rf) (f : Int) : Option Fl := R.files.find? (fun x => decide ((x.num : Int) = f))
def Rf.now (R : Rf) (f : Int) : List UInt8 := ((R.look f).map Fl.now).getD []
def Rf.dur (R : Rf) (f : Int) : List UInt8 := ((R.look f).map Fl.dur).getD []
def Rf.set (R : Rf) (x : Fl) : Rf := { R with files := R.files.filter (fun y => decide (y.num ≠ x.num)) ++ [x] }

structure Rf.Ok (R : Rf) : Prop where
  nums : (R.files.map Fl.num).Nodup
  file : ∀ x ∈ R.files, x.num < 16 ∧ x.now.length ≤ 16777216 ∧ x.dur.length ≤ 16777216
  queue : R.queue.Nodup
  few : ∀ p ∈ R.queue, p.1 < 16 ∧ p.2 < 262144
  lost : (R.lost : Int) ≤ 9223372036854775807
  armed : (R.armed : Int) ≤ 9223372036854775807
  keep : ∀ z ∈ R.keep, I64 z
  size : R.keep.length ≤ 1000000
theorem Rf.Ok.len {R : Rf} (h : R.Ok) : R.files.length ≤ 16 := by
  have := nodup_le 16 (R.files.map Fl.num) h.nums (fun x hx => by obtain ⟨y, hy, rfl⟩ := List.mem_map.1 hx; exact (h.file y hy).1)
  simpa using this
theorem queue_len {ps : List (Nat × Nat)} (h1 : ps.Nodup) (h2 : ∀ p ∈ ps, p.1 < 16 ∧ p.2 < 262144) : ps.length ≤ 4194304 := by
  have := nodup_le 4194304 (ps.map fun p => p.1 * 262144 + p.2) ?_ ?_
  · simpa using this
  · refine List.pairwise_map.2 (h1.imp_of_mem ?_)
    intro p q hp hq hne he
    have h1 := h2 p hp
    have h2 := h2 q hq
    exact hne (Prod.ext (by omega) (by omega))
  · intro x hx
    obtain ⟨p, hp, rfl⟩ := List.mem_map.1 hx
    have := h2 p hp
    omega

def flVs (l : List Fl) : List Value := l.flatMap fun x => [.int .i64 (x.num : Int), .string (bs x.now), .string (bs x.dur)]
theorem flVs_length (l : List Fl) : (flVs l).length = l.length * 3 := by
  induction l with
  | nil => rfl
  | cons a l ih => simp [flVs] at ih ⊢; omega
theorem flVs_snoc (l : List Fl) (x : Fl) : flVs (l ++ [x]) = flVs l ++ [.int .i64 (x.num : Int), .string (bs x.now), .string (bs x.dur)] := by simp [flVs]
theorem flVs_at {l : List Fl} {k : Nat} {x : Fl} (h : l[k]? = some x) : (flVs l)[k * 3]? = some (.int .i64 (x.num : Int)) ∧ (flVs l)[k * 3 + 1]? = some (.string (bs x.now)) ∧ (flVs l)[k * 3 + 2]? = some (.string (bs x.dur)) := by
  induction l generalizing k with
  | nil => simp at h
  | cons a l ih =>
    cases k with
    | zero => simp at h; subst h; exact ⟨rfl, rfl, rfl⟩
    | succ k =>
      have := ih (k := k) (by simpa using h)
      have e : flVs (a :: l) = .int .i64 (a.num : Int) :: .string (bs a.now) :: .string (bs a.dur) :: flVs l := rfl
      rw [e, show (k + 1) * 3 = k * 3 + 3 by omega]
      exact this
theorem oneCell_fl (l : List Fl) : ∀ u ∈ flVs l, u.oneCell' = true := by
  intro u hu
  simp only [flVs, List.mem_flatMap] at hu
  obtain ⟨x, _, hx⟩ := hu
  simp at hx
  rcases hx with rfl | rfl | rfl <;> rfl

structure RLoc where
  fv : Value
  qv : Value
  kv : Value

/-- The reference R lies in block r; its blocks have the labels from id on. -/
structure RIn (w : World) (lab : Nat → Nat) (id r : Nat) (R : Rf) (L : RLoc) : Prop where
  ok : R.Ok
  lo : LabOk lab w
  id64 : 64 ≤ id
  blk : w.heap[r]? = some (.cells #[L.fv, L.qv, .int .i64 (R.lost : Int), .bool R.down, .int .i64 (R.armed : Int), L.kv] 64 (0, 0))
  files : w.ownsRow 0 67 3 L.fv R.files.length (flVs R.files)
  queue : w.ownsRow 0 79 2 L.qv R.queue.length (secVs R.queue)
  keep : w.ownsRow 0 3 1 L.kv R.keep.length (intVs R.keep)
  lr : lab r = id
  lf : ∀ k, L.fv.ownBlock = some k → lab k = id + 1
  lq : ∀ k, L.qv.ownBlock = some k → lab k = id + 2
  lk : ∀ k, L.kv.ownBlock = some k → lab k = id + 3

section
variable {w : World} {lab : Nat → Nat} {id r : Nat} {R : Rf} {L : RLoc}
theorem RIn.rlt (h : RIn w lab id r R L) : r < w.heap.size := lt_heap h.blk
theorem RIn.c (h : RIn w lab id r R L) (i : Nat) : w.cell? ⟨r, i, none⟩ = (#[L.fv, L.qv, .int .i64 (R.lost : Int), .bool R.down, .int .i64 (R.armed : Int), L.kv] : Array Value)[i]? := by
  rw [Lib.cell_of_heap h.blk]
theorem RIn.fz (h : RIn w lab id r R L) (i : Nat) : w.frozen? ⟨r, i, none⟩ = false := Lib.frozen_of_heap h.blk i
theorem RIn.kept {w' : World} {lab' : Nat → Nat} (h : RIn w lab id r R L) (lo : LabOk lab' w') (hl : ∀ x, x < w.heap.size → lab' x = lab x) (hb : ∀ x, x < w.heap.size → id ≤ lab x → lab x < id + 64 → w'.heap[x]? = w.heap[x]?) : RIn w' lab' id r R L where
  ok := h.ok
  lo := lo
  id64 := h.id64
  blk := by rw [hb r h.rlt (by rw [h.lr]; omega) (by rw [h.lr]; omega)]; exact h.blk
  files := ownsRow_block h.files fun g hg => hb g (h.files.lt g hg).2 (by rw [h.lf g hg]; omega) (by rw [h.lf g hg]; omega)
  queue := ownsRow_block h.queue fun g hg => hb g (h.queue.lt g hg).2 (by rw [h.lq g hg]; omega) (by rw [h.lq g hg]; omega)
  keep := ownsRow_block h.keep fun g hg => hb g (h.keep.lt g hg).2 (by rw [h.lk g hg]; omega) (by rw [h.lk g hg]; omega)
  lr := by rw [hl r h.rlt]; exact h.lr
  lf g hg := by rw [hl g (h.files.lt g hg).2]; exact h.lf g hg
  lq g hg := by rw [hl g (h.queue.lt g hg).2]; exact h.lq g hg
  lk g hg := by rw [hl g (h.keep.lt g hg).2]; exact h.lk g hg
theorem RIn.fresh {w' : World} (h : RIn w lab id r R L) (hb : Below w.heap.size w w') : RIn w' lab id r R L :=
  h.kept (fun x hx => h.lo x (Nat.le_trans hb.size hx)) (fun _ _ => rfl) fun x hx _ _ => hb.block x hx
theorem RIn.other {w' : World} {lab' : Nat → Nat} {id' : Nat} (h : RIn w lab id r R L) (k : Chg id' lab lab' w w') (lo : LabOk lab' w') (hne : id' + 64 ≤ id ∨ id + 64 ≤ id') : RIn w' lab' id r R L :=
  h.kept lo k.labs fun x hx h1 h2 => k.block x hx (by omega)
theorem RIn.chg0 {w' : World} (h : RIn w lab id r R L) (hb : Below w.heap.size w w') : Chg id lab lab w w' :=
  ⟨hb.os, hb.tape, hb.output, hb.size, fun _ _ => rfl, fun x hx _ => hb.block x hx, fun x hx => .inl (h.lo x hx)⟩
theorem RIn.chgT {w0 w' : World} {lab0 : Nat → Nat} (h : RIn w lab id r R L) (k : Chg id lab0 lab w0 w) (hb : Below w.heap.size w w') : Chg id lab0 lab w0 w' := k.trans (h.chg0 hb)

/-- A field is stored that is no list. -/
theorem RIn.setField {w' : World} (h : RIn w lab id r R L) {R' : Rf} {i : Nat} {v : Value} (hp : Hp (w.setCell ⟨r, i, none⟩ v) w') (ok : R'.Ok) (hf : R'.files = R.files) (hq : R'.queue = R.queue) (hk : R'.keep = R.keep)
    (hc : (#[L.fv, L.qv, .int .i64 (R.lost : Int), .bool R.down, .int .i64 (R.armed : Int), L.kv] : Array Value).setIfInBounds i v = #[L.fv, L.qv, .int .i64 (R'.lost : Int), .bool R'.down, .int .i64 (R'.armed : Int), L.kv]) :
    RIn w' lab id r R' L ∧ Chg id lab lab w w' := by
  have hsz : w'.heap.size = w.heap.size := by rw [hp.heap, set_size]
  have hne : ∀ {k c : Nat}, lab k = id + c → 0 < c → k ≠ r := fun h1 h2 e => by subst e; rw [h.lr] at h1; omega
  have hb : ∀ x, x ≠ r → w'.heap[x]? = w.heap[x]? := fun x hx => by rw [hp.heap]; exact set_other hx
  refine ⟨⟨ok, fun x hx => h.lo x (by omega), h.id64, ?_, ?_, ?_, ?_, h.lr, h.lf, h.lq, h.lk⟩, ⟨hp.os, hp.tape, hp.output, by omega, fun _ _ => rfl, fun x _ hl => hb x (fun e => by subst e; rw [h.lr] at hl; omega), fun x hx => .inl (h.lo x hx)⟩⟩
  · rw [hp.heap, set_heap h.blk, hc]
  · rw [hf]; exact ownsRow_block h.files fun k hk => hb k (hne (h.lf k hk) (by omega))
  · rw [hq]; exact ownsRow_block h.queue fun k hk => hb k (hne (h.lq k hk) (by omega))
  · rw [hk]; exact ownsRow_block h.keep fun k hk => hb k (hne (h.lk k hk) (by omega))

/-- A list is stored: a row without a label, or one that bears the field's label already. -/
def rlab (lab : Nat → Nat) (v : Value) (c : Nat) (x : Nat) : Nat := if v.ownBlock = some x then c else lab x
theorem rlab_other {v : Value} {c x : Nat} (hv : ∀ k, v.ownBlock = some k → lab k = 0 ∨ lab k = c) (h0 : lab x ≠ 0) : rlab lab v c x = lab x := by
  unfold rlab
  split
  · rename_i e
    rcases hv x e with h | h
    · exact absurd h h0
    · exact h.symm
  · rfl
theorem RIn.setRow {w1 w' : World} {lab0 : Nat → Nat} {w0 : World} (h : RIn w lab id r R L) (k0 : Chg id lab0 lab w0 w) {R' : Rf} {L' : RLoc} {i : Nat} {v : Value} {row : Option Nat} {c : Nat} (hc : c = id + 1 ∨ c = id + 2 ∨ c = id + 3)
    (g : w.grownBy w1 row) (hrow : ∀ k, row = some k → lab k = c ∨ (lab k = 0 ∧ w0.heap.size ≤ k)) (hv : ∀ k, v.ownBlock = some k → row = some k ∨ w.heap.size ≤ k) (hvlt : ∀ k, v.ownBlock = some k → k < w1.heap.size) (hp : Hp (w1.setCell ⟨r, i, none⟩ v) w') (ok : R'.Ok) (hl : R'.lost = R.lost) (hd : R'.down = R.down) (ha : R'.armed = R.armed)
    (hblk : (#[L.fv, L.qv, .int .i64 (R.lost : Int), .bool R.down, .int .i64 (R.armed : Int), L.kv] : Array Value).setIfInBounds i v = #[L'.fv, L'.qv, .int .i64 (R.lost : Int), .bool R.down, .int .i64 (R.armed : Int), L'.kv])
    (files : (c ≠ id + 1 ∧ L'.fv = L.fv ∧ R'.files = R.files) ∨ (c = id + 1 ∧ L'.fv = v ∧ w1.ownsRow 0 67 3 v R'.files.length (flVs R'.files)))
    (queue : (c ≠ id + 2 ∧ L'.qv = L.qv ∧ R'.queue = R.queue) ∨ (c = id + 2 ∧ L'.qv = v ∧ w1.ownsRow 0 79 2 v R'.queue.length (secVs R'.queue)))
    (keep : (c ≠ id + 3 ∧ L'.kv = L.kv ∧ R'.keep = R.keep) ∨ (c = id + 3 ∧ L'.kv = v ∧ w1.ownsRow 0 3 1 v R'.keep.length (intVs R'.keep))) :
    RIn w' (rlab lab v c) id r R' L' ∧ Chg id lab0 (rlab lab v c) w0 w' := by
  have h64 := h.id64
  have hsz : w'.heap.size = w1.heap.size := by rw [hp.heap, set_size]
  have hgs := g.size
  have hlab : ∀ k, v.ownBlock = some k → lab k = 0 ∨ lab k = c := fun k hk => by
    rcases hv k hk with h1 | h1
    · rcases hrow k h1 with h2 | h2
      · exact .inr h2
      · exact .inl h2.1
    · exact .inl (h.lo k h1)
  have hro : ∀ x, lab x ≠ 0 → rlab lab v c x = lab x := fun x hx => rlab_other hlab hx
  have hvn : v.ownBlock ≠ some r := fun e => by
    rcases hlab r e with h1 | h1 <;> rw [h.lr] at h1 <;> omega
  have hrn : row ≠ some r := fun e => by
    rcases hrow r e with h1 | h1
    · rw [h.lr] at h1; omega
    · rw [h.lr] at h1; omega
  have hb1 : ∀ x, x < w.heap.size → row ≠ some x → x ≠ r → w'.heap[x]? = w.heap[x]? := fun x hx h1 h2 => by
    rw [hp.heap, set_other h2]; exact g.block x hx (fun e => h1 e.symm)
  have hkeep : ∀ {x d : Nat}, x < w.heap.size → lab x = id + d → 0 < d → d < 64 → id + d ≠ c → w'.heap[x]? = w.heap[x]? := fun {x d} hx h1 h2 h3 h4 => hb1 x hx (fun e => by
    rcases hrow x e with h5 | h5
    · omega
    · omega) (fun e => by subst e; rw [h.lr] at h1; omega)
  have hset : ∀ {e : TypeId} {size n : Nat} {xs : List Value}, w1.ownsRow 0 e size v n xs → w'.ownsRow 0 e size v n xs := fun o => ownsRow_block o fun k hk => by
    rw [hp.heap]; exact set_other (fun e => hvn (by rw [hk]; exact congrArg some e))
  refine ⟨⟨ok, fun x hx => ?_, h64, ?_, ?_, ?_, ?_, ?_, fun k hk => ?_, fun k hk => ?_, fun k hk => ?_⟩, ⟨hp.os.trans (g.os.trans k0.os), hp.tape.trans (g.tape.trans k0.tape), hp.output.trans (g.output.trans k0.output), Nat.le_trans k0.size (by omega), fun x hx => ?_, fun x hx hl => ?_, fun x hx => ?_⟩⟩
  · unfold rlab
    rw [if_neg (fun e => by have := hvlt x e; omega)]
    exact h.lo x (by omega)
  · have e1 : w1.heap[r]? = some (.cells #[L.fv, L.qv, .int .i64 (R.lost : Int), .bool R.down, .int .i64 (R.armed : Int), L.kv] 64 (0, 0)) := (g.block r h.rlt (fun e => hrn e.symm)).trans h.blk
    rw [hp.heap, set_heap e1, hblk, hl, hd, ha]
  · rcases files with ⟨h1, h2, h3⟩ | ⟨_, h2, h3⟩
    · rw [h2, h3]; exact ownsRow_block h.files fun k hk => hkeep (h.files.lt k hk).2 (h.lf k hk) (by omega) (by omega) (fun e => h1 e.symm)
    · rw [h2]; exact hset h3
  · rcases queue with ⟨h1, h2, h3⟩ | ⟨_, h2, h3⟩
    · rw [h2, h3]; exact ownsRow_block h.queue fun k hk => hkeep (h.queue.lt k hk).2 (h.lq k hk) (by omega) (by omega) (fun e => h1 e.symm)
    · rw [h2]; exact hset h3
  · rcases keep with ⟨h1, h2, h3⟩ | ⟨_, h2, h3⟩
    · rw [h2, h3]; exact ownsRow_block h.keep fun k hk => hkeep (h.keep.lt k hk).2 (h.lk k hk) (by omega) (by omega) (fun e => h1 e.symm)
    · rw [h2]; exact hset h3
  · rw [hro r (by rw [h.lr]; omega)]; exact h.lr
  · rcases files with ⟨h1, h2, h3⟩ | ⟨h1, h2, h3⟩
    · rw [h2] at hk; rw [hro k (by rw [h.lf k hk]; omega)]; exact h.lf k hk
    · rw [h2] at hk; unfold rlab; rw [if_pos hk, h1]
  · rcases queue with ⟨h1, h2, h3⟩ | ⟨h1, h2, h3⟩
    · rw [h2] at hk; rw [hro k (by rw [h.lq k hk]; omega)]; exact h.lq k hk
    · rw [h2] at hk; unfold rlab; rw [if_pos hk, h1]
  · rcases keep with ⟨h1, h2, h3⟩ | ⟨h1, h2, h3⟩
    · rw [h2] at hk; rw [hro k (by rw [h.lk k hk]; omega)]; exact h.lk k hk
    · rw [h2] at hk; unfold rlab; rw [if_pos hk, h1]
  · have hx' : x < w.heap.size := Nat.lt_of_lt_of_le hx k0.size
    unfold rlab
    split
    · rename_i e
      rcases hv x e with h1 | h1
      · rcases hrow x h1 with h2 | h2
        · rw [← h2]; exact k0.labs x hx
        · omega
      · omega
    · exact k0.labs x hx
  · have hx' : x < w.heap.size := Nat.lt_of_lt_of_le hx k0.size
    rw [hb1 x hx' (fun e => by
      rcases hrow x e with h2 | h2
      · rw [k0.labs x hx] at h2; omega
      · omega) (fun e => by subst e; have := k0.labs x hx; rw [h.lr] at this; omega)]
    exact k0.block x hx hl
  · unfold rlab
    split
    · exact .inr (by omega)
    · exact k0.fresh x hx
end

/-- The reference, with what it meets. -/
def RG (w : World) (lab : Nat → Nat) (id r : Nat) (R : Rf) : Prop := ∃ L, RIn w lab id r R L
/-- What a call on the reference leaves. -/
def RPost (lab : Nat → Nat) (id r : Nat) (v : Value) (R' : Rf) (w : World) (e : Ending) (w' : World) : Prop := e = .returned v ∧ ∃ lab', RG w' lab' id r R' ∧ Chg id lab lab' w w'
theorem RG.fresh {w w' : World} {lab : Nat → Nat} {id r : Nat} {R : Rf} (h : RG w lab id r R) (hb : Below w.heap.size w w') : RG w' lab id r R := by obtain ⟨L, h⟩ := h; exact ⟨L, h.fresh hb⟩
theorem RG.chg0 {w w' : World} {lab : Nat → Nat} {id r : Nat} {R : Rf} (h : RG w lab id r R) (hb : Below w.heap.size w w') : Chg id lab lab w w' := by obtain ⟨L, h⟩ := h; exact h.chg0 hb
theorem RG.ok {w : World} {lab : Nat → Nat} {id r : Nat} {R : Rf} (h : RG w lab id r R) : R.Ok := by obtain ⟨L, h⟩ := h; exact h.ok
theorem RG.lo {w : World} {lab : Nat → Nat} {id r : Nat} {R : Rf} (h : RG w lab id r R) : LabOk lab w := by obtain ⟨L, h⟩ := h; exact h.lo
end Go.Proofs.Ytadnmoaemnajgaa
