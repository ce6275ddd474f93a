/- Several texts in one: DSmall, DPlayed, DReadsW, DRHeap, DRGet, DRPut, DRSet, DRAdd, DOrd, DRSurv. -/
import Derived.Test.YtjbcgahdiolhhaaGreatDoorMC
import Derived.Laws.OwnMore
import Derived.Laws.Rows
import Derived.OrdersHeld
import Derived.StillTail
import Derived.Tactics
import Derived.KernelRfl
namespace Go.Proofs.YtjbcgahdiolhhaaGreatDoor.D2
open Go.RowKit Go.Maps Go.ChangeMaps Go.MapKept
open Dp
attribute [local go_sem ↓] Go.wp_at_zero Go.wp_at_succ

def f4 : Dk := (f3.write 16 0 []).2
theorem ex0 : (e2.write 0 1 [88, 89]).1 = 0 := by decide
def f5 : Dk := (f4.write 1 16777216 [97]).2
theorem i64_nat {x : Int} (h : decide (0 ≤ x ∧ x ≤ 9223372036854775807) = true) : I64 x := by
  have := of_decide_eq_true h; exact ⟨by omega, this.2⟩
theorem src_alloc (w : World) (ks : List Int) (e : TypeId) : SrcIs (w.alloc (.cells (intVs ks).toArray e)) 1 (.slice (some ⟨w.heap.size, 0, none⟩) ks.length ks.length) ks.length (intVs ks) := by
  refine ⟨by rw [intVs_length, Nat.mul_one], .inr ⟨⟨w.heap.size, 0, none⟩, ks.length, rfl, fun j u hj => ?_, oneCell_ints ks⟩⟩
  rw [Lib.add_plain, Nat.zero_add, alloc_new_cell]
  simpa using hj
theorem at_alloc {w : World} {n c : Nat} : ∀ ad n' c', Value.slice (some ⟨w.heap.size, 0, none⟩) n c = .slice (some ad) n' c' → w.heap.size ≤ ad.block := fun ad n' c' h => by cases h; exact Nat.le_refl _
section
variable {w0 w : World} {ds : List (Nat × Dk)} {i b : Nat} {D D' : Dk}
theorem mem_write1 (h : Mem w0 w ds) (hi : ds[i]? = some (b, D)) (f a : Int) (s : List UInt8) (hf : I64 f) (ha : I64 a) (hs : s.length ≤ 140737488355327) {r : Int} (hr : D.write f a s = (r, D')) :
    Calls Tryz.prog 30 #[.pointer (some ⟨b, 0, none⟩), .int .i64 f, .int .i64 a, .string (bs s)] w (MPost w0 ds i b (.int .i64 r) D') := by
  have := mem_write h hi f a s hf ha hs
  rwa [hr] at this
theorem mem_sync1 (h : Mem w0 w ds) (hi : ds[i]? = some (b, D)) (f : Int) (hf : I64 f) {r : Int} (hr : D.sync f = (r, D')) :
    Calls Tryz.prog 33 #[.pointer (some ⟨b, 0, none⟩), .int .i64 f] w (MPost w0 ds i b (.int .i64 r) D') := by
  have := mem_sync h hi f hf
  rwa [hr] at this
theorem mem_size1 (h : Mem w0 w ds) (hi : ds[i]? = some (b, D)) (f : Int) (hf : I64 f) {r : Nat} (hr : D.size f = r) : Calls Tryz.prog 27 #[.pointer (some ⟨b, 0, none⟩), .int .i64 f] w fun e w' => e = .returned (.int .i64 (r : Int)) ∧ w = w' := by
  have := mem_size h hi f hf
  rwa [hr] at this
theorem mem_read1 (h : Mem w0 w ds) (hi : ds[i]? = some (b, D)) (f a n : Int) (hf : I64 f) (ha : I64 a) (hn : I64 n) {s : List UInt8} {r : Int} (hr : D.read f a n = (s, r)) (z : ByteArray) (hz : bs s = z) :
    Calls Tryz.prog 26 #[.pointer (some ⟨b, 0, none⟩), .int .i64 f, .int .i64 a, .int .i64 n] w fun e w' => e = .returned (.tuple #[.string z, .int .i64 r]) ∧ Mem w0 w' ds := by
  have := mem_read h hi f a n hf ha hn
  rw [hr] at this
  rwa [← hz]
end

end Go.Proofs.YtjbcgahdiolhhaaGreatDoor.D2
namespace Go.Proofs.YtjbcgahdiolhhaaGreatDoor.D2
open Go.RowKit Go.Maps Go.ChangeMaps Go.MapKept
open Dp
attribute [local go_sem ↓] Go.wp_at_zero Go.wp_at_succ

theorem nums_of_src {w : World} {v : Value} {ks : List Int} (h : SrcIs w 1 v ks.length (intVs ks)) (hk : ∀ z ∈ ks, I64 z) : Nums w w v ks := by
  refine ⟨h, hk, fun ad n c hv hn => ?_⟩
  rcases h.2 with ⟨rfl, _⟩ | ⟨ad', cap, rfl, hc, _⟩
  · cases hv
  · cases hv
    cases ks with
    | nil => simp at hn
    | cons z zs =>
      have h0 := hc 0 (.int .i64 z) (by simp [intVs])
      have := Lib.lt_of_cell h0
      obtain ⟨bk, o, sp⟩ := ad
      revert this; unfold Addr.add; split <;> exact fun h => h
/-- The acts that a statement was called with. -/
structure Args (w0 : World) (a : Option Addr) (xs : List Act1) : Prop where
  at_ : ActsIn w0 a xs
  ok : ∀ x ∈ xs, x.Ok
theorem Args.get {w0 w : World} {a : Option Addr} {xs : List Act1} (h : Args w0 a xs) (hb : Below w0.heap.size w0 w) {i : Nat} {x : Act1} (hx : xs[i]? = some x) :
    ∃ b off va vc, a = some ⟨b, off, none⟩ ∧ ACells w b (off + i * 5) x (.slice va x.Keep.length vc) ∧ Nums w0 w (.slice va x.Keep.length vc) x.Keep ∧ x.Ok := by
  obtain ⟨b, off, vk, h1, h2, h3⟩ := h.at_.get hx
  have hk := h.ok x (List.mem_of_getElem? hx)
  obtain ⟨va, vc, rfl⟩ := src_form h3
  exact ⟨b, off, va, vc, h1, ⟨below_cell h2.c0 hb, below_cell h2.c1 hb, below_cell h2.c2 hb, below_cell h2.c3 hb, below_cell h2.c4 hb⟩, (nums_of_src h3 hk.Keep).to hb, hk⟩

/-- What a file is after a crash, of a copy. -/
def afterL (D : Dk) (ks : List Int) (f : Int) : List UInt8 × Int := ((D.crash ks).start).read f 0 16777216

theorem bs_get (l : List UInt8) (j : Nat) (h : j < (bs l).size) (c : UInt8) (hc : l[j]? = some c) : (bs l)[j]'h = c := by
  obtain ⟨hl, rfl⟩ := List.getElem?_eq_some_iff.1 hc
  rfl
theorem src_chg {w w' : World} {lab lab' : Nat → Nat} {id : Nat} {v : Value} {ks : List Int} (h : SrcIs w 1 v ks.length (intVs ks)) (k : Chg id lab lab' w w') (ho : ∀ ad n c, v = .slice (some ad) n c → 0 < n → lab ad.block < id ∨ id + 64 ≤ lab ad.block) : SrcIs w' 1 v ks.length (intVs ks) := by
  refine ⟨h.1, ?_⟩
  rcases h.2 with h2 | ⟨ad, cap, rfl, h4, h5⟩
  · exact .inl h2
  · refine .inr ⟨ad, cap, rfl, fun j u hj => ?_, h5⟩
    have h6 := h4 j u hj
    have hb : (ad.add j).block = ad.block := by cases ad; unfold Addr.add; split <;> rfl
    rw [World.cell?_of_block (w := w) (k.block _ (Lib.lt_of_cell h6) (by rw [hb]; exact ho ad _ _ rfl (by have := (List.getElem?_eq_some_iff.1 hj).1; rw [intVs_length] at this; omega)))]
    exact h6
theorem take_push {ds : List (Nat × Dk)} {p q r : Nat × Dk} : ((((ds ++ [p]).set ds.length q).set ds.length r)).take ds.length = ds := by
  simp

end Go.Proofs.YtjbcgahdiolhhaaGreatDoor.D2
namespace Go.Proofs.YtjbcgahdiolhhaaGreatDoor.D2
open Go.RowKit Go.Maps Go.ChangeMaps Go.MapKept
open Dp
attribute [local go_sem ↓] Go.wp_at_zero Go.wp_at_succ

theorem str_eq {l m : List UInt8} (h : l = m) : (!((bs l).toList == (bs m).toList)) = false := by subst h; simp
theorem Mem.good {w0 w : World} {ds : List (Nat × Dk)} (h : Mem w0 w ds) {i b : Nat} {D : Dk} (hi : ds[i]? = some (b, D)) : Good D ∧ D.Ok := by
  obtain ⟨lab, h⟩ := h
  have g := h.at_ i _ hi
  obtain ⟨⟨L, h1⟩, h2⟩ := g
  exact ⟨h2, h1.ok⟩

section
variable {w : World} {a : Option Addr} {xs : List Act1}
end
end Go.Proofs.YtjbcgahdiolhhaaGreatDoor.D2
namespace Go.Proofs.YtjbcgahdiolhhaaGreatDoor.D2
open Go.RowKit Go.Maps Go.ChangeMaps Go.MapKept
open Dp

/-- A file of the reference. -/
structure Fl where
  num : Nat
  now : List UInt8
  dur : List UInt8
/-- The reference's disk. -/
structure Rf where
  files : List Fl
  queue : List (Nat × Nat)
  lost : Nat
  down : Bool
  armed : Nat
  keep : List Int
def Rf.new : Rf := ⟨[], [], 0, false, 0, []⟩
def Rf.look (R : Rf) (f : Int) : Option Fl := R.files.find? (fun x => decide ((x.num : Int) = f))
def Rf.now (R : Rf) (f : Int) : List UInt8 := ((R.look f).map Fl.now).getD []
def Rf.dur (R : Rf) (f : Int) : List UInt8 := ((R.look f).map Fl.dur).getD []
def Rf.set (R : Rf) (x : Fl) : Rf := { R with files := R.files.filter (fun y => decide (y.num ≠ x.num)) ++ [x] }

structure Rf.Ok (R : Rf) : Prop where
  nums : (R.files.map Fl.num).Nodup
  file : ∀ x ∈ R.files, x.num < 16 ∧ x.now.length ≤ 16777216 ∧ x.dur.length ≤ 16777216
  queue : R.queue.Nodup
  few : ∀ p ∈ R.queue, p.1 < 16 ∧ p.2 < 262144
  lost : (R.lost : Int) ≤ 9223372036854775807
  armed : (R.armed : Int) ≤ 9223372036854775807
  keep : ∀ z ∈ R.keep, I64 z
  size : R.keep.length ≤ 1000000
theorem Rf.Ok.len {R : Rf} (h : R.Ok) : R.files.length ≤ 16 := by
  have := nodup_le 16 (R.files.map Fl.num) h.nums (fun x hx => by obtain ⟨y, hy, rfl⟩ := List.mem_map.1 hx; exact (h.file y hy).1)
  simpa using this
theorem queue_len {ps : List (Nat × Nat)} (h1 : ps.Nodup) (h2 : ∀ p ∈ ps, p.1 < 16 ∧ p.2 < 262144) : ps.length ≤ 4194304 := by
  have := nodup_le 4194304 (ps.map fun p => p.1 * 262144 + p.2) ?_ ?_
  · simpa using this
  · refine List.pairwise_map.2 (h1.imp_of_mem ?_)
    intro p q hp hq hne he
    have h1 := h2 p hp
    have h2 := h2 q hq
    exact hne (Prod.ext (by omega) (by omega))
  · intro x hx
    obtain ⟨p, hp, rfl⟩ := List.mem_map.1 hx
    have := h2 p hp
    omega

def flVs (l : List Fl) : List Value := l.flatMap fun x => [.int .i64 (x.num : Int), .string (bs x.now), .string (bs x.dur)]
theorem flVs_length (l : List Fl) : (flVs l).length = l.length * 3 := by
  induction l with
  | nil => rfl
  | cons a l ih => simp [flVs] at ih ⊢; omega
theorem flVs_snoc (l : List Fl) (x : Fl) : flVs (l ++ [x]) = flVs l ++ [.int .i64 (x.num : Int), .string (bs x.now), .string (bs x.dur)] := by simp [flVs]
theorem flVs_at {l : List Fl} {k : Nat} {x : Fl} (h : l[k]? = some x) : (flVs l)[k * 3]? = some (.int .i64 (x.num : Int)) ∧ (flVs l)[k * 3 + 1]? = some (.string (bs x.now)) ∧ (flVs l)[k * 3 + 2]? = some (.string (bs x.dur)) := by
  induction l generalizing k with
  | nil => simp at h
  | cons a l ih =>
    cases k with
    | zero => simp at h; subst h; exact ⟨rfl, rfl, rfl⟩
    | succ k =>
      have := ih (k := k) (by simpa using h)
      have e : flVs (a :: l) = .int .i64 (a.num : Int) :: .string (bs a.now) :: .string (bs a.dur) :: flVs l := rfl
      rw [e, show (k + 1) * 3 = k * 3 + 3 by omega]
      exact this
theorem oneCell_fl (l : List Fl) : ∀ u ∈ flVs l, u.oneCell' = true := by
  intro u hu
  simp only [flVs, List.mem_flatMap] at hu
  obtain ⟨x, _, hx⟩ := hu
  simp at hx
  rcases hx with rfl | rfl | rfl <;> rfl

structure RLoc where
  fv : Value
  qv : Value
  kv : Value

/-- The reference R lies in block r; its blocks have the labels from id on. -/
structure RIn (w : World) (lab : Nat → Nat) (id r : Nat) (R : Rf) (L : RLoc) : Prop where
  ok : R.Ok
  lo : LabOk lab w
  id64 : 64 ≤ id
  blk : w.heap[r]? = some (.cells #[L.fv, L.qv, .int .i64 (R.lost : Int), .bool R.down, .int .i64 (R.armed : Int), L.kv] 68 (0, 0))
  files : w.ownsRow 0 86 3 L.fv R.files.length (flVs R.files)
  queue : w.ownsRow 0 84 2 L.qv R.queue.length (secVs R.queue)
  keep : w.ownsRow 0 3 1 L.kv R.keep.length (intVs R.keep)
  lr : lab r = id
  lf : ∀ k, L.fv.ownBlock = some k → lab k = id + 1
  lq : ∀ k, L.qv.ownBlock = some k → lab k = id + 2
  lk : ∀ k, L.kv.ownBlock = some k → lab k = id + 3

section
variable {w : World} {lab : Nat → Nat} {id r : Nat} {R : Rf} {L : RLoc}
theorem RIn.rlt (h : RIn w lab id r R L) : r < w.heap.size := lt_heap h.blk
theorem RIn.c (h : RIn w lab id r R L) (i : Nat) : w.cell? ⟨r, i, none⟩ = (#[L.fv, L.qv, .int .i64 (R.lost : Int), .bool R.down, .int .i64 (R.armed : Int), L.kv] : Array Value)[i]? := by
  rw [Lib.cell_of_heap h.blk]
theorem RIn.fz (h : RIn w lab id r R L) (i : Nat) : w.frozen? ⟨r, i, none⟩ = false := Lib.frozen_of_heap h.blk i
theorem RIn.kept {w' : World} {lab' : Nat → Nat} (h : RIn w lab id r R L) (lo : LabOk lab' w') (hl : ∀ x, x < w.heap.size → lab' x = lab x) (hb : ∀ x, x < w.heap.size → id ≤ lab x → lab x < id + 64 → w'.heap[x]? = w.heap[x]?) : RIn w' lab' id r R L where
  ok := h.ok
  lo := lo
  id64 := h.id64
  blk := by rw [hb r h.rlt (by rw [h.lr]; omega) (by rw [h.lr]; omega)]; exact h.blk
  files := ownsRow_block h.files fun g hg => hb g (h.files.lt g hg).2 (by rw [h.lf g hg]; omega) (by rw [h.lf g hg]; omega)
  queue := ownsRow_block h.queue fun g hg => hb g (h.queue.lt g hg).2 (by rw [h.lq g hg]; omega) (by rw [h.lq g hg]; omega)
  keep := ownsRow_block h.keep fun g hg => hb g (h.keep.lt g hg).2 (by rw [h.lk g hg]; omega) (by rw [h.lk g hg]; omega)
  lr := by rw [hl r h.rlt]; exact h.lr
  lf g hg := by rw [hl g (h.files.lt g hg).2]; exact h.lf g hg
  lq g hg := by rw [hl g (h.queue.lt g hg).2]; exact h.lq g hg
  lk g hg := by rw [hl g (h.keep.lt g hg).2]; exact h.lk g hg
theorem RIn.fresh {w' : World} (h : RIn w lab id r R L) (hb : Below w.heap.size w w') : RIn w' lab id r R L :=
  h.kept (fun x hx => h.lo x (Nat.le_trans hb.size hx)) (fun _ _ => rfl) fun x hx _ _ => hb.block x hx
theorem RIn.other {w' : World} {lab' : Nat → Nat} {id' : Nat} (h : RIn w lab id r R L) (k : Chg id' lab lab' w w') (lo : LabOk lab' w') (hne : id' + 64 ≤ id ∨ id + 64 ≤ id') : RIn w' lab' id r R L :=
  h.kept lo k.labs fun x hx h1 h2 => k.block x hx (by omega)
theorem RIn.chg0 {w' : World} (h : RIn w lab id r R L) (hb : Below w.heap.size w w') : Chg id lab lab w w' :=
  ⟨hb.os, hb.tape, hb.output, hb.size, fun _ _ => rfl, fun x hx _ => hb.block x hx, fun x hx => .inl (h.lo x hx)⟩
theorem RIn.chgT {w0 w' : World} {lab0 : Nat → Nat} (h : RIn w lab id r R L) (k : Chg id lab0 lab w0 w) (hb : Below w.heap.size w w') : Chg id lab0 lab w0 w' := k.trans (h.chg0 hb)

/-- A field is stored that is no list. -/
theorem RIn.setField {w' : World} (h : RIn w lab id r R L) {R' : Rf} {i : Nat} {v : Value} (hp : Hp (w.setCell ⟨r, i, none⟩ v) w') (ok : R'.Ok) (hf : R'.files = R.files) (hq : R'.queue = R.queue) (hk : R'.keep = R.keep)
    (hc : (#[L.fv, L.qv, .int .i64 (R.lost : Int), .bool R.down, .int .i64 (R.armed : Int), L.kv] : Array Value).setIfInBounds i v = #[L.fv, L.qv, .int .i64 (R'.lost : Int), .bool R'.down, .int .i64 (R'.armed : Int), L.kv]) :
    RIn w' lab id r R' L ∧ Chg id lab lab w w' := by
  have hsz : w'.heap.size = w.heap.size := by rw [hp.heap, set_size]
  have hne : ∀ {k c : Nat}, lab k = id + c → 0 < c → k ≠ r := fun h1 h2 e => by subst e; rw [h.lr] at h1; omega
  have hb : ∀ x, x ≠ r → w'.heap[x]? = w.heap[x]? := fun x hx => by rw [hp.heap]; exact set_other hx
  refine ⟨⟨ok, fun x hx => h.lo x (by omega), h.id64, ?_, ?_, ?_, ?_, h.lr, h.lf, h.lq, h.lk⟩, ⟨hp.os, hp.tape, hp.output, by omega, fun _ _ => rfl, fun x _ hl => hb x (fun e => by subst e; rw [h.lr] at hl; omega), fun x hx => .inl (h.lo x hx)⟩⟩
  · rw [hp.heap, set_heap h.blk, hc]
  · rw [hf]; exact ownsRow_block h.files fun k hk => hb k (hne (h.lf k hk) (by omega))
  · rw [hq]; exact ownsRow_block h.queue fun k hk => hb k (hne (h.lq k hk) (by omega))
  · rw [hk]; exact ownsRow_block h.keep fun k hk => hb k (hne (h.lk k hk) (by omega))

/-- A list is stored: a row without a label, or one that bears the field's label already. -/
def rlab (lab : Nat → Nat) (v : Value) (c : Nat) (x : Nat) : Nat := if v.ownBlock = some x then c else lab x
theorem rlab_other {v : Value} {c x : Nat} (hv : ∀ k, v.ownBlock = some k → lab k = 0 ∨ lab k = c) (h0 : lab x ≠ 0) : rlab lab v c x = lab x := by
  unfold rlab
  split
  · rename_i e
    rcases hv x e with h | h
    · exact absurd h h0
    · exact h.symm
  · rfl
theorem RIn.setRow {w1 w' : World} {lab0 : Nat → Nat} {w0 : World} (h : RIn w lab id r R L) (k0 : Chg id lab0 lab w0 w) {R' : Rf} {L' : RLoc} {i : Nat} {v : Value} {row : Option Nat} {c : Nat} (hc : c = id + 1 ∨ c = id + 2 ∨ c = id + 3)
    (g : w.grownBy w1 row) (hrow : ∀ k, row = some k → lab k = c ∨ (lab k = 0 ∧ w0.heap.size ≤ k)) (hv : ∀ k, v.ownBlock = some k → row = some k ∨ w.heap.size ≤ k) (hvlt : ∀ k, v.ownBlock = some k → k < w1.heap.size) (hp : Hp (w1.setCell ⟨r, i, none⟩ v) w') (ok : R'.Ok) (hl : R'.lost = R.lost) (hd : R'.down = R.down) (ha : R'.armed = R.armed)
    (hblk : (#[L.fv, L.qv, .int .i64 (R.lost : Int), .bool R.down, .int .i64 (R.armed : Int), L.kv] : Array Value).setIfInBounds i v = #[L'.fv, L'.qv, .int .i64 (R.lost : Int), .bool R.down, .int .i64 (R.armed : Int), L'.kv])
    (files : (c ≠ id + 1 ∧ L'.fv = L.fv ∧ R'.files = R.files) ∨ (c = id + 1 ∧ L'.fv = v ∧ w1.ownsRow 0 86 3 v R'.files.length (flVs R'.files)))
    (queue : (c ≠ id + 2 ∧ L'.qv = L.qv ∧ R'.queue = R.queue) ∨ (c = id + 2 ∧ L'.qv = v ∧ w1.ownsRow 0 84 2 v R'.queue.length (secVs R'.queue)))
    (keep : (c ≠ id + 3 ∧ L'.kv = L.kv ∧ R'.keep = R.keep) ∨ (c = id + 3 ∧ L'.kv = v ∧ w1.ownsRow 0 3 1 v R'.keep.length (intVs R'.keep))) :
    RIn w' (rlab lab v c) id r R' L' ∧ Chg id lab0 (rlab lab v c) w0 w' := by
  have h64 := h.id64
  have hsz : w'.heap.size = w1.heap.size := by rw [hp.heap, set_size]
  have hgs := g.size
  have hlab : ∀ k, v.ownBlock = some k → lab k = 0 ∨ lab k = c := fun k hk => by
    rcases hv k hk with h1 | h1
    · rcases hrow k h1 with h2 | h2
      · exact .inr h2
      · exact .inl h2.1
    · exact .inl (h.lo k h1)
  have hro : ∀ x, lab x ≠ 0 → rlab lab v c x = lab x := fun x hx => rlab_other hlab hx
  have hvn : v.ownBlock ≠ some r := fun e => by
    rcases hlab r e with h1 | h1 <;> rw [h.lr] at h1 <;> omega
  have hrn : row ≠ some r := fun e => by
    rcases hrow r e with h1 | h1
    · rw [h.lr] at h1; omega
    · rw [h.lr] at h1; omega
  have hb1 : ∀ x, x < w.heap.size → row ≠ some x → x ≠ r → w'.heap[x]? = w.heap[x]? := fun x hx h1 h2 => by
    rw [hp.heap, set_other h2]; exact g.block x hx (fun e => h1 e.symm)
  have hkeep : ∀ {x d : Nat}, x < w.heap.size → lab x = id + d → 0 < d → d < 64 → id + d ≠ c → w'.heap[x]? = w.heap[x]? := fun {x d} hx h1 h2 h3 h4 => hb1 x hx (fun e => by
    rcases hrow x e with h5 | h5
    · omega
    · omega) (fun e => by subst e; rw [h.lr] at h1; omega)
  have hset : ∀ {e : TypeId} {size n : Nat} {xs : List Value}, w1.ownsRow 0 e size v n xs → w'.ownsRow 0 e size v n xs := fun o => ownsRow_block o fun k hk => by
    rw [hp.heap]; exact set_other (fun e => hvn (by rw [hk]; exact congrArg some e))
  refine ⟨⟨ok, fun x hx => ?_, h64, ?_, ?_, ?_, ?_, ?_, fun k hk => ?_, fun k hk => ?_, fun k hk => ?_⟩, ⟨hp.os.trans (g.os.trans k0.os), hp.tape.trans (g.tape.trans k0.tape), hp.output.trans (g.output.trans k0.output), Nat.le_trans k0.size (by omega), fun x hx => ?_, fun x hx hl => ?_, fun x hx => ?_⟩⟩
  · unfold rlab
    rw [if_neg (fun e => by have := hvlt x e; omega)]
    exact h.lo x (by omega)
  · have e1 : w1.heap[r]? = some (.cells #[L.fv, L.qv, .int .i64 (R.lost : Int), .bool R.down, .int .i64 (R.armed : Int), L.kv] 68 (0, 0)) := (g.block r h.rlt (fun e => hrn e.symm)).trans h.blk
    rw [hp.heap, set_heap e1, hblk, hl, hd, ha]
  · rcases files with ⟨h1, h2, h3⟩ | ⟨_, h2, h3⟩
    · rw [h2, h3]; exact ownsRow_block h.files fun k hk => hkeep (h.files.lt k hk).2 (h.lf k hk) (by omega) (by omega) (fun e => h1 e.symm)
    · rw [h2]; exact hset h3
  · rcases queue with ⟨h1, h2, h3⟩ | ⟨_, h2, h3⟩
    · rw [h2, h3]; exact ownsRow_block h.queue fun k hk => hkeep (h.queue.lt k hk).2 (h.lq k hk) (by omega) (by omega) (fun e => h1 e.symm)
    · rw [h2]; exact hset h3
  · rcases keep with ⟨h1, h2, h3⟩ | ⟨_, h2, h3⟩
    · rw [h2, h3]; exact ownsRow_block h.keep fun k hk => hkeep (h.keep.lt k hk).2 (h.lk k hk) (by omega) (by omega) (fun e => h1 e.symm)
    · rw [h2]; exact hset h3
  · rw [hro r (by rw [h.lr]; omega)]; exact h.lr
  · rcases files with ⟨h1, h2, h3⟩ | ⟨h1, h2, h3⟩
    · rw [h2] at hk; rw [hro k (by rw [h.lf k hk]; omega)]; exact h.lf k hk
    · rw [h2] at hk; unfold rlab; rw [if_pos hk, h1]
  · rcases queue with ⟨h1, h2, h3⟩ | ⟨h1, h2, h3⟩
    · rw [h2] at hk; rw [hro k (by rw [h.lq k hk]; omega)]; exact h.lq k hk
    · rw [h2] at hk; unfold rlab; rw [if_pos hk, h1]
  · rcases keep with ⟨h1, h2, h3⟩ | ⟨h1, h2, h3⟩
    · rw [h2] at hk; rw [hro k (by rw [h.lk k hk]; omega)]; exact h.lk k hk
    · rw [h2] at hk; unfold rlab; rw [if_pos hk, h1]
  · have hx' : x < w.heap.size := Nat.lt_of_lt_of_le hx k0.size
    unfold rlab
    split
    · rename_i e
      rcases hv x e with h1 | h1
      · rcases hrow x h1 with h2 | h2
        · rw [← h2]; exact k0.labs x hx
        · omega
      · omega
    · exact k0.labs x hx
  · have hx' : x < w.heap.size := Nat.lt_of_lt_of_le hx k0.size
    rw [hb1 x hx' (fun e => by
      rcases hrow x e with h2 | h2
      · rw [k0.labs x hx] at h2; omega
      · omega) (fun e => by subst e; have := k0.labs x hx; rw [h.lr] at this; omega)]
    exact k0.block x hx hl
  · unfold rlab
    split
    · exact .inr (by omega)
    · exact k0.fresh x hx
end

/-- The reference, with what it meets. -/
def RG (w : World) (lab : Nat → Nat) (id r : Nat) (R : Rf) : Prop := ∃ L, RIn w lab id r R L
/-- What a call on the reference leaves. -/
def RPost (lab : Nat → Nat) (id r : Nat) (v : Value) (R' : Rf) (w : World) (e : Ending) (w' : World) : Prop := e = .returned v ∧ ∃ lab', RG w' lab' id r R' ∧ Chg id lab lab' w w'
theorem RG.fresh {w w' : World} {lab : Nat → Nat} {id r : Nat} {R : Rf} (h : RG w lab id r R) (hb : Below w.heap.size w w') : RG w' lab id r R := by obtain ⟨L, h⟩ := h; exact ⟨L, h.fresh hb⟩
theorem RG.chg0 {w w' : World} {lab : Nat → Nat} {id r : Nat} {R : Rf} (h : RG w lab id r R) (hb : Below w.heap.size w w') : Chg id lab lab w w' := by obtain ⟨L, h⟩ := h; exact h.chg0 hb
theorem RG.ok {w : World} {lab : Nat → Nat} {id r : Nat} {R : Rf} (h : RG w lab id r R) : R.Ok := by obtain ⟨L, h⟩ := h; exact h.ok
theorem RG.lo {w : World} {lab : Nat → Nat} {id r : Nat} {R : Rf} (h : RG w lab id r R) : LabOk lab w := by obtain ⟨L, h⟩ := h; exact h.lo
end Go.Proofs.YtjbcgahdiolhhaaGreatDoor.D2
namespace Go.Proofs.YtjbcgahdiolhhaaGreatDoor.D2
open Go.RowKit Go.Maps Go.ChangeMaps Go.MapKept
open Dp
attribute [local go_sem ↓] Go.wp_at_zero Go.wp_at_succ

section
variable {w : World} {lab : Nat → Nat} {id r : Nat} {R : Rf} {L : RLoc}
theorem own_at {e : TypeId} {size n : Nat} {v : Value} {xs : List Value} (h : w.ownsRow 0 e size v n xs) (hn : 0 < n) : ∃ g cap, v = .slice (some ⟨g, 0, none⟩) n cap ∧ (∀ j u, xs[j]? = some u → w.cell? ⟨g, j, none⟩ = some u) := by
  rcases h.2 with ⟨_, h0⟩ | ⟨g, cap, cur, hv, _⟩
  · omega
  · refine ⟨g, cap, hv, fun j u hj => ?_⟩
    have := h.cells (g := g) (by rw [hv]; rfl) j u hj
    rwa [Lib.add_plain, Nat.zero_add] at this
theorem fl_cell (h : RIn w lab id r R L) {k : Nat} {x : Fl} (hx : R.files[k]? = some x) : ∃ g cap, L.fv = .slice (some ⟨g, 0, none⟩) R.files.length cap ∧ w.cell? ⟨g, k * 3, none⟩ = some (.int .i64 (x.num : Int)) ∧ w.cell? ⟨g, k * 3 + 1, none⟩ = some (.string (bs x.now)) ∧ w.cell? ⟨g, k * 3 + 2, none⟩ = some (.string (bs x.dur)) := by
  have hlt := (List.getElem?_eq_some_iff.1 hx).1
  obtain ⟨g, cap, hv, hc⟩ := own_at h.files (by omega)
  obtain ⟨e0, e1, e2⟩ := flVs_at hx
  exact ⟨g, cap, hv, hc _ _ e0, hc _ _ e1, hc _ _ e2⟩
theorem secVs_at {l : List (Nat × Nat)} {k : Nat} {p : Nat × Nat} (h : l[k]? = some p) : (secVs l)[k * 2]? = some (.int .i64 (p.1 : Int)) ∧ (secVs l)[k * 2 + 1]? = some (.int .i64 (p.2 : Int)) := by
  induction l generalizing k with
  | nil => simp at h
  | cons a l ih =>
    cases k with
    | zero => simp at h; subst h; exact ⟨rfl, rfl⟩
    | succ k =>
      have := ih (k := k) (by simpa using h)
      have e : secVs (a :: l) = .int .i64 (a.1 : Int) :: .int .i64 (a.2 : Int) :: secVs l := rfl
      rw [e, show (k + 1) * 2 = k * 2 + 2 by omega]
      exact this
theorem q_cell (h : RIn w lab id r R L) {k : Nat} {p : Nat × Nat} (hx : R.queue[k]? = some p) : ∃ g cap, L.qv = .slice (some ⟨g, 0, none⟩) R.queue.length cap ∧ w.cell? ⟨g, k * 2, none⟩ = some (.int .i64 (p.1 : Int)) ∧ w.cell? ⟨g, k * 2 + 1, none⟩ = some (.int .i64 (p.2 : Int)) := by
  have hlt := (List.getElem?_eq_some_iff.1 hx).1
  obtain ⟨g, cap, hv, hc⟩ := own_at h.queue (by omega)
  obtain ⟨e0, e1⟩ := secVs_at hx
  exact ⟨g, cap, hv, hc _ _ e0, hc _ _ e1⟩

theorem look_none {R : Rf} {f : Int} (h : ∀ (j : Nat) (x : Fl), R.files[j]? = some x → (x.num : Int) ≠ f) : R.now f = [] ∧ R.dur f = [] := by
  have : R.look f = none := by
    unfold Rf.look
    rw [List.find?_eq_none]
    intro x hx
    obtain ⟨j, hj, rfl⟩ := List.mem_iff_getElem.1 hx
    simpa using h j _ (List.getElem?_eq_getElem hj)
  unfold Rf.now Rf.dur
  rw [this]
  exact ⟨rfl, rfl⟩
theorem look_some {R : Rf} {f : Int} {k : Nat} {x : Fl} (hx : R.files[k]? = some x) (he : (x.num : Int) = f) (h : ∀ (j : Nat) (y : Fl), j < k → R.files[j]? = some y → (y.num : Int) ≠ f) : R.now f = x.now ∧ R.dur f = x.dur := by
  have : R.look f = some x := by
    unfold Rf.look
    rw [List.find?_eq_some_iff_getElem]
    obtain ⟨hk, rfl⟩ := List.getElem?_eq_some_iff.1 hx
    exact ⟨by simpa using he, k, hk, rfl, fun j hj => by simpa using h j _ hj (List.getElem?_eq_getElem (by omega))⟩
  unfold Rf.now Rf.dur
  rw [this]
  exact ⟨rfl, rfl⟩

def flV (f : Int) (now dur : List UInt8) : Value := .agg #[.int .i64 f, .string (bs now), .string (bs dur)]

set_option maxHeartbeats 2000000 in
set_option maxRecDepth 100000 in
theorem get_any (h : RIn w lab id r R L) (f : Int) (hf : I64 f) :
    Calls Tryz.prog 49 #[.pointer (some ⟨r, 0, none⟩), .int .i64 f] w fun e w' => e = .returned (.agg #[.int .i64 f, .string (bs (R.now f)), .string (bs (R.dur f))]) ∧ Below w.heap.size w w' := by
  have H := Lib.hid h
  have hlen := h.ok.len
  have HB := Lib.hid (below_alloc w (.cells #[.int .i64 0, .string ⟨#[]⟩, .string ⟨#[]⟩] 86))
  have h1 := h.fresh HB.out
  have c0 := h1.c 0
  simp only [List.getElem?_toArray, List.getElem?_cons_zero] at c0
  obtain ⟨fa, fc, hfv⟩ := own_form h.files
  rw [hfv] at c0
  have H1 := Lib.hid h1
  have HFV := Lib.hid hfv
  clear h h1 hfv
  go_enter Tryz.func49, Tryz.ntmps49
  go_wp2
  go_loop [5] (fun i => ∃ k : Nat, k ≤ R.files.length ∧ i = .int .i64 (k : Int) ∧ Hid (∀ (j : Nat) (y : Fl), j < k → R.files[j]? = some y → (y.num : Int) ≠ f)) (fun i => R.files.length - (intOf i).toNat)
  case atStart => exact ⟨0, Nat.zero_le _, rfl, Lib.hid fun j y hj => absurd hj (Nat.not_lt_zero j)⟩
  case round =>
    obtain ⟨k, hk, rfl, HN⟩ := hrel
    by_cases hlt : k < R.files.length
    · obtain ⟨x, hx⟩ : ∃ x, R.files[k]? = some x := ⟨_, List.getElem?_eq_getElem hlt⟩
      obtain ⟨g, cap, hv, d0, d1, d2⟩ := fl_cell H1.out hx
      have hv2 := HFV.out.symm.trans hv
      simp only [Value.slice.injEq, true_and] at hv2
      obtain ⟨rfl, rfl⟩ := hv2
      by_cases he : (x.num : Int) = f
      · obtain ⟨e1, e2⟩ := look_some hx he HN.out
        have E1 := Lib.hid e1
        have E2 := Lib.hid e2
        clear hx e1 e2
        subst he
        go_wp2
        refine bodyPost_ret (results_cell_row (d := _) rfl _ _ w.heap.size 86 #[.int .i64 (x.num : Int), .string (bs x.now), .string (bs x.dur)] (0, 0) rfl (heap_alloc_new w _) Tryz.underlying86 rfl (by kernel_rfl)) rfl ⟨by rw [E1.out, E2.out], below_alloc w _⟩
      · have he' : ((x.num : Int) == f) = false := by simpa using he
        have HX := Lib.hid hx
        have HE := Lib.hid he
        clear hx he
        go_wp2
        go_round
        case rel => exact ⟨k + 1, by omega, by go_num, Lib.hid fun j y hj hy => by
          by_cases hjk : j = k
          · subst hjk; rw [HX.out] at hy; cases hy; exact HE.out
          · exact HN.out j y (by omega) hy⟩
        case measure => simp [intOf]; omega
    · obtain ⟨e1, e2⟩ := look_none (R := R) (f := f) (fun j x hx => HN.out j x (by have := (List.getElem?_eq_some_iff.1 hx).1; omega) hx)
      have E1 := Lib.hid e1
      have E2 := Lib.hid e2
      clear e1 e2
      go_wp2
      refine bodyPost_ret (results_cell_row (d := _) rfl _ _ w.heap.size 86 #[.int .i64 f, .string ⟨#[]⟩, .string ⟨#[]⟩] (0, 0) rfl (heap_alloc_new w _) Tryz.underlying86 rfl (by kernel_rfl)) rfl ⟨by rw [E1.out, E2.out]; rfl, below_alloc w _⟩

theorem field1 (f : Int) (s t : ByteArray) : ∀ w : World, (Instr.field 86 (.agg #[.int .i64 f, .string s, .string t]) 1).run Tryz.prog w = .ok (.string s) w := fun _ => by kernel_rfl
def Rf.size (R : Rf) (f : Int) : Nat := (R.now f).length
set_option maxRecDepth 100000 in
theorem rsize_any (h : RIn w lab id r R L) (f : Int) (hf : I64 f) : Calls Tryz.prog 29 #[.pointer (some ⟨r, 0, none⟩), .int .i64 f] w fun e w' => e = .returned (.int .i64 (R.size f : Int)) ∧ Below w.heap.size w w' := by
  have H := Lib.hid h
  have hz : ((bs (R.now f)).size : Int) = (R.size f : Int) := by rw [bs_size]; rfl
  have HZ := Lib.hid hz
  have hfd := field1 f (bs (R.now f)) (bs (R.dur f))
  clear h hz
  go_enter Tryz.func29, Tryz.ntmps29
  go_wp2_with (go_at_call 49; refine (get_any H.out f hf).mono ?_; rintro e w1 ⟨rfl, b1⟩; refine Hid.out ?_)
  refine Lib.hid ?_
  go_wp2
  go_ret
  exact ⟨by rw [← HZ.out]; rfl, b1⟩
def Rf.may (R : Rf) (f : Int) : Int := if R.down then 8 else if f < 0 ∨ 15 < f then 1 else 0
set_option maxRecDepth 100000 in
theorem may_any (h : RIn w lab id r R L) (f : Int) : Calls Tryz.prog 48 #[.pointer (some ⟨r, 0, none⟩), .int .i64 f] w fun e w' => e = .returned (.int .i64 (R.may f)) ∧ w = w' := by
  have c3 := h.c 3
  simp only [List.getElem?_toArray, List.getElem?_cons_zero, List.getElem?_cons_succ] at c3
  clear h
  unfold Rf.may
  cases hd : R.down with
  | true =>
    rw [hd] at c3
    rw [if_pos rfl]
    go_enter Tryz.func48, Tryz.ntmps48
    go_wp2
    go_ret
    exact ⟨rfl, rfl⟩
  | false =>
    rw [hd] at c3
    rw [if_neg (by simp)]
    by_cases h1 : f < 0
    · rw [if_pos (.inl h1)]
      go_enter Tryz.func48, Tryz.ntmps48
      go_wp2
      go_ret
      exact ⟨rfl, rfl⟩
    · have h0 : 0 ≤ f := by omega
      by_cases h2 : 15 < f
      · rw [if_pos (.inr h2)]
        go_enter Tryz.func48, Tryz.ntmps48
        go_wp2
        go_ret
        exact ⟨rfl, rfl⟩
      · rw [if_neg (by omega)]
        go_enter Tryz.func48, Tryz.ntmps48
        go_wp2
        go_ret
        exact ⟨rfl, rfl⟩
def fitsB (a : Int) (s : List UInt8) : Bool := decide (0 ≤ a ∧ a + s.length ≤ 16777216)
set_option maxRecDepth 100000 in
theorem fits_any (a : Int) (s : List UInt8) (ha : I64 a) (hs : s.length ≤ 140737488355327) (w : World) : Calls Tryz.prog 68 #[.int .i64 a, .string (bs s)] w fun e w' => e = .returned (.bool (fitsB a s)) ∧ w = w' := by
  have hz := bs_size s
  have a1 := ha.1
  have a2 := ha.2
  have hs2 : (bs s).size ≤ 140737488355327 := by rw [hz]; exact hs
  unfold fitsB
  by_cases h1 : 0 ≤ a
  · by_cases h2 : a ≤ 16777216
    · by_cases h3 : a + ((bs s).size : Int) ≤ 16777216
      · rw [decide_eq_true (by rw [hz] at h3; exact ⟨h1, h3⟩)]
        clear ha hz
        go_enter Tryz.func68, Tryz.ntmps68
        go_wp2
        go_ret
        exact ⟨ret_bool (by first | rfl | simp | (simp; omega)), rfl⟩
      · rw [decide_eq_false (by rw [hz] at h3; omega)]
        clear ha hz
        go_enter Tryz.func68, Tryz.ntmps68
        go_wp2
        go_ret
        exact ⟨ret_bool (by first | rfl | simp | (simp; omega)), rfl⟩
    · rw [decide_eq_false (by omega)]
      clear ha hz
      go_enter Tryz.func68, Tryz.ntmps68
      go_wp2
      go_ret
      exact ⟨ret_bool (by first | rfl | simp | (simp; omega)), rfl⟩
  · rw [decide_eq_false (by omega)]
    clear ha hz
    go_enter Tryz.func68, Tryz.ntmps68
    go_wp2
    go_ret
    exact ⟨ret_bool (by first | rfl | simp | (simp; omega)), rfl⟩
set_option maxHeartbeats 1000000 in
set_option maxRecDepth 100000 in
theorem pending_any (h : RIn w lab id r R L) (f n : Nat) :
    Calls Tryz.prog 84 #[.pointer (some ⟨r, 0, none⟩), .int .i64 (f : Int), .int .i64 (n : Int)] w fun e w' => e = .returned (.bool (decide ((f, n) ∈ R.queue))) ∧ w = w' := by
  have H := Lib.hid h
  have hlen := queue_len h.ok.queue h.ok.few
  have c1 := h.c 1
  simp only [List.getElem?_toArray, List.getElem?_cons_zero, List.getElem?_cons_succ] at c1
  obtain ⟨fa, fc, hfv⟩ := own_form h.queue
  rw [hfv] at c1
  have HFV := Lib.hid hfv
  clear h hfv
  go_enter Tryz.func84, Tryz.ntmps84
  go_wp2
  go_loop [7] (fun i => ∃ k : Nat, k ≤ R.queue.length ∧ i = .int .i64 (k : Int) ∧ Hid (∀ (j : Nat) (y : Nat × Nat), j < k → R.queue[j]? = some y → y ≠ (f, n))) (fun i => R.queue.length - (intOf i).toNat)
  case atStart => exact ⟨0, Nat.zero_le _, rfl, Lib.hid fun j y hj => absurd hj (Nat.not_lt_zero j)⟩
  case round =>
    obtain ⟨k, hk, rfl, HN⟩ := hrel
    by_cases hlt : k < R.queue.length
    · obtain ⟨p, hp⟩ : ∃ p, R.queue[k]? = some p := ⟨_, List.getElem?_eq_getElem hlt⟩
      obtain ⟨g, cap, hv, d0, d1⟩ := q_cell H.out hp
      have hv2 := HFV.out.symm.trans hv
      simp only [Value.slice.injEq, true_and] at hv2
      obtain ⟨rfl, rfl⟩ := hv2
      have HP := Lib.hid hp
      clear hp
      by_cases h1 : p.1 = f
      · have h1' : ((p.1 : Int) == (f : Int)) = true := by rw [beq_iff_eq]; omega
        by_cases h2 : p.2 = n
        · have h2' : ((p.2 : Int) == (n : Int)) = true := by rw [beq_iff_eq]; omega
          have HM := Lib.hid (show decide ((f, n) ∈ R.queue) = true by rw [decide_eq_true_iff]; have := List.mem_of_getElem? HP.out; rwa [show p = (f, n) from Prod.ext h1 h2] at this)
          clear h1 h2
          go_wp2
          go_ret
          exact ⟨ret_bool HM.out.symm, rfl⟩
        · have h2' : ((p.2 : Int) == (n : Int)) = false := by rw [beq_eq_false_iff_ne]; omega
          have HE := Lib.hid (show p ≠ (f, n) from fun e => h2 (congrArg Prod.snd e))
          clear h1 h2
          go_wp2
          go_round
          case rel => exact ⟨k + 1, by omega, by go_num, Lib.hid fun j y hj hy => by
            by_cases hjk : j = k
            · subst hjk; rw [HP.out] at hy; cases hy; exact HE.out
            · exact HN.out j y (by omega) hy⟩
          case measure => simp [intOf]; omega
      · have h1' : ((p.1 : Int) == (f : Int)) = false := by rw [beq_eq_false_iff_ne]; omega
        have HE := Lib.hid (show p ≠ (f, n) from fun e => h1 (congrArg Prod.fst e))
        clear h1
        go_wp2
        go_round
        case rel => exact ⟨k + 1, by omega, by go_num, Lib.hid fun j y hj hy => by
          by_cases hjk : j = k
          · subst hjk; rw [HP.out] at hy; cases hy; exact HE.out
          · exact HN.out j y (by omega) hy⟩
        case measure => simp [intOf]; omega
    · have HM := Lib.hid (show decide ((f, n) ∈ R.queue) = false by
        rw [decide_eq_false_iff_not]
        intro hm
        obtain ⟨j, hj, he⟩ := List.mem_iff_getElem.1 hm
        exact HN.out j (f, n) (by omega) (by rw [List.getElem?_eq_getElem hj, he]) rfl)
      go_wp2
      go_ret
      exact ⟨ret_bool HM.out.symm, rfl⟩
end
end Go.Proofs.YtjbcgahdiolhhaaGreatDoor.D2
namespace Go.Proofs.YtjbcgahdiolhhaaGreatDoor.D2
open Go.RowKit Go.Maps Go.ChangeMaps Go.MapKept
open Dp
attribute [local go_sem ↓] Go.wp_at_zero Go.wp_at_succ

section
variable {P : Program} {ops : Array Oper} {rest : List Oper} {o : Oper} {a : Act} {w : World} {Q : Exit → Act → World → Prop}
theorem wpList_append_run (hgd : o.guard = none) (s x : Operand) (t tn : TypeId) (ho : o.op = .call { callee := .builtin .append, args := #[s, x], argTypes := #[t, tn] }) (vs vx : Value) (hs : a.eval s = vs) (hx : a.eval x = vx)
    (v' : Value) (w' : World) (hr : (Builtin.append_ #[t, tn] o.type #[vs, vx]).run P w = .ok v' w') (h : wpList P ops Q rest (a.put o.dst v') w') : wpList P ops Q (o :: rest) a w :=
  wpList_plain hgd fun _ hK => Lib.wp_append_run w s x t tn ho vs vx hs hx v' w' hr (hK _ _ h)
end

/-- The bytes l, at the beginning of block g, which may be written. -/
def BRow (w : World) (g cap : Nat) (l : List UInt8) : Prop :=
  ∃ cur fz, w.heap[g]? = some (.cells cur 5 fz) ∧ (fz = (0, 0) ∨ cur.size ≤ fz.1) ∧ l.length ≤ cap ∧ cap ≤ maxLen ∧ cur.size = cap ∧ cur.toList.take l.length = byteVs l
section
variable {w : World} {g cap : Nat} {l : List UInt8}
theorem BRow.lt (h : BRow w g cap l) : g < w.heap.size := by obtain ⟨_, _, h, _⟩ := h; exact lt_heap h
theorem BRow.le (h : BRow w g cap l) : l.length ≤ cap := by obtain ⟨_, _, _, _, h, _⟩ := h; exact h
theorem BRow.block {w' : World} (h : BRow w g cap l) (hb : w'.heap[g]? = w.heap[g]?) : BRow w' g cap l := by obtain ⟨cur, fz, h1, h2⟩ := h; exact ⟨cur, fz, hb.trans h1, h2⟩
theorem BRow.cell (h : BRow w g cap l) {j : Nat} {b : UInt8} (hj : l[j]? = some b) : w.cell? ⟨g, j, none⟩ = some (.int .u8 (b.toNat : Int)) := by
  obtain ⟨cur, fz, h1, _, h3, _, h5, h6⟩ := h
  obtain ⟨hlt, rfl⟩ := List.getElem?_eq_some_iff.1 hj
  have e : (cur.toList.take l.length)[j]? = (byteVs l)[j]? := by rw [h6]
  rw [List.getElem?_take_of_lt hlt] at e
  rw [Lib.cell_of_heap h1, ← Array.getElem?_toList, e]
  simp [byteVs, hlt]
theorem brow_fz {cur : Array Value} {t : TypeId} {fz : Nat × Nat} (h1 : w.heap[g]? = some (.cells cur t fz)) (h2 : fz = (0, 0) ∨ cur.size ≤ fz.1) {j : Nat} (hj : j < cur.size) : w.frozen? ⟨g, j, none⟩ = false := by
  obtain ⟨lo, hi⟩ := fz
  rcases h2 with h2 | h2
  · simp only [Prod.mk.injEq] at h2
    simp [World.frozen?, h1, h2]
  · simp only at h2
    simp [World.frozen?, h1]
    omega
theorem BRow.fz (h : BRow w g cap l) {j : Nat} (hj : j < l.length) : w.frozen? ⟨g, j, none⟩ = false := by
  obtain ⟨cur, fz, h1, h2, h3, _, h5, _⟩ := h
  exact brow_fz h1 h2 (by omega)
theorem BRow.set (h : BRow w g cap l) {j : Nat} (b : UInt8) : BRow (w.setCell ⟨g, j, none⟩ (.int .u8 (b.toNat : Int))) g cap (l.set j b) := by
  obtain ⟨cur, fz, h1, h2, h3, h4, h5, h6⟩ := h
  refine ⟨cur.setIfInBounds j (.int .u8 (b.toNat : Int)), fz, ?_, ?_, by simpa using h3, h4, by simpa using h5, ?_⟩
  · simp [World.setCell, Array.getElem?_modify, h1]
  · simpa using h2
  · rw [Array.toList_setIfInBounds, List.length_set, List.take_set, h6]
    simp [byteVs, List.map_set]

theorem u8c : Tryz.prog.underlying 62 = some (.slice 5) := Tryz.underlying62
/-- append of one byte. -/
theorem BRow.push (h : BRow w g cap l) (hl : l.length < 16777216) (b : UInt8) {a : Nat} (hc : w.cell? ⟨a, 0, none⟩ = some (.int .u8 (b.toNat : Int))) (ty : TypeId) :
    ∃ g' cap' w', (Builtin.append_ #[62, 62] ty #[.slice (some ⟨g, 0, none⟩) l.length cap, .slice (some ⟨a, 0, none⟩) 1 1]).run Tryz.prog w = .ok (.slice (some ⟨g', 0, none⟩) (l.length + 1) cap') w' ∧ BRow w' g' cap' (l ++ [b]) ∧ w.grownBy w' (some g) ∧ (g' = g ∨ g' = w.heap.size) := by
  obtain ⟨i0, hi, hz0, hz1, hz2⟩ := info_parts byte_info
  have hh := h
  obtain ⟨cur, fz, h1, h2, h3, h4, h5, h6⟩ := h
  have hbl : (byteVs l).length = l.length := byteVs_length l
  have hsn : byteVs (l ++ [b]) = byteVs l ++ [.int .u8 (b.toNat : Int)] := by simp [byteVs]
  have hnew : ∀ j v, [Value.int .u8 (b.toNat : Int)][j]? = some v → w.cell? ((⟨a, 0, none⟩ : Addr).add j) = some v := fun j v hj => by
    cases j with
    | zero => simp at hj; subst hj; rw [Lib.add_plain]; exact hc
    | succ j => simp at hj
  by_cases hroom : l.length + 1 ≤ cap
  · have hf := run_firstCells_some (P := Tryz.prog) w 1 1 ⟨a, 0, none⟩ 1 1 [.int .u8 (b.toNat : Int)] rfl hnew
    have hcell : w.cell? ⟨g, l.length, none⟩ = some (cur[l.length]'(by omega)) := by rw [Lib.cell_of_heap h1]; exact Array.getElem?_eq_getElem _
    have hfro := brow_fz h1 h2 (j := l.length) (by omega)
    have hst : (storeCells ⟨g, l.length, none⟩ [.int .u8 (b.toNat : Int)]).run Tryz.prog w = .ok () (w.setCell ⟨g, l.length, none⟩ (.int .u8 (b.toNat : Int))) := by
      have hs := run_store Tryz.prog w ⟨g, l.length, none⟩ (.int .u8 (b.toNat : Int)) .plain rfl
      rw [hcell] at hs
      simp only [hfro] at hs
      simp [storeCells, Lib.add_plain, hs]
    refine ⟨g, cap, w.setCell ⟨g, l.length, none⟩ (.int .u8 (b.toNat : Int)), ?_, ⟨cur.setIfInBounds l.length (.int .u8 (b.toNat : Int)), fz, by simp [World.setCell, Array.getElem?_modify, h1], by simpa using h2, by simpa using hroom, h4, by simpa using h5, ?_⟩, ⟨rfl, rfl, rfl, by rw [set_size]; exact Nat.le_refl _, fun k _ hk => set_other (fun e => hk (by rw [e]))⟩, .inl rfl⟩
    · simp [Builtin.append_, run_underlying u8c, sizeOf, typeInfo, hi, hz1, Builtin.lenOf, hroom, hf, Addr.add_lit, hst]
    · rw [Array.toList_setIfInBounds, List.length_append, hsn]
      apply List.ext_getElem?
      intro k
      rw [List.getElem?_take, List.getElem?_set, List.getElem?_append, hbl]
      by_cases hk : k < l.length
      · rw [if_pos (by simp; omega), if_neg (by omega), if_pos hk, ← h6, List.getElem?_take_of_lt hk]
      · by_cases hk2 : k = l.length
        · subst hk2; simp; omega
        · rw [if_neg (by simp; omega), if_neg hk]
          rw [List.getElem?_eq_none]; simp; omega
  · have hcap : cap = l.length := by omega
    have hr := run_append_grow (P := Tryz.prog) w 62 ty 5 i0 (.int .u8 0) u8c hi hz0 ⟨g, 0, none⟩ l.length cap (byteVs l) (by rw [hbl, hz1, Nat.mul_one]) (fun j v hj => by
      obtain ⟨hjl, rfl⟩ := List.getElem?_eq_some_iff.1 hj
      have hjl2 : j < l.length := by rw [← hbl]; exact hjl
      rw [Lib.add_plain, Nat.zero_add, hh.cell (List.getElem?_eq_getElem hjl2)]
      simp [byteVs]) ⟨a, 0, none⟩ 1 1 [.int .u8 (b.toNat : Int)] (by rw [hz1]; rfl) hnew (by omega) (by omega) (growslice_fits (by omega) (by rw [hz2]; omega))
    have hge := grownCap_ge w (l.length + 1) cap 5
    have hcm : grownCap w (l.length + 1) cap 5 ≤ maxLen := grownCap_le_maxLen w (l.length + 1) cap 5 (by unfold maxLen; omega)
    refine ⟨_, _, _, hr, ⟨_, _, heap_alloc_new w.drew _, .inl rfl, by simpa using hge, hcm, ?_, ?_⟩, ⟨rfl, rfl, rfl, by simp, fun k hk _ => Lib.alloc_old w.drew _ k hk⟩, .inr rfl⟩
    · simp only [Array.size_append, List.size_toArray, hbl, size_zeroCells]
      simp [Value.cells]; omega
    · rw [hsn]
      simp only [Array.toList_append]
      have : (l ++ [b]).length = (byteVs l ++ [Value.int .u8 (b.toNat : Int)]).length := by simp [hbl]
      rw [this]
      exact List.take_left
/-- []byte(s). -/
theorem conv_brow (w : World) (s : List UInt8) (hs : s.length ≤ 16777216) : ∃ wc cap, (convert 9 62 (.string (bs s))).run Tryz.prog w = .ok (.slice (some ⟨w.heap.size, 0, none⟩) s.length cap) wc ∧ BRow wc w.heap.size cap s ∧ Below w.heap.size w wc := by
  have hr := run_bytes_of_string w 9 62 5 (bs s) Tryz.underlying9 Tryz.underlying62 Tryz.underlying5
  have hge := grownCap_ge w s.length 0 5
  have hcm : grownCap w s.length 0 5 ≤ maxLen := grownCap_le_maxLen w s.length 0 5 (by unfold maxLen; omega)
  rw [bs_size] at hr
  have hsz : (bytesRow (bs s) (grownCap w s.length 0 5)).size = grownCap w s.length 0 5 := by
    have := bs_size s
    simp only [bytesRow, Array.size_append, Array.size_map, Array.size_replicate, this]
    have h2 : (bs s).data.size = s.length := this
    omega
  refine ⟨_, _, hr, ⟨_, _, heap_alloc_new w.drew _, .inr (Nat.le_refl _), hge, hcm, hsz, ?_⟩, ((Below.refl _ _).drew).alloc (Nat.le_refl _) _⟩
  have e1 : (bytesRow (bs s) (grownCap w s.length 0 5)).toList = byteVs s ++ List.replicate (grownCap w s.length 0 5 - (bs s).size) (.int .u8 0) := by simp [bytesRow, bs, byteVs]
  rw [e1, ← byteVs_length s]
  exact List.take_left
theorem brow_string (h : BRow w g cap l) (c : Nat) : (convert 62 9 (.slice (some ⟨g, 0, none⟩) l.length c)).run Tryz.prog w = .ok (.string (bs l)) w :=
  run_convert_bytes_back w 62 9 5 ⟨g, 0, none⟩ c l Tryz.underlying62 Tryz.underlying5 Tryz.underlying9 (fun j hj => by
    rw [Lib.add_plain, Nat.zero_add]; exact h.cell (List.getElem?_eq_getElem hj))
end

/-! ### The loops, plain -/
theorem rep_snoc (k : Nat) : List.replicate (k + 1) (0 : UInt8) = List.replicate k 0 ++ [0] := List.replicate_succ'
/-- After so many bytes. -/
def putK (s' : List UInt8) (a : Nat) (t : List UInt8) (i : Nat) : List UInt8 := s'.take a ++ t.take i ++ s'.drop (a + i)
theorem putK_length {s' : List UInt8} {a : Nat} {t : List UInt8} {i : Nat} (h : a + t.length ≤ s'.length) (hi : i ≤ t.length) : (putK s' a t i).length = s'.length := by
  simp [putK]; omega
theorem putK_zero (s' : List UInt8) (a : Nat) (t : List UInt8) : putK s' a t 0 = s' := by simp [putK]
theorem putK_get {s' : List UInt8} {a : Nat} {t : List UInt8} {i : Nat} (h : a + t.length ≤ s'.length) (hi : i ≤ t.length) (k : Nat) : (putK s' a t i)[k]? = if k < a then s'[k]? else if k < a + i then t[k - a]? else s'[k]? := by
  have l1 : (s'.take a).length = a := by simp; omega
  have l2 : (s'.take a ++ t.take i).length = a + i := by simp; omega
  unfold putK
  by_cases h1 : k < a
  · rw [if_pos h1, List.getElem?_append_left (by omega), List.getElem?_append_left (by omega), List.getElem?_take_of_lt h1]
  · rw [if_neg h1]
    by_cases h2 : k < a + i
    · rw [if_pos h2, List.getElem?_append_left (by omega), List.getElem?_append_right (by omega), l1, List.getElem?_take_of_lt (by omega)]
    · rw [if_neg h2, List.getElem?_append_right (by omega), l2, List.getElem?_drop]
      congr 1; omega
theorem putK_step {s' : List UInt8} {a : Nat} {t : List UInt8} {i : Nat} {b : UInt8} (h : a + t.length ≤ s'.length) (hb : t[i]? = some b) : (putK s' a t i).set (a + i) b = putK s' a t (i + 1) := by
  have hi := (List.getElem?_eq_some_iff.1 hb).1
  apply List.ext_getElem?
  intro k
  rw [List.getElem?_set, putK_get h (by omega), putK_get h (by omega), putK_length h (by omega)]
  by_cases hk : a + i = k
  · subst hk
    rw [if_pos rfl, if_pos (by omega), if_neg (by omega), if_pos (by omega), Nat.add_sub_cancel_left, hb]
  · rw [if_neg hk]
    by_cases h1 : k < a
    · rw [if_pos h1, if_pos h1]
    · rw [if_neg h1, if_neg h1]
      by_cases h2 : k < a + i
      · rw [if_pos h2, if_pos (by omega)]
      · rw [if_neg h2, if_neg (by omega)]
theorem putK_end (s : List UInt8) (a : Nat) (t : List UInt8) : putK (s ++ List.replicate (a + t.length - s.length) 0) a t t.length = putL s a t := by
  unfold putK putL
  simp

def lenOf : Value → Nat | .slice _ n _ => n | _ => 0

set_option maxHeartbeats 2000000 in
set_option maxRecDepth 100000 in
theorem rput_some (s : List UInt8) (a : Nat) (t : List UInt8) (ht : 0 < t.length) (hs : s.length ≤ 16777216) (ha : a + t.length ≤ 16777216) (w : World) :
    Calls Tryz.prog 71 #[.string (bs s), .int .i64 (a : Int), .string (bs t)] w fun e w' => e = .returned (.string (bs (putL s a t))) ∧ Below w.heap.size w w' := by
  have hzs := bs_size s
  have hzt := bs_size t
  have hne : (bs t).toList.isEmpty = false := by rw [bs_toList]; cases t with | nil => simp at ht | cons x t => rfl
  obtain ⟨wc, cap0, hconv, hbr, hbel⟩ := conv_brow w s hs
  have HBR := Lib.hid hbr
  have HBE := Lib.hid hbel
  clear hbr hbel
  go_enter Tryz.func71, Tryz.ntmps71
  go_wp2
  obtain ⟨K, hK⟩ : ∃ K, K = a + t.length - s.length := ⟨_, rfl⟩
  go_loopw [7] (fun v wr => ∃ (j g cap : Nat), j ≤ K ∧ v = .slice (some ⟨g, 0, none⟩) (s.length + j) cap ∧ w.heap.size ≤ g ∧ Hid (BRow wr g cap (s ++ List.replicate j 0)) ∧ Hid (Below w.heap.size w wr)) (fun v _ => a + t.length - lenOf v)
  case atStart => exact ⟨0, w.heap.size, cap0, Nat.zero_le _, rfl, Nat.le_refl _, Lib.hid (by simpa using HBR.out), HBE⟩
  case round =>
    obtain ⟨j, g, cap, hj, rfl, hg, HB, HE⟩ := hrel
    have hlen : (s ++ List.replicate j 0).length = s.length + j := by simp
    by_cases hlt : s.length + j < a + t.length
    · have hb2 : Below wr.heap.size wr (wr.alloc (.cells #[.int .u8 0] 5)) := below_alloc wr _
      have hbr2 : BRow (wr.alloc (.cells #[.int .u8 0] 5)) g cap (s ++ List.replicate j 0) := HB.out.block (hb2.block g HB.out.lt)
      obtain ⟨g', cap', w', hr, h2, h3, h4⟩ := hbr2.push (by omega) 0 (a := wr.heap.size) (alloc_new_cell wr _ _ 0) 62
      rw [hlen] at hr
      have hr2 : (Builtin.append_ #[62, 62] 62 #[.slice (some ⟨g, 0, none⟩) (s.length + j) cap, .slice (some ⟨wr.heap.size, 0, none⟩) 1 1]).run Tryz.prog (wr.alloc (.cells #[.int .u8 0] 5)) = .ok (.slice (some ⟨g', 0, none⟩) (s.length + j + 1) cap') w' := hr
      have HRR := Lib.hid hr2
      have hwl : w.heap.size ≤ wr.heap.size := HE.out.size
      have H2 := Lib.hid (show BRow w' g' cap' (s ++ List.replicate (j + 1) 0) by rw [rep_snoc, ← List.append_assoc]; exact h2)
      have H3 := Lib.hid (show Below w.heap.size w w' from by
        have hbw := HE.out.trans (hb2.mono hwl)
        have hsz := hbw.size
        exact ⟨h3.os.trans hbw.os, h3.tape.trans hbw.tape, h3.output.trans hbw.output, Nat.le_trans hsz h3.size, fun k hk => (h3.block k (by omega) (fun e => by cases e; omega)).trans (hbw.block k hk)⟩)
      have hg2 : w.heap.size ≤ g' := by rcases h4 with h | h <;> (try simp at h) <;> omega
      clear hbr2 hr hr2 h2 h3 h4 hb2
      go_wp2_with (at_builtin; refine wpList_append_run rfl _ _ _ _ rfl _ _ rfl rfl _ _ HRR.out ?_)
      go_wp2
      go_roundw
      case rel => exact ⟨j + 1, g', cap', by omega, rfl, hg2, H2, H3⟩
      case measure => simp [lenOf]; omega
    · obtain rfl : j = K := by omega
      have hsl : a + t.length ≤ s.length + j := by omega
      have hs' : (s ++ List.replicate j 0).length = s.length + j := hlen
      have HPE := Lib.hid (show putK (s ++ List.replicate j 0) a t t.length = putL s a t by rw [hK]; exact putK_end s a t)
      have hsm : s.length + j ≤ 16777216 := by omega
      clear hK hj hlen hconv HBR HBE
      generalize s ++ List.replicate j 0 = s' at HB hs' HPE
      have HS' := Lib.hid hs'
      clear hs'
      generalize s.length + j = n at *
      have hgl : w.heap.size ≤ wr.heap.size := HE.out.size
      have HGG := Lib.hid hg
      have H0 := Lib.hid (show BRow wr g cap (putK s' a t 0) by rw [putK_zero]; exact HB.out)
      go_wp2
      clear hlt
      go_loopw [8] (fun v w2 => ∃ i : Nat, i ≤ t.length ∧ v = .int .i64 (i : Int) ∧ Hid (BRow w2 g cap (putK s' a t i)) ∧ Hid (Below w.heap.size w w2)) (fun v _ => t.length - (intOf v).toNat)
      case atStart => exact ⟨0, Nat.zero_le _, rfl, H0, HE⟩
      case round =>
        obtain ⟨i, hi, rfl, HB2, HE2⟩ := hrel
        have hpl : (putK s' a t i).length = n := by rw [putK_length (by rw [HS'.out]; exact hsl) hi]; exact HS'.out
        by_cases hlt : i < t.length
        · have hks : i < (bs t).size := by omega
          obtain ⟨b, hb, hb2⟩ : ∃ b, (bs t)[i]'hks = b ∧ t[i]? = some b := ⟨_, bs_get _ _ hks _ (List.getElem?_eq_getElem hlt), List.getElem?_eq_getElem hlt⟩
          have hin : (a : Int) + (i : Int) < (n : Int) := by omega
          obtain ⟨b0, hb0⟩ : ∃ b0, (putK s' a t i)[a + i]? = some b0 := ⟨_, List.getElem?_eq_getElem (by omega)⟩
          have c0 := HB2.out.cell hb0
          have f0 := HB2.out.fz (j := a + i) (by omega)
          have H3 := Lib.hid (show BRow _ g cap (putK s' a t (i + 1)) by
            have := HB2.out.set (j := a + i) b
            rwa [putK_step (by rw [HS'.out]; exact hsl) hb2] at this)
          have H4 := Lib.hid (HE2.out.setCell (p := ⟨g, a + i, none⟩) HGG.out (.int .u8 (b.toNat : Int)))
          clear hb2 hpl hb0
          go_wp2
          go_roundw
          case rel => exact ⟨i + 1, by omega, by go_num, H3, H4⟩
          case measure => simp [intOf]; omega
        · obtain rfl : i = t.length := by omega
          have hcv : ∀ c, (convert 62 9 (.slice (some ⟨g, 0, none⟩) n c)).run Tryz.prog wr = .ok (.string (bs (putL s a t))) wr := fun c => by
            have := brow_string HB2.out c
            rwa [hpl, HPE.out] at this
          clear hpl
          go_wp2
          go_ret
          exact ⟨rfl, HE2.out⟩
theorem rput_any (s : List UInt8) (a : Nat) (t : List UInt8) (hs : s.length ≤ 16777216) (ha : a + t.length ≤ 16777216) (w : World) :
    Calls Tryz.prog 71 #[.string (bs s), .int .i64 (a : Int), .string (bs t)] w fun e w' => e = .returned (.string (bs (putN s a t))) ∧ Below w.heap.size w w' := by
  unfold putN
  by_cases h : t = []
  · subst h
    rw [if_pos rfl]
    have hb0 : bs [] = ⟨#[]⟩ := rfl
    rw [hb0]
    clear hb0
    go_enter Tryz.func71, Tryz.ntmps71
    go_wp2
    go_ret
    exact ⟨rfl, Below.refl _ _⟩
  · rw [if_neg h]
    exact rput_some s a t (by cases t with | nil => exact absurd rfl h | cons x t => simp) hs ha w
end Go.Proofs.YtjbcgahdiolhhaaGreatDoor.D2
namespace Go.Proofs.YtjbcgahdiolhhaaGreatDoor.D2
open Go.RowKit Go.Maps Go.ChangeMaps Go.MapKept
open Dp
attribute [local go_sem ↓] Go.wp_at_zero Go.wp_at_succ

theorem fl_info : (Tryz.prog.info? 86).map (fun i => (i.zero, i.size, i.bytes)) = some (some (.agg #[.int .i64 0, .string ⟨#[]⟩, .string ⟨#[]⟩]), 3, 40) := by kernel_rfl
theorem rsec_info : (Tryz.prog.info? 84).map (fun i => (i.zero, i.size, i.bytes)) = some (some (.agg #[.int .i64 0, .int .i64 0]), 2, 16) := by kernel_rfl

theorem push_fl (w : World) (v : Value) (l : List Fl) (own : w.ownsRow 0 86 3 v l.length (flVs l)) (hl : l.length ≤ 1000) (x : Fl) {a : Nat} (h0 : w.cell? ⟨a, 0, none⟩ = some (.int .i64 (x.num : Int))) (h1 : w.cell? ⟨a, 1, none⟩ = some (.string (bs x.now))) (h2 : w.cell? ⟨a, 2, none⟩ = some (.string (bs x.dur))) (ty : TypeId) :
    ∃ v' w', (Builtin.append_ #[65, 65] ty #[v, .slice (some ⟨a, 0, none⟩) 1 1]).run Tryz.prog w = .ok v' w' ∧ w'.ownsRow 0 86 3 v' (l ++ [x]).length (flVs (l ++ [x])) ∧ w.grownBy w' v.ownBlock ∧ (v'.ownBlock = v.ownBlock ∨ v'.ownBlock = some w.heap.size) := by
  obtain ⟨i0, hi, hz0, hz1, hz2⟩ := info_parts fl_info
  obtain ⟨v', w', r1, r2, r3, _, r5⟩ := run_append_own_at (P := Tryz.prog) w 0 65 ty 86 i0 (.agg #[.int .i64 0, .string ⟨#[]⟩, .string ⟨#[]⟩]) 3 40 Tryz.underlying65 hi hz0 hz1 hz2 rfl (by decide) v l.length (flVs l) own ⟨a, 0, none⟩ 1 1 [.int .i64 (x.num : Int), .string (bs x.now), .string (bs x.dur)] rfl (fun j u hj => by
      rw [Lib.add_plain]
      match j, hj with
      | 0, hj => simp at hj; subst hj; exact h0
      | 1, hj => simp at hj; subst hj; exact h1
      | 2, hj => simp at hj; subst hj; exact h2) (fun u hu => by simp at hu; rcases hu with rfl | rfl | rfl <;> rfl) (by unfold maxLen; omega) (by omega) (Nat.zero_le _)
  exact ⟨v', w', r1, by rw [flVs_snoc, List.length_append]; exact r2, r3, r5⟩
theorem push_sec (w : World) (v : Value) (l : List (Nat × Nat)) (own : w.ownsRow 0 84 2 v l.length (secVs l)) (hl : l.length ≤ 4194304) (x : Nat × Nat) {a : Nat} (h0 : w.cell? ⟨a, 0, none⟩ = some (.int .i64 (x.1 : Int))) (h1 : w.cell? ⟨a, 1, none⟩ = some (.int .i64 (x.2 : Int))) (ty : TypeId) :
    ∃ v' w', (Builtin.append_ #[66, 66] ty #[v, .slice (some ⟨a, 0, none⟩) 1 1]).run Tryz.prog w = .ok v' w' ∧ w'.ownsRow 0 84 2 v' (l ++ [x]).length (secVs (l ++ [x])) ∧ w.grownBy w' v.ownBlock ∧ (v'.ownBlock = v.ownBlock ∨ v'.ownBlock = some w.heap.size) := by
  obtain ⟨i0, hi, hz0, hz1, hz2⟩ := info_parts rsec_info
  obtain ⟨v', w', r1, r2, r3, _, r5⟩ := run_append_own_at (P := Tryz.prog) w 0 66 ty 84 i0 (.agg #[.int .i64 0, .int .i64 0]) 2 16 Tryz.underlying66 hi hz0 hz1 hz2 rfl (by decide) v l.length (secVs l) own ⟨a, 0, none⟩ 1 1 [.int .i64 (x.1 : Int), .int .i64 (x.2 : Int)] rfl (fun j u hj => by
      rw [Lib.add_plain]
      match j, hj with
      | 0, hj => simp at hj; subst hj; exact h0
      | 1, hj => simp at hj; subst hj; exact h1) (fun u hu => by simp at hu; rcases hu with rfl | rfl <;> rfl) (by unfold maxLen; omega) (by omega) (Nat.zero_le _)
  exact ⟨v', w', r1, by rw [secVs_snoc, List.length_append]; exact r2, r3, r5⟩
theorem grown_below {w w1 w2 : World} {row : Option Nat} (hb : Below w.heap.size w w1) (g : w1.grownBy w2 row) (hr : ∀ k, row = some k → w.heap.size ≤ k) : Below w.heap.size w w2 :=
  have hs := hb.size
  ⟨g.os.trans hb.os, g.tape.trans hb.tape, g.output.trans hb.output, Nat.le_trans hs g.size, fun k hk => (g.block k (by omega) (fun e => by have := hr k e.symm; omega)).trans (hb.block k hk)⟩
theorem below_dn {B : Nat} {w w' : World} (h : Below B w w') (n : Nat) : Below B w (w'.drewN n) := ⟨h.os, h.tape, h.output, h.size, h.block⟩
theorem grown_refl (w : World) (row : Option Nat) : w.grownBy w row := ⟨rfl, rfl, rfl, Nat.le_refl _, fun _ _ _ => rfl⟩

def others' (n : Nat) (l : List Fl) : List Fl := l.filter fun y => decide (y.num ≠ n)
theorem others_take {n : Nat} {l : List Fl} {k : Nat} {y : Fl} (h : l[k]? = some y) : others' n (l.take (k + 1)) = others' n (l.take k) ++ (if y.num = n then [] else [y]) := by
  obtain ⟨hk, rfl⟩ := List.getElem?_eq_some_iff.1 h
  rw [List.take_succ_eq_append_getElem hk]
  unfold others'
  rw [List.filter_append]
  congr 1
  by_cases hn : l[k].num = n <;> simp [hn]
theorem others_len {n : Nat} {l : List Fl} : (others' n l).length ≤ l.length := List.length_filter_le _ _
theorem Rf.set_eq (R : Rf) (x : Fl) : R.set x = { R with files := others' x.num R.files ++ [x] } := rfl
theorem Rf.Ok.set {R : Rf} (h : R.Ok) {x : Fl} (h1 : x.num < 16) (h2 : x.now.length ≤ 16777216) (h3 : x.dur.length ≤ 16777216) : (R.set x).Ok := by
  refine ⟨?_, fun y hy => ?_, h.queue, h.few, h.lost, h.armed, h.keep, h.size⟩
  · rw [Rf.set_eq]
    simp only [List.map_append, List.map_cons, List.map_nil]
    rw [List.nodup_append]
    refine ⟨?_, by simp, fun y hy z hz => ?_⟩
    · exact (List.Nodup.sublist (List.Sublist.map Fl.num (show (others' x.num R.files).Sublist R.files from List.filter_sublist)) h.nums)
    · simp at hz; subst hz
      obtain ⟨u, hu, rfl⟩ := List.mem_map.1 hy
      have := (List.mem_filter.1 hu).2
      simpa using this
  · rw [Rf.set_eq] at hy
    rcases List.mem_append.1 hy with hy | hy
    · exact h.file y (List.mem_filter.1 hy).1
    · simp at hy; subst hy; exact ⟨h1, h2, h3⟩

section
variable {w : World} {lab : Nat → Nat} {id r : Nat} {R : Rf} {L : RLoc}
/-- What a call leaves that doesn't touch the list of what a crash keeps. -/
def RPostK (lab : Nat → Nat) (id r : Nat) (v : Value) (R' : Rf) (L : RLoc) (w : World) (e : Ending) (w' : World) : Prop := e = .returned v ∧ ∃ lab' L', RIn w' lab' id r R' L' ∧ L'.kv = L.kv ∧ Chg id lab lab' w w'
theorem RPostK.post {v : Value} {R' : Rf} {e : Ending} {w' : World} (h : RPostK lab id r v R' L w e w') : RPost lab id r v R' w e w' := by
  obtain ⟨h0, lab', L', h1, _, h2⟩ := h
  exact ⟨h0, lab', ⟨L', h1⟩, h2⟩
/-- The list of files is replaced by a new one. -/
theorem RIn.newFiles {w1 : World} (h : RIn w lab id r R L) (hb : Below w.heap.size w w1) {R' : Rf} {v : Value} (hv : ∀ k, v.ownBlock = some k → w.heap.size ≤ k) (ok : R'.Ok) (hq : R'.queue = R.queue) (hl : R'.lost = R.lost) (hd : R'.down = R.down) (ha : R'.armed = R.armed) (hk : R'.keep = R.keep)
    (o : w1.ownsRow 0 86 3 v R'.files.length (flVs R'.files)) :
    ∃ lab' L', RIn (w1.setCell ⟨r, 0, none⟩ v) lab' id r R' L' ∧ L'.kv = L.kv ∧ Chg id lab lab' w (w1.setCell ⟨r, 0, none⟩ v) := by
  have h1 := h.fresh hb
  obtain ⟨h2, k2⟩ := h1.setRow (i := 0) (R' := R') (L' := { L with fv := v }) (c := id + 1) (h.chg0 hb) (.inl rfl) (grown_refl w1 v.ownBlock) (fun k hk' => .inr ⟨h.lo k (hv k hk'), hv k hk'⟩) (fun k hk' => .inl hk') (fun k hk' => (o.lt k hk').2) (Hp.refl _) ok hl hd ha rfl (.inr ⟨rfl, rfl, o⟩) (.inl ⟨by omega, rfl, hq⟩) (.inl ⟨by omega, rfl, hk⟩)
  exact ⟨_, _, h2, rfl, k2⟩
theorem RIn.newQueue {w1 : World} (h : RIn w lab id r R L) (hb : Below w.heap.size w w1) {R' : Rf} {v : Value} (hv : ∀ k, v.ownBlock = some k → w.heap.size ≤ k) (ok : R'.Ok) (hq : R'.files = R.files) (hl : R'.lost = R.lost) (hd : R'.down = R.down) (ha : R'.armed = R.armed) (hk : R'.keep = R.keep)
    (o : w1.ownsRow 0 84 2 v R'.queue.length (secVs R'.queue)) :
    ∃ lab', RG (w1.setCell ⟨r, 1, none⟩ v) lab' id r R' ∧ Chg id lab lab' w (w1.setCell ⟨r, 1, none⟩ v) := by
  have h1 := h.fresh hb
  obtain ⟨h2, k2⟩ := h1.setRow (i := 1) (R' := R') (L' := { L with qv := v }) (c := id + 2) (h.chg0 hb) (.inr (.inl rfl)) (grown_refl w1 v.ownBlock) (fun k hk' => .inr ⟨h.lo k (hv k hk'), hv k hk'⟩) (fun k hk' => .inl hk') (fun k hk' => (o.lt k hk').2) (Hp.refl _) ok hl hd ha rfl (.inl ⟨by omega, rfl, hq⟩) (.inr ⟨rfl, rfl, o⟩) (.inl ⟨by omega, rfl, hk⟩)
  exact ⟨_, ⟨_, h2⟩, k2⟩

set_option maxHeartbeats 2000000 in
set_option maxRecDepth 100000 in
theorem rset_keep (h : RIn w lab id r R L) (x : Fl) (h1 : x.num < 16) (h2 : x.now.length ≤ 16777216) (h3 : x.dur.length ≤ 16777216) :
    Calls Tryz.prog 72 #[.pointer (some ⟨r, 0, none⟩), .agg #[.int .i64 (x.num : Int), .string (bs x.now), .string (bs x.dur)]] w (RPostK lab id r (.tuple #[]) (R.set x) L w) := by
  have H := Lib.hid h
  have hlen := h.ok.len
  have HOK := Lib.hid (h.ok.set h1 h2 h3)
  obtain ⟨fa, fc, hfv⟩ := own_form h.files
  have HFV := Lib.hid hfv
  have HB := Lib.hid (below_alloc w (.cells #[.int .i64 (x.num : Int), .string (bs x.now), .string (bs x.dur)] 86))
  have hx0 := alloc_new_cell w #[.int .i64 (x.num : Int), .string (bs x.now), .string (bs x.dur)] 86 0
  have hx1 := alloc_new_cell w #[.int .i64 (x.num : Int), .string (bs x.now), .string (bs x.dur)] 86 1
  have hx2 := alloc_new_cell w #[.int .i64 (x.num : Int), .string (bs x.now), .string (bs x.dur)] 86 2
  have hsz : w.heap.size < (w.alloc (.cells #[.int .i64 (x.num : Int), .string (bs x.now), .string (bs x.dur)] 86)).heap.size := by simp
  simp only [List.getElem?_toArray, List.getElem?_cons_zero, List.getElem?_cons_succ] at hx0 hx1 hx2
  have c0 := (h.fresh HB.out).c 0
  simp only [List.getElem?_toArray, List.getElem?_cons_zero] at c0
  rw [hfv] at c0
  clear h hfv
  go_enter Tryz.func72, Tryz.ntmps72
  go_wp2
  generalize hwa : w.alloc (.cells #[.int .i64 (x.num : Int), .string (bs x.now), .string (bs x.dur)] 86) = wa at *
  clear hwa
  have HX := Lib.hid (And.intro hx0 (And.intro hx1 hx2))
  clear hx0 hx1 hx2 c0
  go_loopw [4, 5] (fun v i wr => ∃ k : Nat, k ≤ R.files.length ∧ i = .int .i64 (k : Int) ∧ Hid (Below wa.heap.size wa wr) ∧ Hid (wr.ownsRow 0 86 3 v (others' x.num (R.files.take k)).length (flVs (others' x.num (R.files.take k)))) ∧ Hid (∀ j, v.ownBlock = some j → wa.heap.size ≤ j)) (fun _ i _ => R.files.length - (intOf i).toNat)
  case atStart => exact ⟨0, Nat.zero_le _, rfl, Lib.hid (Below.refl _ _), Lib.hid (World.ownsRow_nil _ _ _ _), Lib.hid fun j hj => by cases hj⟩
  case round =>
    obtain ⟨k, hk, rfl, HE, HO, HJ⟩ := hrel
    have hwr := HE.out.size
    have hbw : Below w.heap.size w wr := HB.out.trans (HE.out.mono (Nat.le_of_lt hsz))
    have hr := H.out.fresh hbw
    have c0 := hr.c 0
    simp only [List.getElem?_toArray, List.getElem?_cons_zero] at c0
    rw [HFV.out] at c0
    have x0 := below_cell HX.out.1 HE.out
    have x1 := below_cell HX.out.2.1 HE.out
    have x2 := below_cell HX.out.2.2 HE.out
    by_cases hlt : k < R.files.length
    · obtain ⟨y, hy⟩ : ∃ y, R.files[k]? = some y := ⟨_, List.getElem?_eq_getElem hlt⟩
      obtain ⟨g, cap, hv, d0, d1, d2⟩ := fl_cell hr hy
      have hv2 := HFV.out.symm.trans hv
      simp only [Value.slice.injEq, true_and] at hv2
      obtain ⟨rfl, rfl⟩ := hv2
      have HY := Lib.hid hy
      clear hy hr hv hbw
      have hol : (others' x.num (R.files.take k)).length ≤ 1000 := by have := others_len (n := x.num) (l := R.files.take k); have := List.length_take_le k R.files; omega
      obtain ⟨oa, oc, rfl⟩ := own_form HO.out
      by_cases hne : y.num = x.num
      · have hne' : ((y.num : Int) == (x.num : Int)) = true := by rw [beq_iff_eq]; omega
        have HN := Lib.hid hne
        clear hne
        go_wp2
        go_quiet (fail)
        go_wp2
        go_roundw
        case rel => exact ⟨k + 1, by omega, by go_num, Lib.hid (below_dn HE.out nq), Lib.hid (by rw [others_take HY.out, if_pos HN.out, List.append_nil]; exact HO.out), HJ⟩
        case measure => simp [intOf]; omega
      · have hne' : ((y.num : Int) == (x.num : Int)) = false := by rw [beq_eq_false_iff_ne]; omega
        have HN := Lib.hid hne
        clear hne
        go_wp2
        go_quiet (fail)
        have HE2 := Lib.hid (below_dn HE.out nq)
        have HO2 := Lib.hid (show (wr.drewN nq).ownsRow 0 86 3 _ _ _ from HO.out)
        have e0 : (wr.drewN nq).cell? ⟨r, 0, none⟩ = _ := c0
        have g0 : (wr.drewN nq).cell? ⟨g, k * 3, none⟩ = _ := d0
        have g1 : (wr.drewN nq).cell? ⟨g, k * 3 + 1, none⟩ = _ := d1
        have g2 : (wr.drewN nq).cell? ⟨g, k * 3 + 2, none⟩ = _ := d2
        clear c0 d0 d1 d2 x0 x1 x2 HE HO hwr
        generalize wr.drewN nq = wo at HE2 HO2 e0 g0 g1 g2 ⊢
        have hA := below_alloc wo (.cells #[.int .i64 (y.num : Int), .string (bs y.now), .string (bs y.dur)] 86)
        obtain ⟨v', w', r1, r2, r3, r4⟩ := push_fl (wo.alloc (.cells #[.int .i64 (y.num : Int), .string (bs y.now), .string (bs y.dur)] 86)) _ _ (HO2.out.alloc _) hol y (a := wo.heap.size) (alloc_new_cell wo _ _ 0) (alloc_new_cell wo _ _ 1) (alloc_new_cell wo _ _ 2) 65
        have HRR := Lib.hid r1
        have hws := HE2.out.size
        have hbA := HE2.out.trans (hA.mono hws)
        have HB3 := Lib.hid (grown_below hbA r3 HJ.out)
        have HO3 := Lib.hid r2
        have HJ3 := Lib.hid (show ∀ j, v'.ownBlock = some j → wa.heap.size ≤ j from fun j hj => by
          rcases r4 with h | h
          · exact HJ.out j (h.symm.trans hj)
          · have h9 := h.symm.trans hj
            simp only [World.size_alloc, Option.some.injEq] at h9
            omega)
        clear r1 r2 r3 r4 hA hbA
        go_wp2_with (at_builtin; refine wpList_append_run rfl _ _ _ _ rfl _ _ rfl rfl _ _ HRR.out ?_)
        go_wp2
        go_roundw
        case rel => exact ⟨k + 1, by omega, by go_num, HB3, Lib.hid (by rw [others_take HY.out, if_neg HN.out]; exact HO3.out), HJ3⟩
        case measure => simp [intOf]; omega
    · obtain rfl : k = R.files.length := by omega
      have hol : (others' x.num R.files).length ≤ 1000 := by have := others_len (n := x.num) (l := R.files); omega
      have hO := HO.out
      rw [List.take_length] at hO
      obtain ⟨oa, oc, rfl⟩ := own_form hO
      have hA := below_alloc wr (.cells #[.int .i64 (x.num : Int), .string (bs x.now), .string (bs x.dur)] 86)
      obtain ⟨v', w', r1, r2, r3, r4⟩ := push_fl (wr.alloc (.cells #[.int .i64 (x.num : Int), .string (bs x.now), .string (bs x.dur)] 86)) _ _ (hO.alloc _) hol x (a := wr.heap.size) (alloc_new_cell wr _ _ 0) (alloc_new_cell wr _ _ 1) (alloc_new_cell wr _ _ 2) 65
      have hbA := HE.out.trans (hA.mono hwr)
      have hB3 := grown_below hbA r3 HJ.out
      have hJ3 : ∀ j, v'.ownBlock = some j → wa.heap.size ≤ j := fun j hj => by
        rcases r4 with h | h
        · exact HJ.out j (h.symm.trans hj)
        · have h9 := h.symm.trans hj
          simp only [World.size_alloc, Option.some.injEq] at h9
          omega
      have hbF := HB.out.trans (hB3.mono (Nat.le_of_lt hsz))
      have hrF := H.out.fresh hbF
      have e0 := hrF.c 0
      have f0 := hrF.fz 0
      simp only [List.getElem?_toArray, List.getElem?_cons_zero] at e0
      rw [HFV.out] at e0
      have HNW := Lib.hid (H.out.newFiles (R' := R.set x) hbF (fun j hj => Nat.le_trans (Nat.le_of_lt hsz) (hJ3 j hj)) HOK.out rfl rfl rfl rfl rfl r2)
      obtain ⟨va, vc, hv'⟩ := own_form r2
      subst hv'
      have HRR := Lib.hid r1
      clear r1 r2 r3 r4 hA hbA hB3 hJ3 hbF hrF hr hbw hO
      go_wp2_with (at_builtin; refine wpList_append_run rfl _ _ _ _ rfl _ _ rfl rfl _ _ HRR.out ?_)
      go_wp2
      go_end0
      obtain ⟨lab', L', n1, n3, n2⟩ := HNW.out
      rw [show (others' x.num R.files ++ [x]).length = (others' x.num R.files).length + 1 by simp] at n1 n2
      exact ⟨rfl, lab', L', n1, n3, n2⟩
theorem rset_any (h : RIn w lab id r R L) (x : Fl) (h1 : x.num < 16) (h2 : x.now.length ≤ 16777216) (h3 : x.dur.length ≤ 16777216) :
    Calls Tryz.prog 72 #[.pointer (some ⟨r, 0, none⟩), .agg #[.int .i64 (x.num : Int), .string (bs x.now), .string (bs x.dur)]] w (RPost lab id r (.tuple #[]) (R.set x) w) :=
  (rset_keep h x h1 h2 h3).mono fun _ _ h => h.post
end
end Go.Proofs.YtjbcgahdiolhhaaGreatDoor.D2
namespace Go.Proofs.YtjbcgahdiolhhaaGreatDoor.D2
open Go.RowKit Go.Maps Go.ChangeMaps Go.MapKept
open Dp
attribute [local go_sem ↓] Go.wp_at_zero Go.wp_at_succ

theorem rnow_len {R : Rf} (h : R.Ok) (f : Int) : (R.now f).length ≤ 16777216 ∧ (R.dur f).length ≤ 16777216 := by
  unfold Rf.now Rf.dur
  cases hl : R.look f with
  | none => exact ⟨by simp, by simp⟩
  | some x =>
    have := h.file x (List.mem_of_find?_eq_some hl)
    exact ⟨this.2.1, this.2.2⟩
def Rf.putF (R : Rf) (f a : Nat) (s : List UInt8) : Rf := R.set ⟨f, putN (R.now f) a s, R.dur f⟩
/-- A write that is possible. -/
def Rf.add (R : Rf) (f a : Nat) (s : List UInt8) : Rf := if s = [] then R else { R.putF f a s with queue := addSecs R.queue f (a / 64) (K0 a s.length) }
theorem Rf.Ok.queue' {R : Rf} (h : R.Ok) {q : List (Nat × Nat)} (h1 : q.Nodup) (h2 : ∀ p ∈ q, p.1 < 16 ∧ p.2 < 262144) : ({ R with queue := q } : Rf).Ok := ⟨h.nums, h.file, h1, h2, h.lost, h.armed, h.keep, h.size⟩

section
variable {w : World} {lab : Nat → Nat} {id r : Nat} {R : Rf} {L : RLoc}
/-- One more sector is pending. -/
theorem RIn.pushQueue (h : RIn w lab id r R L) {p : Nat × Nat} (hp : p ∉ R.queue) (h1 : p.1 < 16) (h2 : p.2 < 262144) {w0 : World} {lab0 : Nat → Nat} (k0 : Chg id lab0 lab w0 w) {w1 : World} {v' : Value}
    (g : w.grownBy w1 L.qv.ownBlock) (o : w1.ownsRow 0 84 2 v' (R.queue ++ [p]).length (secVs (R.queue ++ [p]))) (hl : v'.ownBlock = L.qv.ownBlock ∨ ∀ k, v'.ownBlock = some k → w.heap.size ≤ k) :
    ∃ lab', RG (w1.setCell ⟨r, 1, none⟩ v') lab' id r { R with queue := R.queue ++ [p] } ∧ Chg id lab0 lab' w0 (w1.setCell ⟨r, 1, none⟩ v') := by
  obtain ⟨h2, k2⟩ := h.setRow (i := 1) (v := v') (R' := { R with queue := R.queue ++ [p] }) (L' := { L with qv := v' }) (c := id + 2) k0 (.inr (.inl rfl)) g (fun k hk => .inl (h.lq k hk)) (fun k hk => by
    rcases hl with h3 | h3
    · exact .inl (h3.symm.trans hk)
    · exact .inr (h3 k hk)) (fun k hk => (o.lt k hk).2) (Hp.refl _) (h.ok.queue' (by
      rw [List.nodup_append]; exact ⟨h.ok.queue, by simp, fun a ha b hb e => by simp at hb; subst hb; subst e; exact hp ha⟩) (fun q hq => by
      rcases List.mem_append.1 hq with h3 | h3
      · exact h.ok.few q h3
      · simp at h3; subst h3; exact ⟨h1, h2⟩)) rfl rfl rfl rfl (.inl ⟨by omega, rfl, rfl⟩) (.inr ⟨rfl, rfl, o⟩) (.inl ⟨by omega, rfl, rfl⟩)
  exact ⟨_, ⟨_, h2⟩, k2⟩

/-- While the sectors are put into the queue. -/
def AddInv (lab : Nat → Nat) (id r : Nat) (R : Rf) (f n0 : Nat) (w : World) (k : Nat) (wr : World) : Prop :=
  ∃ lab', RG wr lab' id r { R with queue := addSecs R.queue f n0 k } ∧ Chg id lab lab' w wr

set_option maxHeartbeats 4000000 in
set_option maxRecDepth 100000 in
theorem radd_some (h : RIn w lab id r R L) (f a : Nat) (s : List UInt8) (hf : f < 16) (ha : a + s.length ≤ 16777216) (hs : 0 < s.length) :
    Calls Tryz.prog 69 #[.pointer (some ⟨r, 0, none⟩), .int .i64 (f : Int), .int .i64 (a : Int), .string (bs s)] w (RPost lab id r (.tuple #[]) { R.putF f a s with queue := addSecs R.queue f (a / 64) (K0 a s.length) } w) := by
  have H := Lib.hid h
  have hne : (bs s).toList.isEmpty = false := by rw [bs_toList]; cases s with | nil => simp at hs | cons x t => rfl
  have hz := bs_size s
  obtain ⟨hn1, hn2⟩ := rnow_len h.ok (f : Int)
  have hpl : (putN (R.now f) a s).length ≤ 16777216 := by
    unfold putN; split
    · exact hn1
    · rw [putL_length]; omega
  have HPL := Lib.hid hpl
  have HN2 := Lib.hid hn2
  have HN1 := Lib.hid hn1
  have HG := Lib.hid (get_any h (f : Int) ⟨by omega, by omega⟩)
  clear h hn1 hn2 hpl
  go_enter Tryz.func69, Tryz.ntmps69
  go_wp2_with (go_at_call 49; refine HG.out.mono ?_; rintro e w1 ⟨rfl, b1⟩; refine Hid.out ?_)
  refine Lib.hid ?_
  have B1 := Lib.hid b1
  clear b1 HG
  have HP := Lib.hid (fun w => rput_any (R.now f) a s HN1.out ha w)
  go_wp2_with (go_at_call 71; refine (HP.out _).mono ?_; rintro e w2 ⟨rfl, b2⟩; refine Hid.out ?_)
  refine Lib.hid ?_
  obtain ⟨B, hB⟩ : ∃ B, B = w1.heap.size := ⟨_, rfl⟩
  have hblk2 : w2.heap[w1.heap.size]? = some (.cells #[.int .i64 (f : Int), .string (bs (R.now f)), .string (bs (R.dur f))] 86 (0, 0)) := (b2.block _ (by simp)).trans (heap_alloc_new w1 _)
  have hbw1 := B1.out
  have hbw2 : Below w.heap.size w w2 := (hbw1.trans ((below_alloc w1 _).mono hbw1.size)).trans (b2.mono (Nat.le_trans hbw1.size (by simp)))
  have d0 : w2.cell? ⟨w1.heap.size, 0, none⟩ = some (.int .i64 (f : Int)) := by rw [Lib.cell_of_heap hblk2]; rfl
  have d1 : w2.cell? ⟨w1.heap.size, 1, none⟩ = some (.string (bs (R.now f))) := by rw [Lib.cell_of_heap hblk2]; rfl
  have d2 : w2.cell? ⟨w1.heap.size, 2, none⟩ = some (.string (bs (R.dur f))) := by rw [Lib.cell_of_heap hblk2]; rfl
  have f1 := Lib.frozen_of_heap hblk2 1
  have hbw3 : Below w.heap.size w (w2.setCell ⟨w1.heap.size, 1, none⟩ (.string (bs (putN (R.now f) a s)))) := hbw2.setCell (p := ⟨w1.heap.size, 1, none⟩) hbw1.size _
  have HS := Lib.hid (rset_any (H.out.fresh hbw3) ⟨f, putN (R.now f) a s, R.dur f⟩ hf HPL.out HN2.out)
  have HK3 := Lib.hid (H.out.chg0 hbw3)
  clear b2 hblk2 hbw1 hbw2 hbw3 hB HP
  go_wp2_with (go_at_call 72; refine HS.out.mono ?_; rintro e w4 ⟨rfl, lab4, g4, k4⟩; refine Hid.out ?_)
  refine Lib.hid ?_
  clear d0 d1 d2 f1 HS
  have hR' : R.set ⟨f, putN (R.now f) a s, R.dur f⟩ = R.putF f a s := rfl
  rw [hR'] at g4
  have HST := Lib.hid (show AddInv lab id r (R.putF f a s) f (a / 64) w 0 w4 from ⟨lab4, g4, HK3.out.trans k4⟩)
  clear g4 k4 HK3 B1 HPL HN1 HN2
  obtain ⟨R', hR'⟩ : ∃ R', R.putF f a s = R' := ⟨_, rfl⟩
  rw [hR'] at HST
  have HR' := Lib.hid hR'
  clear hR'
  obtain ⟨n0, hn0⟩ : ∃ n, n = a / 64 := ⟨_, rfl⟩
  obtain ⟨n1, hn1⟩ : ∃ n, n = (a + s.length - 1) / 64 := ⟨_, rfl⟩
  have hK : n0 + K0 a s.length = n1 + 1 := by unfold K0; omega
  have hlb : n1 < 262144 := by omega
  have hq0 : (a : Int).tdiv 64 = (n0 : Int) := by rw [hn0]; exact (Int.ofNat_tdiv a 64).symm
  have hq1 : ((a : Int) + ((bs s).size : Int) - 1).tdiv 64 = (n1 : Int) := by
    rw [hn1, bs_size, show (a : Int) + (s.length : Int) - 1 = ((a + s.length - 1 : Nat) : Int) by omega]; exact (Int.ofNat_tdiv _ 64).symm
  rw [← hn0] at HST
  have hzz : (bs s).size ≤ 16777216 := by omega
  have HN0 := Lib.hid hn0
  clear hn0 hn1 hz
  go_wp2
  go_loopw [9] (fun n wr => ∃ j : Nat, n0 ≤ j ∧ j ≤ n1 + 1 ∧ n = .int .i64 (j : Int) ∧ Hid (AddInv lab id r R' f n0 w (j - n0) wr)) (fun n _ => n1 + 1 - (intOf n).toNat)
  case atStart => exact ⟨n0, Nat.le_refl _, by omega, rfl, by rw [Nat.sub_self]; exact HST⟩
  case round =>
    obtain ⟨j, hj0, hjl, rfl, HINV⟩ := hrel
    by_cases hlt : j ≤ n1
    · obtain ⟨lab1, ⟨L1, h1⟩, k1⟩ := HINV.out
      have hsn : addSecs R'.queue f n0 (j + 1 - n0) = addSec (addSecs R'.queue f n0 (j - n0)) (f, j) := by
        rw [show j + 1 - n0 = (j - n0) + 1 by omega, addSecs_snoc, show n0 + (j - n0) = j by omega]
      have HSN := Lib.hid hsn
      have hle : (j : Int) ≤ (n1 : Int) := by omega
      generalize hps : addSecs R'.queue f n0 (j - n0) = ps at h1 HSN
      clear hps hsn
      have hlen := queue_len h1.ok.queue h1.ok.few
      have HPD := Lib.hid (pending_any h1 f j)
      by_cases hin : (f, j) ∈ ps
      · have hpd := pending_any h1 f j
        rw [decide_eq_true (show (f, j) ∈ ({ R' with queue := ps } : Rf).queue from hin)] at hpd
        have HPD := Lib.hid hpd
        have HIN5 := Lib.hid (show AddInv lab id r R' f n0 w (j + 1 - n0) wr from ⟨lab1, ⟨L1, by rw [HSN.out, addSec, if_pos hin]; exact h1⟩, k1⟩)
        clear hpd hin h1 k1
        go_wp2_with (go_at_call 84; refine HPD.out.mono ?_; rintro e w5 ⟨rfl, rfl⟩)
        go_roundw
        case rel => exact ⟨j + 1, by omega, by omega, by go_num, HIN5⟩
        case measure => simp [intOf]; omega
      · have hpd := pending_any h1 f j
        rw [decide_eq_false (show ¬ (f, j) ∈ ({ R' with queue := ps } : Rf).queue from hin)] at hpd
        have HPD := Lib.hid hpd
        have c1 := h1.c 1
        have f1 := h1.fz 1
        simp only [List.getElem?_toArray, List.getElem?_cons_zero, List.getElem?_cons_succ] at c1
        obtain ⟨qa, qc, hqv⟩ := own_form h1.queue
        have ho := h1.queue
        rw [hqv] at c1 ho
        have hA := below_alloc wr (.cells #[.int .i64 (f : Int), .int .i64 (j : Int)] 84)
        obtain ⟨v', w', r1, r2, r3, r4⟩ := push_sec (wr.alloc (.cells #[.int .i64 (f : Int), .int .i64 (j : Int)] 84)) _ _ (ho.alloc _) hlen (f, j) (a := wr.heap.size) (alloc_new_cell wr _ _ 0) (alloc_new_cell wr _ _ 1) 66
        have g5 : wr.grownBy w' L1.qv.ownBlock := by
          rw [hqv]
          exact ⟨r3.os.trans hA.os, r3.tape.trans hA.tape, r3.output.trans hA.output, Nat.le_trans hA.size r3.size, fun i hi hne2 => (r3.block i (Nat.lt_of_lt_of_le hi hA.size) hne2).trans (hA.block i hi)⟩
        have hgn : L1.qv.ownBlock ≠ some r := fun e => by have h5 := h1.lq _ e; have h6 := h1.lr; omega
        have e1 := g5.cell (a := ⟨r, 1, none⟩) c1 (fun e => hgn e.symm)
        have fe1 : w'.frozen? ⟨r, 1, none⟩ = false := (World.frozen?_of_block (w := wr) (g5.block _ h1.rlt (fun e => hgn e.symm))).trans f1
        obtain ⟨va, vc, hv'⟩ := own_form r2
        subst hv'
        have HIN5 := Lib.hid (show AddInv lab id r R' f n0 w (j + 1 - n0) (w'.setCell ⟨r, 1, none⟩ (.slice va (ps.length + 1) vc)) from by
          have := h1.pushQueue (p := (f, j)) hin hf (by show j < 262144; omega) k1 g5 r2 (by
            rw [hqv]
            rcases r4 with h | h
            · exact .inl h
            · exact .inr fun i hi => by rw [h] at hi; simp at hi; omega)
          rw [show (({ R' with queue := ps } : Rf).queue ++ [(f, j)]).length = ps.length + 1 by simp] at this
          unfold AddInv
          rw [HSN.out, addSec, if_neg hin]
          exact this)
        have HRR := Lib.hid r1
        clear hpd hin h1 k1 ho hA r1 r2 r3 r4 g5 hgn f1 hqv
        go_wp2_with (first | (go_at_call 84; refine HPD.out.mono ?_; rintro e w5 ⟨rfl, rfl⟩) | (at_builtin; refine wpList_append_run rfl _ _ _ _ rfl _ _ rfl rfl _ _ HRR.out ?_))
        go_wp2
        go_roundw
        case rel => exact ⟨j + 1, by omega, by omega, by go_num, HIN5⟩
        case measure => simp [intOf]; omega
    · have hjj : j - n0 = K0 a s.length := by omega
      have hinv := HINV.out
      rw [hjj] at hinv
      have HIV := Lib.hid hinv
      clear hinv hjj
      go_wp2
      go_end0
      obtain ⟨lab1, g1, k1⟩ := HIV.out
      rw [show R'.queue = R.queue by rw [← HR'.out]; rfl] at g1
      exact ⟨rfl, lab1, by rw [HR'.out, ← HN0.out]; exact g1, k1⟩
theorem radd_any (h : RIn w lab id r R L) (f a : Nat) (s : List UInt8) (hf : f < 16) (ha : a + s.length ≤ 16777216) :
    Calls Tryz.prog 69 #[.pointer (some ⟨r, 0, none⟩), .int .i64 (f : Int), .int .i64 (a : Int), .string (bs s)] w (RPost lab id r (.tuple #[]) (R.add f a s) w) := by
  unfold Rf.add
  by_cases hs : s = []
  · subst hs
    rw [if_pos rfl]
    have H := Lib.hid h
    have hb0 : bs [] = ⟨#[]⟩ := rfl
    rw [hb0]
    clear h hb0
    go_enter Tryz.func69, Tryz.ntmps69
    go_wp2
    refine bodyPost_ret (results_none rfl _ _ _) rfl ?_
    exact ⟨rfl, lab, ⟨L, H.out⟩, Chg.refl H.out.lo⟩
  · rw [if_neg hs]
    exact radd_some h f a s hf ha (by cases s with | nil => exact absurd rfl hs | cons x t => simp)
end
end Go.Proofs.YtjbcgahdiolhhaaGreatDoor.D2
namespace Go.Proofs.YtjbcgahdiolhhaaGreatDoor.D2
open Go
section
variable {P : Program} {ops : Array Oper} {Q : Exit → Act → World → Prop} {md : Region.Mode} {S : World → Prop} {c : Nat}
/-- What is listed has what it waits for listed. -/
def Shut (md : Region.Mode) (ops : Array Oper) (t : Array Bool) : Prop := ∀ j oj, ops[j]? = some oj → t.getD j false = true → ∀ e ∈ oj.after, Region.binds md e = true → t.getD e.on false = true
theorem shut_set {t : Array Bool} {j : Nat} (h : Shut md ops t) (hj : j ∈ Region.ready md ops t) : Shut md ops (t.setIfInBounds j true) := by
  obtain ⟨_, oj, hoj, hall⟩ := mem_ready.1 hj
  intro k ok hk hl e he hb
  by_cases hjk : j = k
  · subst hjk
    rw [hoj] at hk; cases hk
    exact getD_set_true (hall e he hb)
  · rw [getD_set_ne false hjk] at hl
    exact getD_set_true (h k ok hk hl e he hb)
/-- c waits for i, or for what waits for i, .. -/
def needsB (md : Region.Mode) (ops : Array Oper) : Nat → Nat → Nat → Bool
  | 0, _, _ => false
  | f + 1, c, i => Region.waitsFor md ops c i || (List.range ops.size).any fun k => Region.waitsFor md ops c k && needsB md ops f k i
theorem needs_listed {t : Array Bool} {i : Nat} (h : Shut md ops t) : ∀ (f c : Nat), needsB md ops f c i = true → (∀ oc, ops[c]? = some oc → ∀ e ∈ oc.after, Region.binds md e = true → t.getD e.on false = true) → t.getD i false = true
  | 0, _, hn, _ => by simp [needsB] at hn
  | f + 1, c, hn, hc => by
    simp only [needsB, Bool.or_eq_true, List.any_eq_true, Bool.and_eq_true] at hn
    rcases hn with hn | ⟨k, _, hk, hn⟩
    · obtain ⟨oc, hoc, e, he, hb, hon⟩ := Region.waitsFor_spec hn
      rw [← hon]; exact hc oc hoc e he hb
    · obtain ⟨oc, hoc, e, he, hb, hon⟩ := Region.waitsFor_spec hk
      have hkl : t.getD k false = true := by rw [← hon]; exact hc oc hoc e he hb
      exact needs_listed h f k hn (fun ok hok e he hb => h k ok hok hkl e he hb)
/-- Whatever order is picked, and S holds behind each operation as long as c has not come up. -/
def anyTill (P : Program) (md : Region.Mode) (ops : Array Oper) (Q : Exit → Act → World → Prop) (c : Nat) (S : World → Prop) : Nat → Array Bool → Act → World → Prop
  | 0, t, a, w => Region.ready md ops t = [] ∧ Q .normal a w
  | n + 1, t, a, w => (Region.ready md ops t = [] → Q .normal a w) ∧
    ∀ i ∈ Region.ready md ops t, wpOp P ops Q i (fun a' w' => ((t.setIfInBounds i true).getD c false = false → S w') ∧ anyTill P md ops Q c S n (t.setIfInBounds i true) a' w') a w
theorem any_of_till : ∀ (n : Nat) (t : Array Bool) (a : Act) (w : World), anyTill P md ops Q c S n t a w → wpAny P md ops Q n t a w
  | 0, _, _, _, h => h
  | n + 1, _, _, _, h => ⟨h.1, fun i hi => wpOp_mono (fun a' w' h' => any_of_till n _ a' w' h'.2) (h.2 i hi)⟩
theorem till_first {i f : Nat} {b : Bool} {oi : Oper} {v : Value} (hi : ops[i]? = some oi) (hsel : Region.noSelect ops = true) (hb : b = true → needsB md ops f c i = true) (hic : i ≠ c)
    (hQ : ∀ p a w, Q (.panic p) (a.put oi.dst v) w → Q (.panic p) a w) :
    ∀ (n : Nat) (t : Array Bool) (a : Act) (w : World), Shut md ops t →
      (∀ j oj, ops[j]? = some oj → j ≠ i → t.getD j true = false → (∀ e ∈ oj.after, Region.binds md e = true → e.on ≠ i) → oi.apart ops oj = true) →
      i ∈ Region.ready md ops t → YieldsIf P ops (fun w => b = true → S w) oi v a → (t.getD c false = false → S w) →
      anyTill P md ops Q c S n (t.setIfInBounds i true) (a.put oi.dst v) w → anyTill P md ops Q c S (n + 1) t a w := by
  have key : ∀ {t : Array Bool} {w : World}, Shut md ops t → i ∈ Region.ready md ops t → (t.getD c false = false → S w) → b = true → S w := by
    intro t w hs hr hS hbt
    apply hS
    cases hcl : t.getD c false with
    | false => rfl
    | true =>
      have := needs_listed hs f c (hb hbt) (fun oc hoc e he hb => hs c oc hoc hcl e he hb)
      rw [getD_both (mem_ready.1 hr).1] at this
      cases this
  intro n
  induction n with
  | zero =>
    intro t a w hs _ hr hy hS H
    refine ⟨fun h => (by rw [h] at hr; cases hr), fun j hj => ?_⟩
    by_cases hji : j = i
    · subst hji; exact hy.wpOp hi (key hs hr hS) ⟨fun hc => hS (by rw [getD_set_ne false hic] at hc; exact hc), H⟩
    · have := ready_mono hj hji
      rw [H.1] at this
      cases this
  | succ n ih =>
    intro t a w hs hfree hr hy hS H
    refine ⟨fun h => (by rw [h] at hr; cases hr), fun j hj => ?_⟩
    by_cases hji : j = i
    · subst hji; exact hy.wpOp hi (key hs hr hS) ⟨fun hc => hS (by rw [getD_set_ne false hic] at hc; exact hc), H⟩
    · have h1 := H.2 j (ready_mono hj hji)
      obtain ⟨hjun, oj, hoj, hall⟩ := mem_ready.1 hj
      have hnot : ∀ e ∈ oj.after, Region.binds md e = true → e.on ≠ i := fun e he hb heq => by
        have h1 := hall e he hb
        rw [heq, getD_both (mem_ready.1 hr).1] at h1
        cases h1
      have h2 := wpOp_putIf hoj (hfree j oj hoj hji hjun hnot) (fun cs b => Region.noSelect_spec hsel i oi cs b hi) (fun cs b => Region.noSelect_spec hsel j oj cs b hoj) hQ hy h1
      have hfree' : ∀ k ok, ops[k]? = some ok → k ≠ i → (t.setIfInBounds j true).getD k true = false → (∀ e ∈ ok.after, Region.binds md e = true → e.on ≠ i) → oi.apart ops ok = true := fun k ok hk hki hun hno => by
        refine hfree k ok hk hki ?_ hno
        by_cases hjk : j = k
        · subst hjk; exact hjun
        · rw [getD_set_ne true hjk] at hun; exact hun
      refine wpOp_mono (fun a' w' h3 => ?_) h2
      have hS' : (t.setIfInBounds j true).getD c false = false → S w' := fun hc => h3.2.1 (by
        rw [← Array.setIfInBounds_comm _ _ hji, getD_set_ne false hic]; exact hc)
      refine ⟨hS', ih _ a' w' (shut_set hs hj) hfree' (ready_mono hr (Ne.symm hji)) h3.1 hS' ?_⟩
      rw [Array.setIfInBounds_comm _ _ hji]
      exact h3.2.2
/-- A walk's state: what is shut goes on being so. -/
def Till (P : Program) (md : Region.Mode) (ops : Array Oper) (Q : Exit → Act → World → Prop) (c : Nat) (S : World → Prop) (n : Nat) (t : Array Bool) (a : Act) (w : World) : Prop := Shut md ops t → anyTill P md ops Q c S n t a w
/-- No tactic looks into it. -/
def HeldK (p : Prop) : Prop := p
theorem HeldK.out {p : Prop} (h : HeldK p) : p := h
def dstOf (ops : Array Oper) (i : Nat) : Option Tmp := (ops[i]?).bind (·.dst)
/-- Take number i: a load (b = true: in every world of S), or what yields in whatever world (b = false). -/
theorem till_take (i f : Nat) (b : Bool) {v : Value} {n : Nat} {t : Array Bool} {a : Act} {w : World} (hsel : Region.noSelect ops = true) (hb : (!b || needsB md ops f c i) = true) (hic : (i == c) = false)
    (hf : Region.free md ops t i = true) (hr : (Region.ready md ops t).contains i = true) (hQ : ∀ p a w, Q (.panic p) (a.put (dstOf ops i) v) w → Q (.panic p) a w)
    (hw : (ops[i]?).elim False fun oi => Region.wanted oi (yielded ops a.tmps) = true) (hS : S w)
    (hy : (ops[i]?).elim False fun oi => ∀ w, (b = true → S w) → (execOp a.eval oi).run P w = .ok (.value v) w)
    (h : Till P md ops Q c S n (t.setIfInBounds i true) (a.put (dstOf ops i) v) w) : Till P md ops Q c S (n + 1) t a w := by
  intro hs
  cases hi : ops[i]? with
  | none => rw [hi] at hw; exact hw.elim
  | some oi =>
    rw [hi] at hw hy
    simp only [Option.elim] at hw hy
    have hr' : i ∈ Region.ready md ops t := by simpa using hr
    have hd : dstOf ops i = oi.dst := by unfold dstOf; rw [hi]; rfl
    rw [hd] at h hQ
    refine till_first (b := b) (f := f) hi hsel (fun hbt => by rw [hbt] at hb; simpa using hb) (by simpa using hic) hQ n t a w hs (Region.free_spec hi hf) hr' (.inl ⟨hw, hy⟩) (fun _ => hS) (h (shut_set hs hr'))
/-- One alone may come up: what follows is held back ('K'). -/
theorem till_step (i : Nat) {n : Nat} {t : Array Bool} {a : Act} {w : World} (hr : Region.ready md ops t = [i]) (hg : (t.setIfInBounds i true).getD c false = true)
    (h : ∀ K : Act → World → Prop, HeldK (∀ a' w', Till P md ops Q c S n (t.setIfInBounds i true) a' w' → K a' w') →
      (ops[i]?).elim False fun o => if Region.wanted o (yielded ops a.tmps) = true then Oper.wp P o a w K Q else K (a.put o.dst undef) w) : Till P md ops Q c S (n + 1) t a w := by
  intro hs
  refine ⟨fun h0 => (by rw [hr] at h0; cases h0), fun j hj => ?_⟩
  have hj' : j ∈ Region.ready md ops t := hj
  rw [hr] at hj
  have hji : j = i := by simpa using hj
  subst hji
  have h1 := h _ (fun a' w' h2 => (⟨fun h0 => (by rw [hg] at h0; cases h0), h2 (shut_set hs hj')⟩ : ((t.setIfInBounds j true).getD c false = false → S w') ∧ anyTill P md ops Q c S n (t.setIfInBounds j true) a' w'))
  unfold wpOp
  cases ho : ops[j]? with
  | none => rw [ho] at h1; exact h1.elim
  | some o =>
    rw [ho] at h1
    simp only [Option.elim] at h1 ⊢
    split
    · rename_i hw; rw [if_pos hw] at h1; exact .inl h1
    · rename_i hw; rw [if_neg hw] at h1; exact h1
theorem till_end {t : Array Bool} {a : Act} {w : World} (hr : Region.ready md ops t = []) (h : Q .normal a w) : ∀ n, Till P md ops Q c S n t a w
  | 0 => fun _ => ⟨hr, h⟩
  | _ + 1 => fun _ => ⟨fun _ => h, by rw [hr]; simp⟩
theorem region_till {id : Nat} {a : Act} {w : World} (c : Nat) (S : World → Prop) (hm : P.follows .mixedOrders = true)
    (h : Till P .any ops Q c S ops.size (Array.replicate ops.size false) a { w with drawn := w.drawn + 1 }) : (Code.region id ops true).wp P Q a w :=
  wp_region_any hm (any_of_till _ _ _ _ (h (fun j oj hj hl => by rw [getD_replicate_false] at hl; cases hl)))
end
end Go.Proofs.YtjbcgahdiolhhaaGreatDoor.D2
namespace Go.Proofs.YtjbcgahdiolhhaaGreatDoor.D2
open Go.RowKit Go.Maps Go.ChangeMaps Go.MapKept
open Dp
attribute [local go_sem ↓] Go.wp_at_zero Go.wp_at_succ

def Rf.harden (R : Rf) (p : Nat × Nat) : Rf := R.set ⟨p.1, R.now p.1, putL (R.dur p.1) (64 * p.2) (sec (R.now p.1) p.2)⟩
/-- What a callee that writes nothing leaves of a local struct of three cells. -/
theorem blk3 {w1 w4 w5 : World} {u0 u1 u2 : Value} {T : TypeId} (b : Below w4.heap.size w4 w5) (h : w4.os = w1.os ∧ w4.tape = w1.tape ∧ w4.output = w1.output ∧ w4.heap = (w1.alloc (.cells #[u0, u1, u2] T)).heap) :
    w5.cell? ⟨w1.heap.size, 0, none⟩ = some u0 ∧ w5.cell? ⟨w1.heap.size, 1, none⟩ = some u1 ∧ w5.cell? ⟨w1.heap.size, 2, none⟩ = some u2 ∧ w5.frozen? ⟨w1.heap.size, 2, none⟩ = false ∧ Below w1.heap.size w1 w5 := by
  obtain ⟨h1, h2, h3, h4⟩ := h
  have hs : w4.heap.size = w1.heap.size + 1 := by rw [h4]; simp
  have hb : w5.heap[w1.heap.size]? = some (.cells #[u0, u1, u2] T (0, 0)) := (b.block _ (by omega)).trans (by rw [h4]; exact heap_alloc_new w1 _)
  refine ⟨by rw [Lib.cell_of_heap hb]; rfl, by rw [Lib.cell_of_heap hb]; rfl, by rw [Lib.cell_of_heap hb]; rfl, Lib.frozen_of_heap hb 2, ⟨b.os.trans h1, b.tape.trans h2, b.output.trans h3, by have := b.size; omega, fun k hk => (b.block k (by omega)).trans ?_⟩⟩
  rw [h4]; exact Lib.alloc_old w1 _ k hk
theorem below_rb {w4 w4' w5 : World} (b : Below w4.heap.size w4 w5) (h1 : w4.os = w4'.os) (h2 : w4.tape = w4'.tape) (h3 : w4.output = w4'.output) (h4 : w4.heap = w4'.heap) : Below w4'.heap.size w4' w5 := by
  exact ⟨b.os.trans h1, b.tape.trans h2, b.output.trans h3, by rw [← h4]; exact b.size, fun k hk => (b.block k (by rw [h4]; exact hk)).trans (by rw [h4])⟩
theorem str_slice (w : World) {s : List UInt8} (i j : Nat) (h1 : i ≤ j) (h2 : j ≤ (bs s).size) : (Instr.slice 9 (.string (bs s)) (some (.int .i64 (i : Int))) (some (.int .i64 (j : Int))) none).run Tryz.prog w = .ok (.string ((bs s).extract i j)) w := by
  simp [Instr.slice, Instr.sliceBounds, Instr.sliceBound, asIntOf, run_underlying Tryz.underlying9, h1, h2, Result.andThen, go_sem]
section
variable {w : World} {lab : Nat → Nat} {id r : Nat} {R : Rf} {L : RLoc}
set_option maxHeartbeats 4000000 in
set_option maxRecDepth 100000 in
theorem survive_any (h : RIn w lab id r R L) (p : Nat × Nat) (hp1 : p.1 < 16) (hp : 64 * p.2 < (R.now p.1).length) :
    Calls Tryz.prog 46 #[.pointer (some ⟨r, 0, none⟩), .agg #[.int .i64 (p.1 : Int), .int .i64 (p.2 : Int)]] w (RPostK lab id r (.tuple #[]) (R.harden p) L w) := by
  have H := Lib.hid h
  obtain ⟨hn1, hn2⟩ := rnow_len h.ok (p.1 : Int)
  have hb0 := below_alloc w (.cells #[.int .i64 (p.1 : Int), .int .i64 (p.2 : Int)] 84)
  have HB0 := Lib.hid hb0
  have HG := Lib.hid (get_any (h.fresh hb0) (p.1 : Int) ⟨by omega, by omega⟩)
  have x0 := alloc_new_cell w #[.int .i64 (p.1 : Int), .int .i64 (p.2 : Int)] 84 0
  have x1 := alloc_new_cell w #[.int .i64 (p.1 : Int), .int .i64 (p.2 : Int)] 84 1
  simp only [List.getElem?_toArray, List.getElem?_cons_zero, List.getElem?_cons_succ] at x0 x1
  have hsl : (sec (R.now p.1) p.2).length = min 64 ((R.now p.1).length - 64 * p.2) := sec_length _ _
  have hpl : (putL (R.dur p.1) (64 * p.2) (sec (R.now p.1) p.2)).length ≤ 16777216 := by rw [putL_length]; omega
  have HPL := Lib.hid hpl
  have HN1 := Lib.hid hn1
  have HN2 := Lib.hid hn2
  have hpt := fun w => rput_any (R.dur p.1) (64 * p.2) (sec (R.now p.1) p.2) hn2 (by omega) w
  rw [show ((64 * p.2 : Nat) : Int) = 64 * (p.2 : Int) by omega] at hpt
  have hne : sec (R.now p.1) p.2 ≠ [] := fun e => by rw [e] at hsl; simp at hsl; omega
  have hpn : putN (R.dur p.1) (64 * p.2) (sec (R.now p.1) p.2) = putL (R.dur p.1) (64 * p.2) (sec (R.now p.1) p.2) := by unfold putN; rw [if_neg hne]
  rw [hpn] at hpt
  have HPT := Lib.hid hpt
  have HNE := Lib.hid hne
  have hz := bs_size (R.now p.1)
  have hlt : 64 * (p.2 : Int) < ((bs (R.now p.1)).size : Int) := by omega
  obtain ⟨m, hm⟩ : ∃ m : Nat, m = min (64 * p.2 + 64) (R.now p.1).length := ⟨_, rfl⟩
  have hmm : min (64 * (p.2 : Int) + 64) ((bs (R.now p.1)).size : Int) = (m : Int) := by omega
  have hml : m ≤ (bs (R.now p.1)).size := by omega
  have hm0 : 64 * p.2 ≤ m := by omega
  have hzz : (bs (R.now p.1)).size ≤ 16777216 := by omega
  have hi1 : 64 * (p.2 : Int) ≤ (m : Int) := by omega
  have hi2 : (m : Int) ≤ ((bs (R.now p.1)).size : Int) := by omega
  have hi3 : (0 : Int) ≤ 64 * (p.2 : Int) := by omega
  have hw1 : IntKind.i64.wrap (64 * (p.2 : Int)) = 64 * (p.2 : Int) := by rw [IntKind.wrap_i64]; omega
  have hw2 : IntKind.i64.wrap (64 * (p.2 : Int) + 64) = 64 * (p.2 : Int) + 64 := by rw [IntKind.wrap_i64]; omega
  have HEX := Lib.hid (show (bs (R.now p.1)).extract (64 * p.2) m = bs (sec (R.now p.1) p.2) by
    rw [bs_extract]; congr 1
    unfold sec
    apply List.ext_getElem?
    intro i
    rw [List.getElem?_take, List.getElem?_take]
    by_cases hi : i < 64
    · rw [if_pos hi]
      split
      · rfl
      · exact (List.getElem?_eq_none (by simp; omega)).symm
    · rw [if_neg hi, if_neg (by omega)])
  have hsli : ∀ w, (Instr.slice 9 (.string (bs (R.now p.1))) (some (.int .i64 (64 * (p.2 : Int)))) (some (.int .i64 (m : Int))) none).run Tryz.prog w = .ok (.string (bs (sec (R.now p.1) p.2))) w := fun w => by
    have := str_slice w (64 * p.2) m hm0 hml
    rw [show ((64 * p.2 : Nat) : Int) = 64 * (p.2 : Int) by omega] at this
    rw [this, HEX.out]
  clear h hn1 hn2 hb0 hsl hpl hne hz hp hm hpt hpn
  go_enter Tryz.func46, Tryz.ntmps46
  go_wp2_with (go_at_call 49; refine HG.out.mono ?_; rintro e w1 ⟨rfl, b1⟩; refine Hid.out ?_)
  refine Lib.hid ?_
  have y0 := below_cell x0 b1
  have y1 := below_cell x1 b1
  have hbw1 : Below w.heap.size w w1 := HB0.out.trans (b1.mono HB0.out.size)
  have hxl : w.heap.size < w1.heap.size := Nat.lt_of_lt_of_le (by simp) b1.size
  have hA := below_alloc w1 (.cells #[.int .i64 (p.1 : Int), .string (bs (R.now p.1)), .string (bs (R.dur p.1))] 86)
  have z0 := below_cell y0 hA
  have z1 := below_cell y1 hA
  have d0 := alloc_new_cell w1 #[.int .i64 (p.1 : Int), .string (bs (R.now p.1)), .string (bs (R.dur p.1))] 86 0
  have d1 := alloc_new_cell w1 #[.int .i64 (p.1 : Int), .string (bs (R.now p.1)), .string (bs (R.dur p.1))] 86 1
  have d2 := alloc_new_cell w1 #[.int .i64 (p.1 : Int), .string (bs (R.now p.1)), .string (bs (R.dur p.1))] 86 2
  simp only [List.getElem?_toArray, List.getElem?_cons_zero, List.getElem?_cons_succ] at d0 d1 d2
  have HBW := Lib.hid hbw1
  have HBA := Lib.hid hA
  have HXL := Lib.hid hxl
  clear x0 x1 y0 y1 b1 hbw1 hxl hA HG
  go_wp2
  have fz2 := Lib.frozen_of_heap (heap_alloc_new w1 (.cells #[.int .i64 (p.1 : Int), .string (bs (R.now p.1)), .string (bs (R.dur p.1))] 86)) 2
  have S0 := And.intro z1 (And.intro d1 d2)
  refine region_till 19 (fun w' => w'.cell? ⟨w.heap.size, 1, none⟩ = some (.int .i64 (p.2 : Int)) ∧ w'.cell? ⟨w1.heap.size, 1, none⟩ = some (.string (bs (R.now p.1))) ∧ w'.cell? ⟨w1.heap.size, 2, none⟩ = some (.string (bs (R.dur p.1)))) (by kernel_rfl) ?_
  refine till_take 0 6 false (v := ?v0) (by kernel_rfl) (by kernel_rfl) (by kernel_rfl) (by kernel_rfl) (by kernel_rfl) (fun _ _ _ h => h) ?hw0 S0 ?hy0 ?rest0
  case hw0 => (simp only [List.getElem?_toArray, List.getElem?_cons_zero, Option.elim]; rfl)
  case hy0 => (simp only [List.getElem?_toArray, List.getElem?_cons_zero, Option.elim]; intro wx _; go_simp; with_reducible rfl)
  simp only [dstOf, List.getElem?_toArray, List.getElem?_cons_zero, Option.bind, Act.put, List.setIfInBounds_toArray, List.set_cons_zero, List.set_cons_succ]
  refine till_take 1 6 true (v := ?v1) (by kernel_rfl) (by kernel_rfl) (by kernel_rfl) (by kernel_rfl) (by kernel_rfl) (fun _ _ _ h => h) ?hw1 S0 ?hy1 ?rest1
  case hw1 => (simp only [List.getElem?_toArray, List.getElem?_cons_zero, List.getElem?_cons_succ, Option.elim]; rfl)
  case hy1 => (simp only [List.getElem?_toArray, List.getElem?_cons_zero, List.getElem?_cons_succ, Option.elim]; intro wx hx; obtain ⟨x1, x2, x3⟩ := hx trivial; go_simp; with_reducible rfl)
  simp only [dstOf, List.getElem?_toArray, List.getElem?_cons_zero, List.getElem?_cons_succ, Option.bind, Act.put, List.setIfInBounds_toArray, List.set_cons_zero, List.set_cons_succ]
  refine till_take 2 6 false (v := ?v2) (by kernel_rfl) (by kernel_rfl) (by kernel_rfl) (by kernel_rfl) (by kernel_rfl) (fun _ _ _ h => h) ?hw2 S0 ?hy2 ?rest2
  case hw2 => (simp only [List.getElem?_toArray, List.getElem?_cons_zero, List.getElem?_cons_succ, Option.elim]; rfl)
  case hy2 => (simp only [List.getElem?_toArray, List.getElem?_cons_zero, List.getElem?_cons_succ, Option.elim]; intro wx _; go_simp; with_reducible rfl)
  simp only [dstOf, List.getElem?_toArray, List.getElem?_cons_zero, List.getElem?_cons_succ, Option.bind, Act.put, List.setIfInBounds_toArray, List.set_cons_zero, List.set_cons_succ]
  refine till_take 3 6 true (v := ?v3) (by kernel_rfl) (by kernel_rfl) (by kernel_rfl) (by kernel_rfl) (by kernel_rfl) (fun _ _ _ h => h) ?hw3 S0 ?hy3 ?rest3
  case hw3 => (simp only [List.getElem?_toArray, List.getElem?_cons_zero, List.getElem?_cons_succ, Option.elim]; rfl)
  case hy3 => (simp only [List.getElem?_toArray, List.getElem?_cons_zero, List.getElem?_cons_succ, Option.elim]; intro wx hx; obtain ⟨x1, x2, x3⟩ := hx trivial; go_simp; with_reducible rfl)
  simp only [dstOf, List.getElem?_toArray, List.getElem?_cons_zero, List.getElem?_cons_succ, Option.bind, Act.put, List.setIfInBounds_toArray, List.set_cons_zero, List.set_cons_succ]
  refine till_take 4 6 false (v := ?v4) (by kernel_rfl) (by kernel_rfl) (by kernel_rfl) (by kernel_rfl) (by kernel_rfl) (fun _ _ _ h => h) ?hw4 S0 ?hy4 ?rest4
  case hw4 => (simp only [List.getElem?_toArray, List.getElem?_cons_zero, List.getElem?_cons_succ, Option.elim]; rfl)
  case hy4 => (simp only [List.getElem?_toArray, List.getElem?_cons_zero, List.getElem?_cons_succ, Option.elim]; intro wx _; go_simp; with_reducible rfl)
  simp only [dstOf, List.getElem?_toArray, List.getElem?_cons_zero, List.getElem?_cons_succ, Option.bind, Act.put, List.setIfInBounds_toArray, List.set_cons_zero, List.set_cons_succ]
  refine till_take 5 6 false (v := ?v5) (by kernel_rfl) (by kernel_rfl) (by kernel_rfl) (by kernel_rfl) (by kernel_rfl) (fun _ _ _ h => h) ?hw5 S0 ?hy5 ?rest5
  case hw5 => (simp only [List.getElem?_toArray, List.getElem?_cons_zero, List.getElem?_cons_succ, Option.elim]; rfl)
  case hy5 => (simp only [List.getElem?_toArray, List.getElem?_cons_zero, List.getElem?_cons_succ, Option.elim]; intro wx _; go_simp; with_reducible rfl)
  simp only [dstOf, List.getElem?_toArray, List.getElem?_cons_zero, List.getElem?_cons_succ, Option.bind, Act.put, List.setIfInBounds_toArray, List.set_cons_zero, List.set_cons_succ]
  refine till_take 6 6 true (v := ?v6) (by kernel_rfl) (by kernel_rfl) (by kernel_rfl) (by kernel_rfl) (by kernel_rfl) (fun _ _ _ h => h) ?hw6 S0 ?hy6 ?rest6
  case hw6 => (simp only [List.getElem?_toArray, List.getElem?_cons_zero, List.getElem?_cons_succ, Option.elim]; rfl)
  case hy6 => (simp only [List.getElem?_toArray, List.getElem?_cons_zero, List.getElem?_cons_succ, Option.elim]; intro wx hx; obtain ⟨x1, x2, x3⟩ := hx trivial; go_simp; with_reducible rfl)
  simp only [dstOf, List.getElem?_toArray, List.getElem?_cons_zero, List.getElem?_cons_succ, Option.bind, Act.put, List.setIfInBounds_toArray, List.set_cons_zero, List.set_cons_succ]
  refine till_take 7 6 false (v := ?v7) (by kernel_rfl) (by kernel_rfl) (by kernel_rfl) (by kernel_rfl) (by kernel_rfl) (fun _ _ _ h => h) ?hw7 S0 ?hy7 ?rest7
  case hw7 => (simp only [List.getElem?_toArray, List.getElem?_cons_zero, List.getElem?_cons_succ, Option.elim]; rfl)
  case hy7 => (simp only [List.getElem?_toArray, List.getElem?_cons_zero, List.getElem?_cons_succ, Option.elim]; intro wx _; go_simp; with_reducible rfl)
  simp only [dstOf, List.getElem?_toArray, List.getElem?_cons_zero, List.getElem?_cons_succ, Option.bind, Act.put, List.setIfInBounds_toArray, List.set_cons_zero, List.set_cons_succ]
  refine till_take 8 6 true (v := ?v8) (by kernel_rfl) (by kernel_rfl) (by kernel_rfl) (by kernel_rfl) (by kernel_rfl) (fun _ _ _ h => h) ?hw8 S0 ?hy8 ?rest8
  case hw8 => (simp only [List.getElem?_toArray, List.getElem?_cons_zero, List.getElem?_cons_succ, Option.elim]; rfl)
  case hy8 => (simp only [List.getElem?_toArray, List.getElem?_cons_zero, List.getElem?_cons_succ, Option.elim]; intro wx hx; obtain ⟨x1, x2, x3⟩ := hx trivial; go_simp; with_reducible rfl)
  simp only [dstOf, List.getElem?_toArray, List.getElem?_cons_zero, List.getElem?_cons_succ, Option.bind, Act.put, List.setIfInBounds_toArray, List.set_cons_zero, List.set_cons_succ]
  refine till_take 9 6 false (v := ?v9) (by kernel_rfl) (by kernel_rfl) (by kernel_rfl) (by kernel_rfl) (by kernel_rfl) (fun _ _ _ h => h) ?hw9 S0 ?hy9 ?rest9
  case hw9 => (simp only [List.getElem?_toArray, List.getElem?_cons_zero, List.getElem?_cons_succ, Option.elim]; rfl)
  case hy9 => (simp only [List.getElem?_toArray, List.getElem?_cons_zero, List.getElem?_cons_succ, Option.elim]; intro wx _; go_simp; with_reducible rfl)
  simp only [dstOf, List.getElem?_toArray, List.getElem?_cons_zero, List.getElem?_cons_succ, Option.bind, Act.put, List.setIfInBounds_toArray, List.set_cons_zero, List.set_cons_succ]
  refine till_take 10 6 false (v := ?v10) (by kernel_rfl) (by kernel_rfl) (by kernel_rfl) (by kernel_rfl) (by kernel_rfl) (fun _ _ _ h => h) ?hw10 S0 ?hy10 ?rest10
  case hw10 => (simp only [List.getElem?_toArray, List.getElem?_cons_zero, List.getElem?_cons_succ, Option.elim]; rfl)
  case hy10 => (simp only [List.getElem?_toArray, List.getElem?_cons_zero, List.getElem?_cons_succ, Option.elim]; intro wx _; go_simp; with_reducible rfl)
  simp only [dstOf, List.getElem?_toArray, List.getElem?_cons_zero, List.getElem?_cons_succ, Option.bind, Act.put, List.setIfInBounds_toArray, List.set_cons_zero, List.set_cons_succ]
  refine till_take 11 6 true (v := ?v11) (by kernel_rfl) (by kernel_rfl) (by kernel_rfl) (by kernel_rfl) (by kernel_rfl) (fun _ _ _ h => h) ?hw11 S0 ?hy11 ?rest11
  case hw11 => (simp only [List.getElem?_toArray, List.getElem?_cons_zero, List.getElem?_cons_succ, Option.elim]; rfl)
  case hy11 => (simp only [List.getElem?_toArray, List.getElem?_cons_zero, List.getElem?_cons_succ, Option.elim]; intro wx hx; obtain ⟨x1, x2, x3⟩ := hx trivial; go_simp; with_reducible rfl)
  simp only [dstOf, List.getElem?_toArray, List.getElem?_cons_zero, List.getElem?_cons_succ, Option.bind, Act.put, List.setIfInBounds_toArray, List.set_cons_zero, List.set_cons_succ]
  refine till_take 12 6 false (v := ?v12) (by kernel_rfl) (by kernel_rfl) (by kernel_rfl) (by kernel_rfl) (by kernel_rfl) (fun _ _ _ h => h) ?hw12 S0 ?hy12 ?rest12
  case hw12 => (simp only [List.getElem?_toArray, List.getElem?_cons_zero, List.getElem?_cons_succ, Option.elim]; rfl)
  case hy12 => (simp only [List.getElem?_toArray, List.getElem?_cons_zero, List.getElem?_cons_succ, Option.elim]; intro wx _; go_simp; with_reducible rfl)
  simp only [dstOf, List.getElem?_toArray, List.getElem?_cons_zero, List.getElem?_cons_succ, Option.bind, Act.put, List.setIfInBounds_toArray, List.set_cons_zero, List.set_cons_succ]
  refine till_take 13 6 false (v := ?v13) (by kernel_rfl) (by kernel_rfl) (by kernel_rfl) (by kernel_rfl) (by kernel_rfl) (fun _ _ _ h => h) ?hw13 S0 ?hy13 ?rest13
  case hw13 => (simp only [List.getElem?_toArray, List.getElem?_cons_zero, List.getElem?_cons_succ, Option.elim]; rfl)
  case hy13 => (simp only [List.getElem?_toArray, List.getElem?_cons_zero, List.getElem?_cons_succ, Option.elim]; intro wx _; go_simp; with_reducible rfl)
  simp only [dstOf, List.getElem?_toArray, List.getElem?_cons_zero, List.getElem?_cons_succ, Option.bind, Act.put, List.setIfInBounds_toArray, List.set_cons_zero, List.set_cons_succ]
  refine till_take 14 6 false (v := ?v14) (by kernel_rfl) (by kernel_rfl) (by kernel_rfl) (by kernel_rfl) (by kernel_rfl) (fun _ _ _ h => h) ?hw14 S0 ?hy14 ?rest14
  case hw14 => (simp only [List.getElem?_toArray, List.getElem?_cons_zero, List.getElem?_cons_succ, Option.elim]; rfl)
  case hy14 => (simp only [List.getElem?_toArray, List.getElem?_cons_zero, List.getElem?_cons_succ, Option.elim]; intro wx _; go_simp; with_reducible rfl)
  simp only [dstOf, List.getElem?_toArray, List.getElem?_cons_zero, List.getElem?_cons_succ, Option.bind, Act.put, List.setIfInBounds_toArray, List.set_cons_zero, List.set_cons_succ]
  refine till_take 15 6 true (v := ?v15) (by kernel_rfl) (by kernel_rfl) (by kernel_rfl) (by kernel_rfl) (by kernel_rfl) (fun _ _ _ h => h) ?hw15 S0 ?hy15 ?rest15
  case hw15 => (simp only [List.getElem?_toArray, List.getElem?_cons_zero, List.getElem?_cons_succ, Option.elim]; rfl)
  case hy15 => (simp only [List.getElem?_toArray, List.getElem?_cons_zero, List.getElem?_cons_succ, Option.elim]; intro wx hx; obtain ⟨x1, x2, x3⟩ := hx trivial; go_simp; with_reducible rfl)
  simp only [dstOf, List.getElem?_toArray, List.getElem?_cons_zero, List.getElem?_cons_succ, Option.bind, Act.put, List.setIfInBounds_toArray, List.set_cons_zero, List.set_cons_succ]
  refine till_take 16 6 false (v := ?v16) (by kernel_rfl) (by kernel_rfl) (by kernel_rfl) (by kernel_rfl) (by kernel_rfl) (fun _ _ _ h => h) ?hw16 S0 ?hy16 ?rest16
  case hw16 => (simp only [List.getElem?_toArray, List.getElem?_cons_zero, List.getElem?_cons_succ, Option.elim]; rfl)
  case hy16 => (simp only [List.getElem?_toArray, List.getElem?_cons_zero, List.getElem?_cons_succ, Option.elim]; intro wx _; go_simp; with_reducible rfl)
  simp only [dstOf, List.getElem?_toArray, List.getElem?_cons_zero, List.getElem?_cons_succ, Option.bind, Act.put, List.setIfInBounds_toArray, List.set_cons_zero, List.set_cons_succ]
  refine till_take 17 6 false (v := ?v17) (by kernel_rfl) (by kernel_rfl) (by kernel_rfl) (by kernel_rfl) (by kernel_rfl) (fun _ _ _ h => h) ?hw17 S0 ?hy17 ?rest17
  case hw17 => (simp only [List.getElem?_toArray, List.getElem?_cons_zero, List.getElem?_cons_succ, Option.elim]; rfl)
  case hy17 => (simp only [List.getElem?_toArray, List.getElem?_cons_zero, List.getElem?_cons_succ, Option.elim]; intro wx _; go_simp; with_reducible rfl)
  simp only [dstOf, List.getElem?_toArray, List.getElem?_cons_zero, List.getElem?_cons_succ, Option.bind, Act.put, List.setIfInBounds_toArray, List.set_cons_zero, List.set_cons_succ]
  refine till_take 18 6 false (v := ?v18) (by kernel_rfl) (by kernel_rfl) (by kernel_rfl) (by kernel_rfl) (by kernel_rfl) (fun _ _ _ h => h) ?hw18 S0 ?hy18 ?rest18
  case hw18 => (simp only [List.getElem?_toArray, List.getElem?_cons_zero, List.getElem?_cons_succ, Option.elim]; rfl)
  case hy18 => (simp only [List.getElem?_toArray, List.getElem?_cons_zero, List.getElem?_cons_succ, Option.elim]; intro wx _; go_simp; with_reducible rfl)
  simp only [dstOf, List.getElem?_toArray, List.getElem?_cons_zero, List.getElem?_cons_succ, Option.bind, Act.put, List.setIfInBounds_toArray, List.set_cons_zero, List.set_cons_succ]
  refine till_step 19 (by kernel_rfl) (by kernel_rfl) (fun K hK => ?_)
  simp only [List.getElem?_toArray, List.getElem?_cons_zero, List.getElem?_cons_succ, Option.elim]
  rw [if_pos (by rfl)]
  go_simp
  go_at_call 71
  refine (HPT.out _).mono ?_
  rintro e w5 ⟨rfl, b5⟩
  refine hK.out _ _ ?_
  clear hK K
  try simp only [Act.put, List.setIfInBounds_toArray, List.set_cons_zero, List.set_cons_succ]
  obtain ⟨e0, e1, e2, fe2, b6⟩ := blk3 (w1 := w1) (u0 := .int .i64 (p.1 : Int)) (u1 := .string (bs (R.now p.1))) (u2 := .string (bs (R.dur p.1))) (T := 86) b5 ⟨rfl, rfl, rfl, rfl⟩
  refine till_step 20 (by kernel_rfl) (by kernel_rfl) (fun K hK => ?_)
  simp only [List.getElem?_toArray, List.getElem?_cons_zero, List.getElem?_cons_succ, Option.elim]
  rw [if_pos (by rfl)]
  go_simp
  refine hK.out _ _ ?_
  clear hK K
  try simp only [Act.put, List.setIfInBounds_toArray, List.set_cons_zero, List.set_cons_succ]
  refine till_step 21 (by kernel_rfl) (by kernel_rfl) (fun K hK => ?_)
  simp only [List.getElem?_toArray, List.getElem?_cons_zero, List.getElem?_cons_succ, Option.elim]
  rw [if_pos (by rfl)]
  go_simp
  refine hK.out _ _ ?_
  clear hK K
  refine till_end (by kernel_rfl) ?_ _
  have hbw3 : Below w.heap.size w (w5.setCell ⟨w1.heap.size, 2, none⟩ (.string (bs (putL (R.dur p.1) (64 * p.2) (sec (R.now p.1) p.2))))) := (HBW.out.trans (b6.mono HBW.out.size)).setCell (p := ⟨w1.heap.size, 2, none⟩) HBW.out.size _
  have HS := Lib.hid (rset_keep (H.out.fresh hbw3) ⟨p.1, R.now p.1, putL (R.dur p.1) (64 * p.2) (sec (R.now p.1) p.2)⟩ hp1 HN1.out HPL.out)
  have HK3 := Lib.hid (H.out.chg0 hbw3)
  clear hbw3 b6 b5 S0 z0 z1 d0 d1 d2 fz2 hlt hmm hml hm0 hzz hi1 hi2 hi3 hw1 hw2 hsli
  go_wp2_with (go_at_call 72; refine HS.out.mono ?_; rintro e w6 ⟨rfl, lab6, L6, g6, g7, k6⟩; refine Hid.out ?_)
  refine Lib.hid ?_
  have HF := Lib.hid (show RPostK lab id r (.tuple #[]) (R.harden p) L w (.returned (.tuple #[])) w6 from ⟨rfl, lab6, L6, g6, g7, HK3.out.trans k6⟩)
  clear g6 g7 k6 HS
  go_wp2
  go_end0
  exact HF.out
end
end Go.Proofs.YtjbcgahdiolhhaaGreatDoor.D2
