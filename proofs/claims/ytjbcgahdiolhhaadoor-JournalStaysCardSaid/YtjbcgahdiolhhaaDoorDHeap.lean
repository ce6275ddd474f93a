/- How a disk of layer 2 lies in memory, and the frames of its calls. -/
import Derived.Test.YtjbcgahdiolhhaaDoorDMaps
import Derived.Lib.Hide
import Derived.Lib.AppendStr
import Derived.Lib.AppendZeros
import Derived.Lib.AppendZerosOnto
import Derived.Lib.Builder
import Derived.Lib.Strings
import Derived.Laws.CopyOwn
import Derived.Maps.AppendAt
import Derived.WalkSpells
import Derived.WalkSmall
import Derived.Deep.QuietTactic
import Derived.BigQuiet
import Derived.Deep.DeepFit
import Derived.DeepKeys4
import Derived.Outline
namespace Go.Proofs.YtjbcgahdiolhhaaDoor.D2
open Go.RowKit Go.Maps Go.ChangeMaps Go.MapKept
open Dp

/-! ### Keys -/
theorem lawI : Keyed Tryd.prog 3 := int_keyed Tryd.underlying3
theorem laidOut : laidOutB Tryd.prog = true := by kernel_rfl
theorem rowS : (78 : TypeId) < Tryd.prog.types.size := of_decide_eq_true (by kernel_rfl)
theorem cellsS : Tryd.prog.cellsOf 78 = 2 := by kernel_rfl
theorem cellsI : Tryd.prog.cellsOf 3 = 1 := by kernel_rfl
set_option maxRecDepth 100000 in
theorem wideS : (match Tryd.prog.underlying 78 with | some (.array _ _) | some (.struct _) => true | _ => false) = true := by rw [Tryd.underlying78]
set_option maxRecDepth 100000 in
theorem lawS : Keyed Tryd.prog 78 := Keyed.of_law (deep_law_laid laidOut (m := 2) (by omega) rowS (by kernel_rfl) wideS)

def secV (p : Nat × Nat) : Value := .agg #[.int .i64 (p.1 : Int), .int .i64 (p.2 : Int)]
def secLit (p : Nat × Nat) : Lit := .string (keyBytes [.int .i64 (p.1 : Int), .int .i64 (p.2 : Int)])
theorem i64wf {x : Int} (h : I64 x) : (Lit.int .i64 x).wf = true := by
  obtain ⟨h1, h2⟩ := h
  simp [Lit.wf, IntKind.min, IntKind.max, IntKind.signed, IntKind.bits]; omega
theorem keyI {x : Int} (h : I64 x) : keyOf Tryd.prog 3 (.int .i64 x) = some (.int .i64 x) := keyOf_int_mk Tryd.underlying3 (i64wf h)
theorem keyTypeS : Tryd.prog.keyType 78 = true := by kernel_rfl
theorem sizesN : ∃ n, Tryd.prog.types.size = n + 1 := by
  have h : 1 ≤ Tryd.prog.types.size := of_decide_eq_true (by kernel_rfl)
  exact ⟨Tryd.prog.types.size - 1, by omega⟩
theorem key_two {P : Program} {k t : TypeId} {n : Nat} {fs : Array Field} {f0 f1 : Field} (hu : P.underlying k = some (.struct fs)) (hfs : fs = #[f0, f1]) (hk : P.keyType k = true) (hc : P.cellsOf k = 2) (hn : P.types.size = n + 1) (ht : P.underlying t = some (.int .i64)) (hct : P.cellsOf t = 1)
    (h0 : f0.type = t ∧ f0.offset = 0 ∧ f0.name ≠ "_") (h1 : f1.type = t ∧ f1.offset = 1 ∧ f1.name ≠ "_") {x y : Int} (hx : (Lit.int .i64 x).wf = true) (hy : (Lit.int .i64 y).wf = true) :
    keyOf P k (.agg #[.int .i64 x, .int .i64 y]) = some (.string (keyBytes [.int .i64 x, .int .i64 y])) := by
  obtain ⟨a1, a2, a3⟩ := h0
  obtain ⟨b1, b2, b3⟩ := h1
  subst hfs
  simp [keyOf, hu, hk, Value.formed, hc, Value.cells, hn, Program.keyLits, ht, hct, hx, hy, a1, a2, a3, b1, b2, b3]
set_option maxRecDepth 100000 in
theorem keyS {p : Nat × Nat} (h1 : p.1 < 9223372036854775807) (h2 : p.2 < 9223372036854775807) : keyOf Tryd.prog 78 (secV p) = some (secLit p) := by
  have e1 := i64wf (x := (p.1 : Int)) ⟨by omega, by omega⟩
  have e2 := i64wf (x := (p.2 : Int)) ⟨by omega, by omega⟩
  obtain ⟨n, hn⟩ := sizesN
  exact key_two Tryd.underlying78 rfl keyTypeS cellsS hn Tryd.underlying3 cellsI ⟨rfl, rfl, by decide⟩ ⟨rfl, rfl, by decide⟩ e1 e2
theorem secLit_inj {p q : Nat × Nat} (h1 : p.1 < 9223372036854775807) (h2 : p.2 < 9223372036854775807) (h3 : q.1 < 9223372036854775807) (h4 : q.2 < 9223372036854775807) (h : secLit p = secLit q) : p = q := by
  have e1 := keyS h1 h2
  have e2 := keyS h3 h4
  rw [h] at e1
  have := lawS.inj e1 e2
  simp only [secV, Value.agg.injEq, Array.mk.injEq, List.cons.injEq, Value.int.injEq, true_and, and_true] at this
  obtain ⟨a, b⟩ := this
  exact Prod.ext (by omega) (by omega)
theorem zeroP (w : World) : (zeroValue 65).run Tryd.prog w = .ok (.pointer none) w := by kernel_rfl
theorem zeroB (w : World) : (zeroValue 4).run Tryd.prog w = .ok (.bool false) w := by kernel_rfl
theorem byte_info : (Tryd.prog.info? 5).map (fun i => (i.zero, i.size, i.bytes)) = some (some (.int .u8 0), 1, 1) := by kernel_rfl
theorem int_info : (Tryd.prog.info? 3).map (fun i => (i.zero, i.size, i.bytes)) = some (some (.int .i64 0), 1, 8) := by kernel_rfl
theorem sec_info : (Tryd.prog.info? 78).map (fun i => (i.zero, i.size, i.bytes)) = some (some (.agg #[.int .i64 0, .int .i64 0]), 2, 16) := by kernel_rfl

/-! ### What lies in memory -/
def byteVs (l : List UInt8) : List Value := l.map fun b => .int .u8 (b.toNat : Int)
def secVs (ps : List (Nat × Nat)) : List Value := ps.flatMap fun p => [.int .i64 (p.1 : Int), .int .i64 (p.2 : Int)]
def intVs (l : List Int) : List Value := l.map (.int .i64)
theorem byteVs_length (l : List UInt8) : (byteVs l).length = l.length := by simp [byteVs]
theorem intVs_length (l : List Int) : (intVs l).length = l.length := by simp [intVs]
theorem secVs_length (l : List (Nat × Nat)) : (secVs l).length = l.length * 2 := by
  induction l with
  | nil => rfl
  | cons a l ih => simp [secVs] at ih ⊢; omega

def fileMap (g : Nat → Nat) : Lit → Option Value
  | .int .i64 f => if 0 ≤ f ∧ f < 16 then some (.pointer (some ⟨g f.toNat, 0, none⟩)) else none
  | _ => none
open Classical in
noncomputable def markMap (ps : List (Nat × Nat)) (kl : Lit) : Option Value := if ∃ p ∈ ps, secLit p = kl then some (.bool true) else none

/-- Where the parts of a disk lie. -/
structure Loc where
  fm : Nat
  fc : Nat
  mm : Nat
  g : Nat → Nat
  pv : Value
  kv : Value
  nv : Nat → Value
  dv : Nat → Value

def LabOk (lab : Nat → Nat) (w : World) : Prop := ∀ x, w.heap.size ≤ x → lab x = 0

/-- The disk D lies in block b; its blocks are those with labels from id on; mk: the marked sectors. -/
structure DiskIn (w : World) (lab : Nat → Nat) (id b : Nat) (D : Dk) (mk : List (Nat × Nat)) (L : Loc) : Prop where
  ok : D.Ok
  lo : LabOk lab w
  id64 : 64 ≤ id
  blk : w.heap[b]? = some (.cells #[.map (some L.fm), L.pv, .map (some L.mm), .bool D.down, .int .i64 (D.lost : Int), .int .i64 (D.calls : Int), L.kv] 64 (0, 0))
  fcl : L.fc ≤ 16
  files : MapIs Tryd.prog w 3 L.fm L.fc (fileMap L.g)
  marks : MapIs Tryd.prog w 78 L.mm mk.length (markMap mk)
  pend : w.ownsRow 0 78 2 L.pv D.pend.length (secVs D.pend)
  keep : w.ownsRow 0 3 1 L.kv D.keep.length (intVs D.keep)
  file : ∀ f, f < 16 → w.heap[L.g f]? = some (.cells #[L.nv f, L.dv f] 67 (0, 0))
  now : ∀ f, f < 16 → w.ownsRow 0 5 1 (L.nv f) (D.now f).length (byteVs (D.now f))
  dur : ∀ f, f < 16 → w.ownsRow 0 5 1 (L.dv f) (D.dur f).length (byteVs (D.dur f))
  lb : lab b = id
  lf : lab L.fm = id + 1
  lm : lab L.mm = id + 2
  lp : ∀ k, L.pv.ownBlock = some k → lab k = id + 3
  lk : ∀ k, L.kv.ownBlock = some k → lab k = id + 4
  lg : ∀ f, f < 16 → lab (L.g f) = id + 5 + f
  ln : ∀ f, f < 16 → ∀ k, (L.nv f).ownBlock = some k → lab k = id + 21 + f
  ld : ∀ f, f < 16 → ∀ k, (L.dv f).ownBlock = some k → lab k = id + 37 + f

/-- What a call on the disk with this id may do: of what was there only blocks with its labels change. -/
structure Chg (id : Nat) (lab lab' : Nat → Nat) (w w' : World) : Prop where
  os : w'.os = w.os
  tape : w'.tape = w.tape
  output : w'.output = w.output
  size : w.heap.size ≤ w'.heap.size
  labs : ∀ x, x < w.heap.size → lab' x = lab x
  block : ∀ x, x < w.heap.size → (lab x < id ∨ id + 64 ≤ lab x) → w'.heap[x]? = w.heap[x]?
  fresh : ∀ x, w.heap.size ≤ x → lab' x = 0 ∨ (id ≤ lab' x ∧ lab' x < id + 64)

theorem Chg.refl {id : Nat} {lab : Nat → Nat} {w : World} (h : LabOk lab w) : Chg id lab lab w w := ⟨rfl, rfl, rfl, Nat.le_refl _, fun _ _ => rfl, fun _ _ _ => rfl, fun x hx => .inl (h x hx)⟩
theorem Chg.trans {id : Nat} {l1 l2 l3 : Nat → Nat} {a b c : World} (h : Chg id l1 l2 a b) (k : Chg id l2 l3 b c) : Chg id l1 l3 a c where
  os := k.os.trans h.os
  tape := k.tape.trans h.tape
  output := k.output.trans h.output
  size := Nat.le_trans h.size k.size
  labs x hx := (k.labs x (Nat.lt_of_lt_of_le hx h.size)).trans (h.labs x hx)
  block x hx hl := (k.block x (Nat.lt_of_lt_of_le hx h.size) (by rw [h.labs x hx]; exact hl)).trans (h.block x hx hl)
  fresh x hx := by
    by_cases hb : x < b.heap.size
    · rw [k.labs x hb]; exact h.fresh x hx
    · exact k.fresh x (by omega)

theorem ownsRow_block {w w' : World} {base : Nat} {e : TypeId} {size n : Nat} {v : Value} {xs : List Value} (h : w.ownsRow base e size v n xs) (hb : ∀ k, v.ownBlock = some k → w'.heap[k]? = w.heap[k]?) : w'.ownsRow base e size v n xs := by
  refine ⟨h.1, ?_⟩
  rcases h.2 with hn | ⟨g, cap, cur, rfl, hb', hgg, rest⟩
  · exact .inl hn
  · exact .inr ⟨g, cap, cur, rfl, hb', (hb g rfl).trans hgg, rest⟩
theorem lt_heap {w : World} {b : Nat} {o : Obj} (h : w.heap[b]? = some o) : b < w.heap.size := (Array.getElem?_eq_some_iff.1 h).1
theorem set_heap {w : World} {b o : Nat} {cs : Array Value} {e : TypeId} {fz : Nat × Nat} (h : w.heap[b]? = some (.cells cs e fz)) (v : Value) : (w.setCell ⟨b, o, none⟩ v).heap[b]? = some (.cells (cs.setIfInBounds o v) e fz) := by
  simp [World.setCell, Array.getElem?_modify, h]
theorem set_size (w : World) (a : Addr) (v : Value) : (w.setCell a v).heap.size = w.heap.size := by simp [World.setCell]

section
variable {w : World} {lab : Nat → Nat} {id b : Nat} {D : Dk} {mk : List (Nat × Nat)} {L : Loc}

theorem DiskIn.c (h : DiskIn w lab id b D mk L) (i : Nat) : w.cell? ⟨b, i, none⟩ = (#[.map (some L.fm), L.pv, .map (some L.mm), .bool D.down, .int .i64 (D.lost : Int), .int .i64 (D.calls : Int), L.kv] : Array Value)[i]? := by
  rw [Lib.cell_of_heap h.blk]
theorem DiskIn.fz (h : DiskIn w lab id b D mk L) (i : Nat) : w.frozen? ⟨b, i, none⟩ = false := Lib.frozen_of_heap h.blk i
theorem DiskIn.fc (h : DiskIn w lab id b D mk L) {f : Nat} (hf : f < 16) (i : Nat) : w.cell? ⟨L.g f, i, none⟩ = (#[L.nv f, L.dv f] : Array Value)[i]? := by
  rw [Lib.cell_of_heap (h.file f hf)]
theorem DiskIn.ffz (h : DiskIn w lab id b D mk L) {f : Nat} (hf : f < 16) (i : Nat) : w.frozen? ⟨L.g f, i, none⟩ = false := Lib.frozen_of_heap (h.file f hf) i
theorem DiskIn.lookF (h : DiskIn w lab id b D mk L) {f : Int} (hi : I64 f) : (Instr.lookup 60 (.map (some L.fm)) (.int .i64 f) false).run Tryd.prog w = .ok (if 0 ≤ f ∧ f < 16 then .pointer (some ⟨L.g f.toNat, 0, none⟩) else .pointer none) w := by
  rw [h.files.look lawI Tryd.underlying60 (zeroP w) (keyI hi)]
  unfold fileMap
  simp only
  split <;> rfl
theorem DiskIn.blt (h : DiskIn w lab id b D mk L) : b < w.heap.size := lt_heap h.blk

/-- What is left as it was, where the blocks with two labels may change. -/
structure Kept (w w' : World) (lab lab' : Nat → Nat) (id c1 c2 : Nat) : Prop where
  os : w'.os = w.os
  tape : w'.tape = w.tape
  output : w'.output = w.output
  size : w.heap.size ≤ w'.heap.size
  labs : ∀ x, x < w.heap.size → lab' x = lab x
  block : ∀ x, x < w.heap.size → lab x ≠ c1 → lab x ≠ c2 → w'.heap[x]? = w.heap[x]?
  fresh : ∀ x, w.heap.size ≤ x → lab' x = 0 ∨ (id ≤ lab' x ∧ lab' x < id + 64 ∧ x < w'.heap.size)
theorem Kept.chg {w' : World} {lab' : Nat → Nat} {c1 c2 : Nat} (h : Kept w w' lab lab' id c1 c2) (h1 : id ≤ c1 ∧ c1 < id + 64) (h2 : id ≤ c2 ∧ c2 < id + 64) : Chg id lab lab' w w' :=
  ⟨h.os, h.tape, h.output, h.size, h.labs, fun x hx hl => h.block x hx (by omega) (by omega), fun x hx => (h.fresh x hx).imp_right fun q => ⟨q.1, q.2.1⟩⟩
theorem Kept.lo {w' : World} {lab' : Nat → Nat} {c1 c2 : Nat} (h : Kept w w' lab lab' id c1 c2) : LabOk lab' w' := fun x hx => by
  rcases h.fresh x (Nat.le_trans h.size hx) with q | q
  · exact q
  · omega

/-- A disk that has changed in the blocks with two labels: what is laid anew is what these blocks bear. -/
theorem DiskIn.turn {w' : World} {lab' : Nat → Nat} {c1 c2 : Nat} (h : DiskIn w lab id b D mk L) (k : Kept w w' lab lab' id c1 c2) {D' : Dk} {mk' : List (Nat × Nat)} {L' : Loc} (ok : D'.Ok)
    (hfm : L'.fm = L.fm) (hfc : L'.fc = L.fc) (hmm : L'.mm = L.mm) (hg : L'.g = L.g)
    (blk : (c1 ≠ id ∧ c2 ≠ id ∧ L'.pv = L.pv ∧ L'.kv = L.kv ∧ D'.down = D.down ∧ D'.lost = D.lost ∧ D'.calls = D.calls) ∨ w'.heap[b]? = some (.cells #[.map (some L'.fm), L'.pv, .map (some L'.mm), .bool D'.down, .int .i64 (D'.lost : Int), .int .i64 (D'.calls : Int), L'.kv] 64 (0, 0)))
    (hf : c1 ≠ id + 1 ∧ c2 ≠ id + 1)
    (marks : (c1 ≠ id + 2 ∧ c2 ≠ id + 2 ∧ mk' = mk) ∨ MapIs Tryd.prog w' 78 L'.mm mk'.length (markMap mk'))
    (pend : (c1 ≠ id + 3 ∧ c2 ≠ id + 3 ∧ L'.pv = L.pv ∧ D'.pend = D.pend) ∨ (w'.ownsRow 0 78 2 L'.pv D'.pend.length (secVs D'.pend) ∧ ∀ k, L'.pv.ownBlock = some k → lab' k = id + 3))
    (keep : (c1 ≠ id + 4 ∧ c2 ≠ id + 4 ∧ L'.kv = L.kv ∧ D'.keep = D.keep) ∨ (w'.ownsRow 0 3 1 L'.kv D'.keep.length (intVs D'.keep) ∧ ∀ k, L'.kv.ownBlock = some k → lab' k = id + 4))
    (file : ∀ f, f < 16 → (c1 ≠ id + 5 + f ∧ c2 ≠ id + 5 + f ∧ L'.nv f = L.nv f ∧ L'.dv f = L.dv f) ∨ w'.heap[L'.g f]? = some (.cells #[L'.nv f, L'.dv f] 67 (0, 0)))
    (now : ∀ f, f < 16 → (c1 ≠ id + 21 + f ∧ c2 ≠ id + 21 + f ∧ L'.nv f = L.nv f ∧ D'.now f = D.now f) ∨ (w'.ownsRow 0 5 1 (L'.nv f) (D'.now f).length (byteVs (D'.now f)) ∧ ∀ k, (L'.nv f).ownBlock = some k → lab' k = id + 21 + f))
    (dur : ∀ f, f < 16 → (c1 ≠ id + 37 + f ∧ c2 ≠ id + 37 + f ∧ L'.dv f = L.dv f ∧ D'.dur f = D.dur f) ∨ (w'.ownsRow 0 5 1 (L'.dv f) (D'.dur f).length (byteVs (D'.dur f)) ∧ ∀ k, (L'.dv f).ownBlock = some k → lab' k = id + 37 + f)) :
    DiskIn w' lab' id b D' mk' L' where
  ok := ok
  lo := k.lo
  id64 := h.id64
  blk := by
    rcases blk with ⟨h1, h2, e1, e2, e3, e4, e5⟩ | q
    · rw [k.block b h.blt (by rw [h.lb]; omega) (by rw [h.lb]; omega), h.blk, hfm, hmm, e1, e2, e3, e4, e5]
    · exact q
  fcl := by rw [hfc]; exact h.fcl
  files := by
    rw [hfm, hg, hfc]
    exact h.files.block (k.block _ h.files.lt (by rw [h.lf]; omega) (by rw [h.lf]; omega))
  marks := by
    rcases marks with ⟨h1, h2, e1⟩ | q
    · rw [hmm, e1]; exact h.marks.block (k.block _ h.marks.lt (by rw [h.lm]; omega) (by rw [h.lm]; omega))
    · exact q
  pend := by
    rcases pend with ⟨h1, h2, e1, e2⟩ | q
    · rw [e1, e2]; exact ownsRow_block h.pend fun g hg => k.block g (h.pend.lt g hg).2 (by rw [h.lp g hg]; omega) (by rw [h.lp g hg]; omega)
    · exact q.1
  keep := by
    rcases keep with ⟨h1, h2, e1, e2⟩ | q
    · rw [e1, e2]; exact ownsRow_block h.keep fun g hg => k.block g (h.keep.lt g hg).2 (by rw [h.lk g hg]; omega) (by rw [h.lk g hg]; omega)
    · exact q.1
  file f hf := by
    rcases file f hf with ⟨h1, h2, e1, e2⟩ | q
    · rw [hg, e1, e2, k.block _ (lt_heap (h.file f hf)) (by rw [h.lg f hf]; omega) (by rw [h.lg f hf]; omega)]; exact h.file f hf
    · exact q
  now f hf := by
    rcases now f hf with ⟨h1, h2, e1, e2⟩ | q
    · rw [e1, e2]; exact ownsRow_block (h.now f hf) fun g hg => k.block g ((h.now f hf).lt g hg).2 (by rw [h.ln f hf g hg]; omega) (by rw [h.ln f hf g hg]; omega)
    · exact q.1
  dur f hf := by
    rcases dur f hf with ⟨h1, h2, e1, e2⟩ | q
    · rw [e1, e2]; exact ownsRow_block (h.dur f hf) fun g hg => k.block g ((h.dur f hf).lt g hg).2 (by rw [h.ld f hf g hg]; omega) (by rw [h.ld f hf g hg]; omega)
    · exact q.1
  lb := by rw [k.labs b h.blt]; exact h.lb
  lf := by rw [hfm, k.labs _ h.files.lt]; exact h.lf
  lm := by rw [hmm, k.labs _ h.marks.lt]; exact h.lm
  lp g hg := by
    rcases pend with ⟨_, _, e1, _⟩ | q
    · rw [e1] at hg; rw [k.labs g (h.pend.lt g hg).2]; exact h.lp g hg
    · exact q.2 g hg
  lk g hg := by
    rcases keep with ⟨_, _, e1, _⟩ | q
    · rw [e1] at hg; rw [k.labs g (h.keep.lt g hg).2]; exact h.lk g hg
    · exact q.2 g hg
  lg f hf := by rw [hg, k.labs _ (lt_heap (h.file f hf))]; exact h.lg f hf
  ln f hf g hg := by
    rcases now f hf with ⟨_, _, e1, _⟩ | q
    · rw [e1] at hg; rw [k.labs g ((h.now f hf).lt g hg).2]; exact h.ln f hf g hg
    · exact q.2 g hg
  ld f hf g hg := by
    rcases dur f hf with ⟨_, _, e1, _⟩ | q
    · rw [e1] at hg; rw [k.labs g ((h.dur f hf).lt g hg).2]; exact h.ld f hf g hg
    · exact q.2 g hg

/-- Another disk's call, or what touches none of this disk's blocks. -/
theorem DiskIn.kept {w' : World} {lab' : Nat → Nat} (h : DiskIn w lab id b D mk L) (lo : LabOk lab' w') (hl : ∀ x, x < w.heap.size → lab' x = lab x) (hb : ∀ x, x < w.heap.size → id ≤ lab x → lab x < id + 64 → w'.heap[x]? = w.heap[x]?) : DiskIn w' lab' id b D mk L where
  ok := h.ok
  lo := lo
  id64 := h.id64
  blk := by rw [hb b h.blt (by rw [h.lb]; omega) (by rw [h.lb]; omega)]; exact h.blk
  fcl := h.fcl
  files := h.files.block (hb _ h.files.lt (by rw [h.lf]; omega) (by rw [h.lf]; omega))
  marks := h.marks.block (hb _ h.marks.lt (by rw [h.lm]; omega) (by rw [h.lm]; omega))
  pend := ownsRow_block h.pend fun g hg => hb g (h.pend.lt g hg).2 (by rw [h.lp g hg]; omega) (by rw [h.lp g hg]; omega)
  keep := ownsRow_block h.keep fun g hg => hb g (h.keep.lt g hg).2 (by rw [h.lk g hg]; omega) (by rw [h.lk g hg]; omega)
  file f hf := by rw [hb _ (lt_heap (h.file f hf)) (by rw [h.lg f hf]; omega) (by rw [h.lg f hf]; omega)]; exact h.file f hf
  now f hf := ownsRow_block (h.now f hf) fun g hg => hb g ((h.now f hf).lt g hg).2 (by rw [h.ln f hf g hg]; omega) (by rw [h.ln f hf g hg]; omega)
  dur f hf := ownsRow_block (h.dur f hf) fun g hg => hb g ((h.dur f hf).lt g hg).2 (by rw [h.ld f hf g hg]; omega) (by rw [h.ld f hf g hg]; omega)
  lb := by rw [hl b h.blt]; exact h.lb
  lf := by rw [hl _ h.files.lt]; exact h.lf
  lm := by rw [hl _ h.marks.lt]; exact h.lm
  lp g hg := by rw [hl g (h.pend.lt g hg).2]; exact h.lp g hg
  lk g hg := by rw [hl g (h.keep.lt g hg).2]; exact h.lk g hg
  lg f hf := by rw [hl _ (lt_heap (h.file f hf))]; exact h.lg f hf
  ln f hf g hg := by rw [hl g ((h.now f hf).lt g hg).2]; exact h.ln f hf g hg
  ld f hf g hg := by rw [hl g ((h.dur f hf).lt g hg).2]; exact h.ld f hf g hg
theorem DiskIn.fresh {w' : World} (h : DiskIn w lab id b D mk L) (hb : Below w.heap.size w w') : DiskIn w' lab id b D mk L :=
  h.kept (fun x hx => h.lo x (Nat.le_trans hb.size hx)) (fun _ _ => rfl) fun x hx _ _ => hb.block x hx
theorem DiskIn.other {w' : World} {lab' : Nat → Nat} {id' : Nat} (h : DiskIn w lab id b D mk L) (k : Chg id' lab lab' w w') (lo : LabOk lab' w') (hne : id' + 64 ≤ id ∨ id + 64 ≤ id') : DiskIn w' lab' id b D mk L :=
  h.kept lo k.labs fun x hx h1 h2 => k.block x hx (by omega)

/-- The labels behind a slice's growing. -/
def relab (lab : Nat → Nat) (w : World) (v : Value) (c : Nat) (x : Nat) : Nat := if x < w.heap.size then lab x else if v.ownBlock = some x then c else 0
end
end Go.Proofs.YtjbcgahdiolhhaaDoor.D2
