/- Several texts in one: DDSpec, DMaps, DHeap, DPut, DClone, DHard, DLift, DMeth, DStep, DCrash, DStrike, DSettle, DSettleW. -/
import Derived.Test.YtjbcgahdiolhhaaGreatDoorChecked
import Derived.Maps.OwnSet
import Derived.Maps.OwnOps
import Derived.Maps.RangeWalk
import Derived.Maps.Ext
import Derived.Lib.Hide
import Derived.WalkKit
import Derived.Lib.AppendStr
import Derived.Lib.AppendZeros
import Derived.Lib.AppendZerosOnto
import Derived.Lib.Builder
import Derived.Lib.Strings
import Derived.Laws.CopyOwn
import Derived.Maps.AppendAt
import Derived.WalkSpells
import Derived.WalkSmall
import Derived.Deep.QuietTactic
import Derived.BigQuiet
import Derived.Deep.DeepFit
import Derived.DeepKeys4
import Derived.Outline
import Derived.Lib.AtoiErrMem
import Derived.Lib.ItoaMem
import Derived.Shelf.SlMaps.Clone
import Derived.Lib.SliceRun
import Derived.Deep.RegionHeld3
import Derived.Deep.DrawnRows
import Derived.Lib.MinMax
import Derived.IntWalk
import Derived.Test.YtjbcgahdiolhhaaGreatDoorMA
import Derived.Laws.IdiomStrings
import Derived.Lib.BufferRead
import Derived.Deep.RegionLaw
import Derived.Deep.Upon
import Derived.LoopTactic
namespace Go.Proofs.YtjbcgahdiolhhaaGreatDoor.D2
namespace Dp

/-- The errors that the disk returns. -/
def eOK : Int := 0
def eArg : Int := 1
def eFull : Int := 6
def eDown : Int := 8
def eLost : Int := 9

/-- A disk. -/
structure Dk where
  now : Nat → List UInt8
  dur : Nat → List UInt8
  pend : List (Nat × Nat)
  down : Bool
  lost : Nat
  calls : Nat
  keep : List Int

/-- Bytes, at least one, put into others at an offset. -/
def putL (s : List UInt8) (at_ : Nat) (t : List UInt8) : List UInt8 :=
  let s' := s ++ List.replicate (at_ + t.length - s.length) 0
  s'.take at_ ++ t ++ s'.drop (at_ + t.length)

def upd {α : Type} (g : Nat → α) (f : Nat) (x : α) : Nat → α := fun i => if i = f then x else g i
theorem upd_same {α : Type} (g : Nat → α) (f : Nat) (x : α) : upd g f x f = x := by simp [upd]
theorem upd_other {α : Type} (g : Nat → α) {f i : Nat} (x : α) (h : i ≠ f) : upd g f x i = g i := by simp [upd, h]

/-- The bytes of a sector. -/
def sec (s : List UInt8) (n : Nat) : List UInt8 := (s.drop (64 * n)).take 64

def new : Dk := { now := fun _ => [], dur := fun _ => [], pend := [], down := false, lost := 0, calls := 0, keep := [] }

def Dk.harden (D : Dk) (p : Nat × Nat) : Dk := { D with dur := upd D.dur p.1 (putL (D.dur p.1) (64 * p.2) (sec (D.now p.1) p.2)) }
def hardens (D : Dk) (ps : List (Nat × Nat)) : Dk := ps.foldl Dk.harden D

def Dk.settle (D : Dk) (f : Nat) : Dk := { hardens D (D.pend.filter (fun p => p.1 = f)) with pend := D.pend.filter (fun p => p.1 ≠ f) }

/-- Does the pending sector with this index survive? -/
def odd (keep : List Int) (i : Nat) : Bool := decide (0 < keep.length) && decide ((keep.getD (i % keep.length) 0).tmod 2 ≠ 0)
/-- What of the pending sectors from an index on survives. -/
def survive (keep : List Int) : Nat → List (Nat × Nat) → List (Nat × Nat)
  | _, [] => []
  | i, p :: ps => (if odd keep i then [p] else []) ++ survive keep (i + 1) ps

def Dk.crash (D : Dk) (keep : List Int) : Dk :=
  if D.down then D else
  let D1 := hardens D (survive keep 0 D.pend)
  { D1 with now := fun f => if f < 16 then D1.dur f else D1.now f, pend := [], calls := 0, keep := [], down := true }

/-- A call is counted: has the machine gone down? -/
def Dk.strike (D : Dk) : Bool × Dk :=
  if D.calls = 0 then (false, D)
  else if D.calls = 1 then (true, ({ D with calls := 0 } : Dk).crash D.keep)
  else (false, { D with calls := D.calls - 1 })

def addSec (ps : List (Nat × Nat)) (p : Nat × Nat) : List (Nat × Nat) := if p ∈ ps then ps else ps ++ [p]
/-- The sectors of a file from one number on, so many. -/
def secs (f n : Nat) : Nat → List (Nat × Nat)
  | 0 => []
  | k + 1 => (f, n) :: secs f (n + 1) k
def addSecs (ps : List (Nat × Nat)) (f n k : Nat) : List (Nat × Nat) := (secs f n k).foldl addSec ps

def isFile (f : Int) : Bool := decide (0 ≤ f ∧ f < 16)

def Dk.put (D : Dk) (f at_ : Nat) (s : List UInt8) : Dk :=
  { D with now := upd D.now f (putL (D.now f) at_ s), pend := addSecs D.pend f (at_ / 64) ((at_ + s.length - 1) / 64 + 1 - at_ / 64) }

/-- A write of a machine that is up. -/
def Dk.wr (D : Dk) (f a : Int) (s : List UInt8) : Int × Dk :=
  if isFile f = false ∨ a < 0 then (eArg, D)
  else if 16777216 - (s.length : Int) < a then (eFull, D)
  else if s = [] then (eOK, D)
  else (eOK, D.put f.toNat a.toNat s)

def Dk.write (D : Dk) (f a : Int) (s : List UInt8) : Int × Dk :=
  if D.down then (eDown, D) else
  let r := D.wr f a s
  if r.2.strike.1 then (eDown, r.2.strike.2) else (r.1, r.2.strike.2)

def Dk.sync (D : Dk) (f : Int) : Int × Dk :=
  if D.down then (eDown, D) else
  let r := D.strike
  if r.1 then (eDown, r.2)
  else if isFile f = false then (eArg, r.2)
  else if 0 < r.2.lost then (eLost, { r.2 with lost := r.2.lost - 1 })
  else (eOK, r.2.settle f.toNat)

def Dk.size (D : Dk) (f : Int) : Nat := if isFile f then (D.now f.toNat).length else 0

def Dk.trunc (D : Dk) (f : Int) (n : Nat) : Dk :=
  let r := D.settle f.toNat
  { r with now := upd r.now f.toNat ((r.now f.toNat).take n), dur := upd r.dur f.toNat ((r.dur f.toNat).take n) }

def Dk.truncate (D : Dk) (f n : Int) : Int × Dk :=
  if D.down then (eDown, D) else
  let r := D.strike
  if r.1 then (eDown, r.2)
  else if isFile f = false ∨ n < 0 ∨ (r.2.size f : Int) < n then (eArg, r.2)
  else (eOK, r.2.trunc f n.toNat)

def Dk.read (D : Dk) (f a n : Int) : List UInt8 × Int :=
  if D.down then ([], eDown)
  else if isFile f = false ∨ a < 0 ∨ n < 0 then ([], eArg)
  else (((D.now f.toNat).drop a.toNat).take n.toNat, eOK)

def Dk.arm (D : Dk) (n : Int) (keep : List Int) : Dk := { D with calls := n.toNat, keep := keep }
def Dk.lose (D : Dk) (n : Int) : Dk := { D with lost := n.toNat }
def Dk.start (D : Dk) : Dk := { D with down := false }

def I64 (x : Int) : Prop := -9223372036854775808 ≤ x ∧ x ≤ 9223372036854775807

/-- What every disk meets, also in the middle of a call. -/
structure Dk.Ok (D : Dk) : Prop where
  now : ∀ f, (D.now f).length ≤ 16777216
  dur : ∀ f, (D.dur f).length ≤ 16777216
  pend : D.pend.Nodup
  few : ∀ p ∈ D.pend, p.1 < 16 ∧ p.2 < 262144
  lost : (D.lost : Int) ≤ 9223372036854775807
  calls : (D.calls : Int) ≤ 9223372036854775807
  keep : ∀ z ∈ D.keep, I64 z
  size : (D.keep.length : Int) ≤ 140737488355327

/-- What is pending lies in its file. -/
def Dk.In (D : Dk) : Prop := ∀ p ∈ D.pend, 64 * p.2 < (D.now p.1).length

theorem putL_length (s : List UInt8) (a : Nat) (t : List UInt8) : (putL s a t).length = max s.length (a + t.length) := by
  simp only [putL, List.length_append, List.length_take, List.length_drop, List.length_replicate]; omega
end Dp
end Go.Proofs.YtjbcgahdiolhhaaGreatDoor.D2
namespace Go.Proofs.YtjbcgahdiolhhaaGreatDoor.D2
open Go.RowKit Go.Maps Go.ChangeMaps Go.MapKept

/-- Every value reads as itself. -/
def rawE (v : Value) : Option (DataW Value × List MemPlace) := some (.held v, [])

/-- Block b is a map of c entries: m says what lies at each key. -/
def MapIs (P : Program) (w : World) (k : TypeId) (b c : Nat) (m : Lit → Option Value) : Prop :=
  ∃ D : DataW Value, w.ownsMap P k rawE b c D ∧ Maps.size D = c ∧ (∀ kl z, D.atKey kl (.held z) = .held ((m kl).getD z)) ∧ ∀ kl, Maps.has D kl = (m kl).isSome

section
variable {P : Program} {w : World} {k : TypeId} {b c : Nat} {m : Lit → Option Value}

theorem owns_tight {R : Value → Option (DataW Value × List MemPlace)} {D : DataW Value} {n c : Nat} (h : w.ownsMap P k R b n D) (hc : Maps.size D = c) : w.ownsMap P k R b c D := by
  obtain ⟨es, clock, hb, F, _, rfl⟩ := h
  refine ⟨es, clock, hb, F, ?_, rfl⟩
  have : Maps.size (DataW.map ((es.toList.map (Go.WideElems.rg P k R)).foldr DataW.insert [])) = es.size := by simp [Maps.size, length_sorted]
  omega

theorem MapIs.lt (h : MapIs P w k b c m) : b < w.heap.size := by obtain ⟨D, h, _⟩ := h; exact h.lt
theorem MapIs.kept {w' : World} {row : Option Nat} (h : MapIs P w k b c m) (hg : w.grownBy w' row) (hne : some b ≠ row) : MapIs P w' k b c m := by
  obtain ⟨D, h, r⟩ := h; exact ⟨D, h.kept hg hne, r⟩
theorem MapIs.block {w' : World} (h : MapIs P w k b c m) (hb : w'.heap[b]? = w.heap[b]?) : MapIs P w' k b c m := by
  obtain ⟨D, ⟨es, clock, h1, h2⟩, r⟩ := h; exact ⟨D, ⟨es, clock, hb.trans h1, h2⟩, r⟩
theorem MapIs.congr {m' : Lit → Option Value} {c' : Nat} (h : MapIs P w k b c m) (hm : ∀ kl, m' kl = m kl) (hc : c' = c) : MapIs P w k b c' m' := by
  have : m' = m := funext hm
  rw [this, hc]; exact h
theorem mapIs_made (w : World) : MapIs P (w.alloc (.map #[] 0)) k w.heap.size 0 (fun _ => none) :=
  ⟨.map [], World.ownsMap_made w P k rawE, rfl, fun _ _ => by simp [DataW.atKey], fun _ => rfl⟩

theorem MapIs.look {t e : TypeId} (h : MapIs P w k b c m) (K : Keyed P k) (ht : P.underlying t = some (.map k e)) {z : Value} (hz : (zeroValue e).run P w = .ok z w)
    {key : Value} {kl : Lit} (hkey : keyOf P k key = some kl) : (Instr.lookup t (.map (some b)) key false).run P w = .ok ((m kl).getD z) w := by
  obtain ⟨D, h, _, ha, _⟩ := h
  obtain ⟨v, ps, hr, hv⟩ := h.lookup K ht hz (zd := .held z) (zp := []) rfl hkey
  rw [ha] at hv
  simp only [rawE, Option.some.injEq, Prod.mk.injEq, DataW.held.injEq] at hv
  rw [hr, hv.1]

open Classical in
theorem MapIs.store {t e : TypeId} (h : MapIs P w k b c m) (K : Keyed P k) (ht : P.underlying t = some (.map k e)) (hn : c < maxLen) {key val : Value} {kl : Lit}
    (hkey : keyOf P k key = some kl) (hnew : m kl = none) :
    ∃ w', (Instr.mapUpdate t (.map (some b)) key val).run P w = .ok () w' ∧ MapIs P w' k b (c + 1) (fun x => if x = kl then some val else m x) ∧ w.grownBy w' (some b) := by
  obtain ⟨D, h, hc, ha, hh⟩ := h
  obtain ⟨w', hr, h', hg⟩ := h.update K ht hn hkey (val := val) (d := .held val) (ps := []) rfl
  refine ⟨w', hr, ⟨D.put kl (.held val), h', ?_, fun x z => ?_, fun x => ?_⟩, hg⟩
  · rw [Maps.size_put (h.tidy K), hh, hnew]; simpa using hc
  · by_cases hx : x = kl
    · subst hx; rw [Maps.atKey_put_same h.isMap (K.key hkey)]; simp
    · rw [Maps.atKey_put_other hx, ha]; simp [hx]
  · by_cases hx : x = kl
    · subst hx; rw [Maps.has_put_same h.isMap (K.key hkey)]; simp
    · rw [Maps.has_put_other hx, hh]; simp [hx]

open Classical in
theorem MapIs.drop {t e : TypeId} (h : MapIs P w k b c m) (K : Keyed P k) (ht : P.underlying t = some (.map k e)) {key v : Value} {kl : Lit} (hkey : keyOf P k key = some kl) (hold : m kl = some v) (ty : TypeId) :
    ∃ w', (Builtin.delete_ #[t, k] ty #[.map (some b), key]).run P w = .ok (.tuple #[]) w' ∧ MapIs P w' k b (c - 1) (fun x => if x = kl then none else m x) ∧ w.grownBy w' (some b) := by
  obtain ⟨D, h, hc, ha, hh⟩ := h
  obtain ⟨w', hr, h', ht'⟩ := h.drop K ht hkey ty
  have hsz := Maps.size_del (k := kl) (h.tidy K)
  rw [hh, hold, hc] at hsz
  simp only [Option.isSome_some, if_true] at hsz
  have hs1 : Maps.size (D.del kl) = c - 1 := by omega
  refine ⟨w', hr, ⟨D.del kl, owns_tight h' hs1, hs1, fun x z => ?_, fun x => ?_⟩, ht'.grown⟩
  · by_cases hx : x = kl
    · subst hx; rw [Maps.atKey_del_same]; simp
    · rw [Maps.atKey_del_other hx, ha]; simp [hx]
  · by_cases hx : x = kl
    · subst hx; rw [Maps.has_del_same]; simp
    · rw [Maps.has_del_other hx, hh]; simp [hx]

theorem MapIs.wipe {t e : TypeId} (h : MapIs P w k b c m) (ht : P.underlying t = some (.map k e)) :
    ∃ w', (∀ ty, (Builtin.clear_ #[t] ty #[.map (some b)]).run P w = .ok (.tuple #[]) w') ∧ MapIs P w' k b 0 (fun _ => none) ∧ w.grownBy w' (some b) := by
  obtain ⟨D, ⟨es, clock, hb, F, _, _⟩, _⟩ := h
  refine ⟨setBlock w b (.map #[] clock), fun ty => ?_, ⟨.map [], ⟨#[], clock, heap_setBlock_same hb _, ⟨by simp, stamped_empty clock, by simp⟩, Nat.le_refl _, rfl⟩, rfl, fun _ _ => by simp [DataW.atKey], fun _ => rfl⟩, ⟨rfl, rfl, rfl, by simp [setBlock], fun i _ hi => heap_setBlock_other hb _ (fun e => hi (by rw [e]))⟩⟩
  simp [Builtin.clear_, run_underlying ht, MapKept.run_getObj_map hb, MapKept.run_setObj_map _ hb, Result.andThen, go_sem, setBlock]

theorem MapIs.copy (h : MapIs P w k b c m) {es : Array MapEntry} {clock : Nat} (hb : w.heap[b]? = some (.map es clock)) : MapIs P (w.alloc (.map es clock)) k w.heap.size c m := by
  obtain ⟨D, ⟨es', clock', hb', F, hs, hD⟩, r⟩ := h
  obtain ⟨rfl, rfl⟩ : es' = es ∧ clock' = clock := by rw [hb] at hb'; cases hb'; exact ⟨rfl, rfl⟩
  exact ⟨D, ⟨es', clock', (MapKept.heap_alloc w _).1, F, hs, hD⟩, r⟩

/-- A range over the map under way. -/
def RangeIs (P : Program) (w : World) (k : TypeId) (b r c : Nat) (m : Lit → Option Value) (left : Lit → Bool) (cnt : Nat) : Prop :=
  ∃ D : DataW Value, w.ranges P k rawE b r c D left cnt ∧ Maps.size D = c ∧ (∀ kl z, D.atKey kl (.held z) = .held ((m kl).getD z)) ∧ ∀ kl, Maps.has D kl = (m kl).isSome

theorem RangeIs.map {r cnt : Nat} {left : Lit → Bool} (h : RangeIs P w k b r c m left cnt) : MapIs P w k b c m := by
  obtain ⟨D, h, r⟩ := h; exact ⟨D, h.owns, r⟩
theorem RangeIs.kept {r cnt : Nat} {left : Lit → Bool} {w' : World} (h : RangeIs P w k b r c m left cnt) (hb : w'.heap[b]? = w.heap[b]?) (hr : w'.heap[r]? = w.heap[r]?) : RangeIs P w' k b r c m left cnt := by
  obtain ⟨D, ⟨es, clock, since, seen, c0, h1, h2, h3, h4, h5, h6⟩, q⟩ := h
  exact ⟨D, ⟨es, clock, since, seen, c0, hb.trans h1, h2, h3, h4, hr.trans h5, h6⟩, q⟩
theorem RangeIs.left_eq {r cnt : Nat} {left : Lit → Bool} (h : RangeIs P w k b r c m left cnt) : w.rangeLeft b r = cnt := by
  obtain ⟨D, h, _⟩ := h; exact h.left_eq
theorem RangeIs.lt {r cnt : Nat} {left : Lit → Bool} (h : RangeIs P w k b r c m left cnt) : r < w.heap.size := by
  obtain ⟨D, h, _⟩ := h; exact h.lt

variable {ops : Array Oper} {rest : List Oper} {o : Oper} {a : Act} {Q : Exit → Act → World → Prop}

theorem wpList_look_is (hg : o.guard = none) (mo x : Operand) (t : TypeId) (hop : o.op = Op.lookup t mo x false) (e : TypeId) (K : Keyed P k) (ht : P.underlying t = some (.map k e)) (z : Value) (hz : (zeroValue e).run P w = .ok z w)
    (hm : a.eval mo = .map (some b)) (h : MapIs P w k b c m) (key : Value) (kl : Lit) (hx : a.eval x = key) (hkey : keyOf P k key = some kl)
    (hK : wpList P ops Q rest (a.put o.dst ((m kl).getD z)) w) : wpList P ops Q (o :: rest) a w := by
  refine wpList_plain hg fun K' hK' => ?_
  unfold Oper.wp
  simp [execOp, hop, hm, hx, h.look K ht hz hkey, Result.andThen]
  exact hK' _ _ hK

theorem wpList_range_is (hg : o.guard = none) (mo : Operand) (t : TypeId) (hop : o.op = Op.range t mo) (e : TypeId) (K : Keyed P k) (ht : P.underlying t = some (.map k e))
    (hm : a.eval mo = .map (some b)) (h : MapIs P w k b c m)
    (hK : ∀ w', RangeIs P w' k b w.heap.size c m (fun kl => (m kl).isSome) c → w.grownBy w' none → w'.heap.size = w.heap.size + 1 → wpList P ops Q rest (a.put o.dst (.pointer (some ⟨w.heap.size, 0, none⟩))) w') :
    wpList P ops Q (o :: rest) a w := by
  obtain ⟨D, h1, h2, h3, h4⟩ := h
  refine wpList_range_own w hg mo t hop k e K ht rawE b c D hm h1 fun w' hr hg' hs => hK w' ⟨D, ?_, h2, h3, h4⟩ hg' hs
  have e1 : Maps.has D = fun kl => (m kl).isSome := funext h4
  rw [← e1]
  rw [h2] at hr
  exact hr

theorem wpList_next_is {α β : Type} (hg : o.guard = none) (it : Operand) (hop : o.op = Op.next it false) (K : Keyed P k) (mkK : α → Value) (mkV : β → Value)
    (invK : ∀ key kl, keyOf P k key = some kl → ∃ x, key = mkK x) (r cnt : Nat) (left : Lit → Bool)
    (hit : a.eval it = .pointer (some ⟨r, 0, none⟩)) (h : RangeIs P w k b r c m left cnt) (invV : ∀ kl v, m kl = some v → left kl = true → ∃ y, v = mkV y) (hlm : ∀ kl, left kl = true → (m kl).isSome = true)
    (hDone : cnt = 0 → (∀ kl, left kl = false) → wpList P ops Q rest (a.put o.dst (.tuple #[.bool false])) w)
    (hMore : ∀ (x : α) (y : β) (kl : Lit) (w' : World) (cnt' : Nat), keyOf P k (mkK x) = some kl → left kl = true → m kl = some (mkV y) → RangeIs P w' k b r c m (fun z => left z && !z.sameKey kl) cnt' → cnt' < cnt →
      w.grownBy w' (some r) → w'.heap.size = w.heap.size → (Instr.entry (.pointer (some ⟨r, 0, none⟩))).run P w' = .ok (.tuple #[mkK x, mkV y]) w' → wpList P ops Q rest (a.put o.dst (.tuple #[.bool true, mkK x, mkV y])) w') :
    wpList P ops Q (o :: rest) a w := by
  obtain ⟨D, h, q1, q2, q3⟩ := h
  refine wpList_plain hg fun K' hK' => ?_
  unfold Oper.wp
  rcases h.next K o.type with ⟨h0, hl, hrun⟩ | ⟨key, v, kl, y, w', cnt', hkey, hlk, hv, hat, hrun, hrg, hlt, hgr, hsz, hen⟩
  · simp [execOp, hop, hit, hrun, Result.andThen]
    exact hK' _ _ (hDone h0 hl)
  · obtain ⟨x, rfl⟩ := invK key kl hkey
    have hmk : m kl = some v := by
      have h1 := hat (.held (.bool true))
      rw [q2] at h1
      have h2 := hlm kl hlk
      obtain ⟨u, hu⟩ := Option.isSome_iff_exists.1 h2
      rw [hu] at h1
      simp only [Option.getD_some] at h1
      simp only [rawE, Option.some.injEq] at hv
      rw [← hv] at h1
      simp only [DataW.held.injEq] at h1
      rw [hu, h1]
    obtain ⟨y, rfl⟩ := invV kl v hmk hlk
    simp [execOp, hop, hit, hrun, Result.andThen]
    exact hK' _ _ (hMore x y kl w' cnt' hkey hlk hmk ⟨D, hrg, q1, q2, q3⟩ hlt hgr hsz hen)
end
end Go.Proofs.YtjbcgahdiolhhaaGreatDoor.D2
namespace Go.Proofs.YtjbcgahdiolhhaaGreatDoor.D2
open Go.RowKit Go.Maps Go.ChangeMaps Go.MapKept
open Dp

/-! ### Keys -/
theorem lawI : Keyed Tryz.prog 3 := int_keyed Tryz.underlying3
theorem laidOut : laidOutB Tryz.prog = true := by kernel_rfl
theorem rowS : (81 : TypeId) < Tryz.prog.types.size := of_decide_eq_true (by kernel_rfl)
theorem cellsS : Tryz.prog.cellsOf 81 = 2 := by kernel_rfl
theorem cellsI : Tryz.prog.cellsOf 3 = 1 := by kernel_rfl
set_option maxRecDepth 100000 in
theorem wideS : (match Tryz.prog.underlying 81 with | some (.array _ _) | some (.struct _) => true | _ => false) = true := by rw [Tryz.underlying81]
set_option maxRecDepth 100000 in
theorem lawS : Keyed Tryz.prog 81 := Keyed.of_law (deep_law_laid laidOut (m := 2) (by omega) rowS (by kernel_rfl) wideS)

def secV (p : Nat × Nat) : Value := .agg #[.int .i64 (p.1 : Int), .int .i64 (p.2 : Int)]
def secLit (p : Nat × Nat) : Lit := .string (keyBytes [.int .i64 (p.1 : Int), .int .i64 (p.2 : Int)])
theorem i64wf {x : Int} (h : I64 x) : (Lit.int .i64 x).wf = true := by
  obtain ⟨h1, h2⟩ := h
  simp [Lit.wf, IntKind.min, IntKind.max, IntKind.signed, IntKind.bits]; omega
theorem keyI {x : Int} (h : I64 x) : keyOf Tryz.prog 3 (.int .i64 x) = some (.int .i64 x) := keyOf_int_mk Tryz.underlying3 (i64wf h)
theorem keyTypeS : Tryz.prog.keyType 81 = true := by kernel_rfl
theorem sizesN : ∃ n, Tryz.prog.types.size = n + 1 := by
  have h : 1 ≤ Tryz.prog.types.size := of_decide_eq_true (by kernel_rfl)
  exact ⟨Tryz.prog.types.size - 1, by omega⟩
theorem key_two {P : Program} {k t : TypeId} {n : Nat} {fs : Array Field} {f0 f1 : Field} (hu : P.underlying k = some (.struct fs)) (hfs : fs = #[f0, f1]) (hk : P.keyType k = true) (hc : P.cellsOf k = 2) (hn : P.types.size = n + 1) (ht : P.underlying t = some (.int .i64)) (hct : P.cellsOf t = 1)
    (h0 : f0.type = t ∧ f0.offset = 0 ∧ f0.name ≠ "_") (h1 : f1.type = t ∧ f1.offset = 1 ∧ f1.name ≠ "_") {x y : Int} (hx : (Lit.int .i64 x).wf = true) (hy : (Lit.int .i64 y).wf = true) :
    keyOf P k (.agg #[.int .i64 x, .int .i64 y]) = some (.string (keyBytes [.int .i64 x, .int .i64 y])) := by
  obtain ⟨a1, a2, a3⟩ := h0
  obtain ⟨b1, b2, b3⟩ := h1
  subst hfs
  simp [keyOf, hu, hk, Value.formed, hc, Value.cells, hn, Program.keyLits, ht, hct, hx, hy, a1, a2, a3, b1, b2, b3]
set_option maxRecDepth 100000 in
theorem keyS {p : Nat × Nat} (h1 : p.1 < 9223372036854775807) (h2 : p.2 < 9223372036854775807) : keyOf Tryz.prog 81 (secV p) = some (secLit p) := by
  have e1 := i64wf (x := (p.1 : Int)) ⟨by omega, by omega⟩
  have e2 := i64wf (x := (p.2 : Int)) ⟨by omega, by omega⟩
  obtain ⟨n, hn⟩ := sizesN
  exact key_two Tryz.underlying81 rfl keyTypeS cellsS hn Tryz.underlying3 cellsI ⟨rfl, rfl, by decide⟩ ⟨rfl, rfl, by decide⟩ e1 e2
theorem secLit_inj {p q : Nat × Nat} (h1 : p.1 < 9223372036854775807) (h2 : p.2 < 9223372036854775807) (h3 : q.1 < 9223372036854775807) (h4 : q.2 < 9223372036854775807) (h : secLit p = secLit q) : p = q := by
  have e1 := keyS h1 h2
  have e2 := keyS h3 h4
  rw [h] at e1
  have := lawS.inj e1 e2
  simp only [secV, Value.agg.injEq, Array.mk.injEq, List.cons.injEq, Value.int.injEq, true_and, and_true] at this
  obtain ⟨a, b⟩ := this
  exact Prod.ext (by omega) (by omega)
theorem zeroP (w : World) : (zeroValue 61).run Tryz.prog w = .ok (.pointer none) w := by kernel_rfl
theorem zeroB (w : World) : (zeroValue 4).run Tryz.prog w = .ok (.bool false) w := by kernel_rfl
theorem byte_info : (Tryz.prog.info? 5).map (fun i => (i.zero, i.size, i.bytes)) = some (some (.int .u8 0), 1, 1) := by kernel_rfl
theorem int_info : (Tryz.prog.info? 3).map (fun i => (i.zero, i.size, i.bytes)) = some (some (.int .i64 0), 1, 8) := by kernel_rfl
theorem sec_info : (Tryz.prog.info? 81).map (fun i => (i.zero, i.size, i.bytes)) = some (some (.agg #[.int .i64 0, .int .i64 0]), 2, 16) := by kernel_rfl

/-! ### What lies in memory -/
def byteVs (l : List UInt8) : List Value := l.map fun b => .int .u8 (b.toNat : Int)
def secVs (ps : List (Nat × Nat)) : List Value := ps.flatMap fun p => [.int .i64 (p.1 : Int), .int .i64 (p.2 : Int)]
def intVs (l : List Int) : List Value := l.map (.int .i64)
theorem byteVs_length (l : List UInt8) : (byteVs l).length = l.length := by simp [byteVs]
theorem intVs_length (l : List Int) : (intVs l).length = l.length := by simp [intVs]
theorem secVs_length (l : List (Nat × Nat)) : (secVs l).length = l.length * 2 := by
  induction l with
  | nil => rfl
  | cons a l ih => simp [secVs] at ih ⊢; omega

def fileMap (g : Nat → Nat) : Lit → Option Value
  | .int .i64 f => if 0 ≤ f ∧ f < 16 then some (.pointer (some ⟨g f.toNat, 0, none⟩)) else none
  | _ => none
open Classical in
noncomputable def markMap (ps : List (Nat × Nat)) (kl : Lit) : Option Value := if ∃ p ∈ ps, secLit p = kl then some (.bool true) else none

/-- Where the parts of a disk lie. -/
structure Loc where
  fm : Nat
  fc : Nat
  mm : Nat
  g : Nat → Nat
  pv : Value
  kv : Value
  nv : Nat → Value
  dv : Nat → Value

def LabOk (lab : Nat → Nat) (w : World) : Prop := ∀ x, w.heap.size ≤ x → lab x = 0

/-- The disk D lies in block b; its blocks are those with labels from id on; mk: the marked sectors. -/
structure DiskIn (w : World) (lab : Nat → Nat) (id b : Nat) (D : Dk) (mk : List (Nat × Nat)) (L : Loc) : Prop where
  ok : D.Ok
  lo : LabOk lab w
  id64 : 64 ≤ id
  blk : w.heap[b]? = some (.cells #[.map (some L.fm), L.pv, .map (some L.mm), .bool D.down, .int .i64 (D.lost : Int), .int .i64 (D.calls : Int), L.kv] 60 (0, 0))
  fcl : L.fc ≤ 16
  files : MapIs Tryz.prog w 3 L.fm L.fc (fileMap L.g)
  marks : MapIs Tryz.prog w 81 L.mm mk.length (markMap mk)
  pend : w.ownsRow 0 81 2 L.pv D.pend.length (secVs D.pend)
  keep : w.ownsRow 0 3 1 L.kv D.keep.length (intVs D.keep)
  file : ∀ f, f < 16 → w.heap[L.g f]? = some (.cells #[L.nv f, L.dv f] 64 (0, 0))
  now : ∀ f, f < 16 → w.ownsRow 0 5 1 (L.nv f) (D.now f).length (byteVs (D.now f))
  dur : ∀ f, f < 16 → w.ownsRow 0 5 1 (L.dv f) (D.dur f).length (byteVs (D.dur f))
  lb : lab b = id
  lf : lab L.fm = id + 1
  lm : lab L.mm = id + 2
  lp : ∀ k, L.pv.ownBlock = some k → lab k = id + 3
  lk : ∀ k, L.kv.ownBlock = some k → lab k = id + 4
  lg : ∀ f, f < 16 → lab (L.g f) = id + 5 + f
  ln : ∀ f, f < 16 → ∀ k, (L.nv f).ownBlock = some k → lab k = id + 21 + f
  ld : ∀ f, f < 16 → ∀ k, (L.dv f).ownBlock = some k → lab k = id + 37 + f

/-- What a call on the disk with this id may do: of what was there only blocks with its labels change. -/
structure Chg (id : Nat) (lab lab' : Nat → Nat) (w w' : World) : Prop where
  os : w'.os = w.os
  tape : w'.tape = w.tape
  output : w'.output = w.output
  size : w.heap.size ≤ w'.heap.size
  labs : ∀ x, x < w.heap.size → lab' x = lab x
  block : ∀ x, x < w.heap.size → (lab x < id ∨ id + 64 ≤ lab x) → w'.heap[x]? = w.heap[x]?
  fresh : ∀ x, w.heap.size ≤ x → lab' x = 0 ∨ (id ≤ lab' x ∧ lab' x < id + 64)

theorem Chg.refl {id : Nat} {lab : Nat → Nat} {w : World} (h : LabOk lab w) : Chg id lab lab w w := ⟨rfl, rfl, rfl, Nat.le_refl _, fun _ _ => rfl, fun _ _ _ => rfl, fun x hx => .inl (h x hx)⟩
theorem Chg.trans {id : Nat} {l1 l2 l3 : Nat → Nat} {a b c : World} (h : Chg id l1 l2 a b) (k : Chg id l2 l3 b c) : Chg id l1 l3 a c where
  os := k.os.trans h.os
  tape := k.tape.trans h.tape
  output := k.output.trans h.output
  size := Nat.le_trans h.size k.size
  labs x hx := (k.labs x (Nat.lt_of_lt_of_le hx h.size)).trans (h.labs x hx)
  block x hx hl := (k.block x (Nat.lt_of_lt_of_le hx h.size) (by rw [h.labs x hx]; exact hl)).trans (h.block x hx hl)
  fresh x hx := by
    by_cases hb : x < b.heap.size
    · rw [k.labs x hb]; exact h.fresh x hx
    · exact k.fresh x (by omega)

theorem ownsRow_block {w w' : World} {base : Nat} {e : TypeId} {size n : Nat} {v : Value} {xs : List Value} (h : w.ownsRow base e size v n xs) (hb : ∀ k, v.ownBlock = some k → w'.heap[k]? = w.heap[k]?) : w'.ownsRow base e size v n xs := by
  refine ⟨h.1, ?_⟩
  rcases h.2 with hn | ⟨g, cap, cur, rfl, hb', hgg, rest⟩
  · exact .inl hn
  · exact .inr ⟨g, cap, cur, rfl, hb', (hb g rfl).trans hgg, rest⟩
theorem lt_heap {w : World} {b : Nat} {o : Obj} (h : w.heap[b]? = some o) : b < w.heap.size := (Array.getElem?_eq_some_iff.1 h).1
theorem set_heap {w : World} {b o : Nat} {cs : Array Value} {e : TypeId} {fz : Nat × Nat} (h : w.heap[b]? = some (.cells cs e fz)) (v : Value) : (w.setCell ⟨b, o, none⟩ v).heap[b]? = some (.cells (cs.setIfInBounds o v) e fz) := by
  simp [World.setCell, Array.getElem?_modify, h]
theorem set_size (w : World) (a : Addr) (v : Value) : (w.setCell a v).heap.size = w.heap.size := by simp [World.setCell]

section
variable {w : World} {lab : Nat → Nat} {id b : Nat} {D : Dk} {mk : List (Nat × Nat)} {L : Loc}

theorem DiskIn.c (h : DiskIn w lab id b D mk L) (i : Nat) : w.cell? ⟨b, i, none⟩ = (#[.map (some L.fm), L.pv, .map (some L.mm), .bool D.down, .int .i64 (D.lost : Int), .int .i64 (D.calls : Int), L.kv] : Array Value)[i]? := by
  rw [Lib.cell_of_heap h.blk]
theorem DiskIn.fz (h : DiskIn w lab id b D mk L) (i : Nat) : w.frozen? ⟨b, i, none⟩ = false := Lib.frozen_of_heap h.blk i
theorem DiskIn.fc (h : DiskIn w lab id b D mk L) {f : Nat} (hf : f < 16) (i : Nat) : w.cell? ⟨L.g f, i, none⟩ = (#[L.nv f, L.dv f] : Array Value)[i]? := by
  rw [Lib.cell_of_heap (h.file f hf)]
theorem DiskIn.ffz (h : DiskIn w lab id b D mk L) {f : Nat} (hf : f < 16) (i : Nat) : w.frozen? ⟨L.g f, i, none⟩ = false := Lib.frozen_of_heap (h.file f hf) i
theorem DiskIn.lookF (h : DiskIn w lab id b D mk L) {f : Int} (hi : I64 f) : (Instr.lookup 56 (.map (some L.fm)) (.int .i64 f) false).run Tryz.prog w = .ok (if 0 ≤ f ∧ f < 16 then .pointer (some ⟨L.g f.toNat, 0, none⟩) else .pointer none) w := by
  rw [h.files.look lawI Tryz.underlying56 (zeroP w) (keyI hi)]
  unfold fileMap
  simp only
  split <;> rfl
theorem DiskIn.blt (h : DiskIn w lab id b D mk L) : b < w.heap.size := lt_heap h.blk

/-- What is left as it was, where the blocks with two labels may change. -/
structure Kept (w w' : World) (lab lab' : Nat → Nat) (id c1 c2 : Nat) : Prop where
  os : w'.os = w.os
  tape : w'.tape = w.tape
  output : w'.output = w.output
  size : w.heap.size ≤ w'.heap.size
  labs : ∀ x, x < w.heap.size → lab' x = lab x
  block : ∀ x, x < w.heap.size → lab x ≠ c1 → lab x ≠ c2 → w'.heap[x]? = w.heap[x]?
  fresh : ∀ x, w.heap.size ≤ x → lab' x = 0 ∨ (id ≤ lab' x ∧ lab' x < id + 64 ∧ x < w'.heap.size)
theorem Kept.chg {w' : World} {lab' : Nat → Nat} {c1 c2 : Nat} (h : Kept w w' lab lab' id c1 c2) (h1 : id ≤ c1 ∧ c1 < id + 64) (h2 : id ≤ c2 ∧ c2 < id + 64) : Chg id lab lab' w w' :=
  ⟨h.os, h.tape, h.output, h.size, h.labs, fun x hx hl => h.block x hx (by omega) (by omega), fun x hx => (h.fresh x hx).imp_right fun q => ⟨q.1, q.2.1⟩⟩
theorem Kept.lo {w' : World} {lab' : Nat → Nat} {c1 c2 : Nat} (h : Kept w w' lab lab' id c1 c2) : LabOk lab' w' := fun x hx => by
  rcases h.fresh x (Nat.le_trans h.size hx) with q | q
  · exact q
  · omega

/-- A disk that has changed in the blocks with two labels: what is laid anew is what these blocks bear. -/
theorem DiskIn.turn {w' : World} {lab' : Nat → Nat} {c1 c2 : Nat} (h : DiskIn w lab id b D mk L) (k : Kept w w' lab lab' id c1 c2) {D' : Dk} {mk' : List (Nat × Nat)} {L' : Loc} (ok : D'.Ok)
    (hfm : L'.fm = L.fm) (hfc : L'.fc = L.fc) (hmm : L'.mm = L.mm) (hg : L'.g = L.g)
    (blk : (c1 ≠ id ∧ c2 ≠ id ∧ L'.pv = L.pv ∧ L'.kv = L.kv ∧ D'.down = D.down ∧ D'.lost = D.lost ∧ D'.calls = D.calls) ∨ w'.heap[b]? = some (.cells #[.map (some L'.fm), L'.pv, .map (some L'.mm), .bool D'.down, .int .i64 (D'.lost : Int), .int .i64 (D'.calls : Int), L'.kv] 60 (0, 0)))
    (hf : c1 ≠ id + 1 ∧ c2 ≠ id + 1)
    (marks : (c1 ≠ id + 2 ∧ c2 ≠ id + 2 ∧ mk' = mk) ∨ MapIs Tryz.prog w' 81 L'.mm mk'.length (markMap mk'))
    (pend : (c1 ≠ id + 3 ∧ c2 ≠ id + 3 ∧ L'.pv = L.pv ∧ D'.pend = D.pend) ∨ (w'.ownsRow 0 81 2 L'.pv D'.pend.length (secVs D'.pend) ∧ ∀ k, L'.pv.ownBlock = some k → lab' k = id + 3))
    (keep : (c1 ≠ id + 4 ∧ c2 ≠ id + 4 ∧ L'.kv = L.kv ∧ D'.keep = D.keep) ∨ (w'.ownsRow 0 3 1 L'.kv D'.keep.length (intVs D'.keep) ∧ ∀ k, L'.kv.ownBlock = some k → lab' k = id + 4))
    (file : ∀ f, f < 16 → (c1 ≠ id + 5 + f ∧ c2 ≠ id + 5 + f ∧ L'.nv f = L.nv f ∧ L'.dv f = L.dv f) ∨ w'.heap[L'.g f]? = some (.cells #[L'.nv f, L'.dv f] 64 (0, 0)))
    (now : ∀ f, f < 16 → (c1 ≠ id + 21 + f ∧ c2 ≠ id + 21 + f ∧ L'.nv f = L.nv f ∧ D'.now f = D.now f) ∨ (w'.ownsRow 0 5 1 (L'.nv f) (D'.now f).length (byteVs (D'.now f)) ∧ ∀ k, (L'.nv f).ownBlock = some k → lab' k = id + 21 + f))
    (dur : ∀ f, f < 16 → (c1 ≠ id + 37 + f ∧ c2 ≠ id + 37 + f ∧ L'.dv f = L.dv f ∧ D'.dur f = D.dur f) ∨ (w'.ownsRow 0 5 1 (L'.dv f) (D'.dur f).length (byteVs (D'.dur f)) ∧ ∀ k, (L'.dv f).ownBlock = some k → lab' k = id + 37 + f)) :
    DiskIn w' lab' id b D' mk' L' where
  ok := ok
  lo := k.lo
  id64 := h.id64
  blk := by
    rcases blk with ⟨h1, h2, e1, e2, e3, e4, e5⟩ | q
    · rw [k.block b h.blt (by rw [h.lb]; omega) (by rw [h.lb]; omega), h.blk, hfm, hmm, e1, e2, e3, e4, e5]
    · exact q
  fcl := by rw [hfc]; exact h.fcl
  files := by
    rw [hfm, hg, hfc]
    exact h.files.block (k.block _ h.files.lt (by rw [h.lf]; omega) (by rw [h.lf]; omega))
  marks := by
    rcases marks with ⟨h1, h2, e1⟩ | q
    · rw [hmm, e1]; exact h.marks.block (k.block _ h.marks.lt (by rw [h.lm]; omega) (by rw [h.lm]; omega))
    · exact q
  pend := by
    rcases pend with ⟨h1, h2, e1, e2⟩ | q
    · rw [e1, e2]; exact ownsRow_block h.pend fun g hg => k.block g (h.pend.lt g hg).2 (by rw [h.lp g hg]; omega) (by rw [h.lp g hg]; omega)
    · exact q.1
  keep := by
    rcases keep with ⟨h1, h2, e1, e2⟩ | q
    · rw [e1, e2]; exact ownsRow_block h.keep fun g hg => k.block g (h.keep.lt g hg).2 (by rw [h.lk g hg]; omega) (by rw [h.lk g hg]; omega)
    · exact q.1
  file f hf := by
    rcases file f hf with ⟨h1, h2, e1, e2⟩ | q
    · rw [hg, e1, e2, k.block _ (lt_heap (h.file f hf)) (by rw [h.lg f hf]; omega) (by rw [h.lg f hf]; omega)]; exact h.file f hf
    · exact q
  now f hf := by
    rcases now f hf with ⟨h1, h2, e1, e2⟩ | q
    · rw [e1, e2]; exact ownsRow_block (h.now f hf) fun g hg => k.block g ((h.now f hf).lt g hg).2 (by rw [h.ln f hf g hg]; omega) (by rw [h.ln f hf g hg]; omega)
    · exact q.1
  dur f hf := by
    rcases dur f hf with ⟨h1, h2, e1, e2⟩ | q
    · rw [e1, e2]; exact ownsRow_block (h.dur f hf) fun g hg => k.block g ((h.dur f hf).lt g hg).2 (by rw [h.ld f hf g hg]; omega) (by rw [h.ld f hf g hg]; omega)
    · exact q.1
  lb := by rw [k.labs b h.blt]; exact h.lb
  lf := by rw [hfm, k.labs _ h.files.lt]; exact h.lf
  lm := by rw [hmm, k.labs _ h.marks.lt]; exact h.lm
  lp g hg := by
    rcases pend with ⟨_, _, e1, _⟩ | q
    · rw [e1] at hg; rw [k.labs g (h.pend.lt g hg).2]; exact h.lp g hg
    · exact q.2 g hg
  lk g hg := by
    rcases keep with ⟨_, _, e1, _⟩ | q
    · rw [e1] at hg; rw [k.labs g (h.keep.lt g hg).2]; exact h.lk g hg
    · exact q.2 g hg
  lg f hf := by rw [hg, k.labs _ (lt_heap (h.file f hf))]; exact h.lg f hf
  ln f hf g hg := by
    rcases now f hf with ⟨_, _, e1, _⟩ | q
    · rw [e1] at hg; rw [k.labs g ((h.now f hf).lt g hg).2]; exact h.ln f hf g hg
    · exact q.2 g hg
  ld f hf g hg := by
    rcases dur f hf with ⟨_, _, e1, _⟩ | q
    · rw [e1] at hg; rw [k.labs g ((h.dur f hf).lt g hg).2]; exact h.ld f hf g hg
    · exact q.2 g hg

/-- Another disk's call, or what touches none of this disk's blocks. -/
theorem DiskIn.kept {w' : World} {lab' : Nat → Nat} (h : DiskIn w lab id b D mk L) (lo : LabOk lab' w') (hl : ∀ x, x < w.heap.size → lab' x = lab x) (hb : ∀ x, x < w.heap.size → id ≤ lab x → lab x < id + 64 → w'.heap[x]? = w.heap[x]?) : DiskIn w' lab' id b D mk L where
  ok := h.ok
  lo := lo
  id64 := h.id64
  blk := by rw [hb b h.blt (by rw [h.lb]; omega) (by rw [h.lb]; omega)]; exact h.blk
  fcl := h.fcl
  files := h.files.block (hb _ h.files.lt (by rw [h.lf]; omega) (by rw [h.lf]; omega))
  marks := h.marks.block (hb _ h.marks.lt (by rw [h.lm]; omega) (by rw [h.lm]; omega))
  pend := ownsRow_block h.pend fun g hg => hb g (h.pend.lt g hg).2 (by rw [h.lp g hg]; omega) (by rw [h.lp g hg]; omega)
  keep := ownsRow_block h.keep fun g hg => hb g (h.keep.lt g hg).2 (by rw [h.lk g hg]; omega) (by rw [h.lk g hg]; omega)
  file f hf := by rw [hb _ (lt_heap (h.file f hf)) (by rw [h.lg f hf]; omega) (by rw [h.lg f hf]; omega)]; exact h.file f hf
  now f hf := ownsRow_block (h.now f hf) fun g hg => hb g ((h.now f hf).lt g hg).2 (by rw [h.ln f hf g hg]; omega) (by rw [h.ln f hf g hg]; omega)
  dur f hf := ownsRow_block (h.dur f hf) fun g hg => hb g ((h.dur f hf).lt g hg).2 (by rw [h.ld f hf g hg]; omega) (by rw [h.ld f hf g hg]; omega)
  lb := by rw [hl b h.blt]; exact h.lb
  lf := by rw [hl _ h.files.lt]; exact h.lf
  lm := by rw [hl _ h.marks.lt]; exact h.lm
  lp g hg := by rw [hl g (h.pend.lt g hg).2]; exact h.lp g hg
  lk g hg := by rw [hl g (h.keep.lt g hg).2]; exact h.lk g hg
  lg f hf := by rw [hl _ (lt_heap (h.file f hf))]; exact h.lg f hf
  ln f hf g hg := by rw [hl g ((h.now f hf).lt g hg).2]; exact h.ln f hf g hg
  ld f hf g hg := by rw [hl g ((h.dur f hf).lt g hg).2]; exact h.ld f hf g hg
theorem DiskIn.fresh {w' : World} (h : DiskIn w lab id b D mk L) (hb : Below w.heap.size w w') : DiskIn w' lab id b D mk L :=
  h.kept (fun x hx => h.lo x (Nat.le_trans hb.size hx)) (fun _ _ => rfl) fun x hx _ _ => hb.block x hx
theorem DiskIn.other {w' : World} {lab' : Nat → Nat} {id' : Nat} (h : DiskIn w lab id b D mk L) (k : Chg id' lab lab' w w') (lo : LabOk lab' w') (hne : id' + 64 ≤ id ∨ id + 64 ≤ id') : DiskIn w' lab' id b D mk L :=
  h.kept lo k.labs fun x hx h1 h2 => k.block x hx (by omega)

/-- The labels behind a slice's growing. -/
def relab (lab : Nat → Nat) (w : World) (v : Value) (c : Nat) (x : Nat) : Nat := if x < w.heap.size then lab x else if v.ownBlock = some x then c else 0
end
end Go.Proofs.YtjbcgahdiolhhaaGreatDoor.D2
namespace Go.Proofs.YtjbcgahdiolhhaaGreatDoor.D2
open Go.RowKit Go.Maps Go.ChangeMaps Go.MapKept
open Dp

theorem zeros_eq (z : Value) (hz : z.cells = #[z]) (n : Nat) : (Builtin.zeroCells z.cells n).toList = List.replicate n z := by
  rw [hz]
  unfold Builtin.zeroCells
  apply List.ext_getElem
  · simp
  · intro i h1 h2; simp [Nat.mod_one]

section
variable {P : Program} (w : World)
theorem run_append_room_zeros (t tn ty e : TypeId) (i : TypeInfo) (z : Value) (kq kn : IntKind) (ht : P.underlying t = some (.slice e)) (htn : P.underlying tn = some (.int kn)) (hi : P.info? e = some i) (hz : i.zero = some z) (hs1 : i.size = 1) (hb1 : i.bytes = 1) (hzc : z.cells = #[z]) (hz1 : z.oneCell' = true)
    (g sLen sCap : Nat) (cur : Array Value) (hg : w.heap[g]? = some (.cells cur e (0, 0))) (k : Nat) (h0 : 0 < k) (hm : k ≤ 140737488355328) (hroom : sLen + k ≤ sCap) (hfit : sLen + k ≤ cur.size) :
    (Builtin.append_ #[t, tn] ty #[.slice (some ⟨g, 0, none⟩) sLen sCap, .int kq k]).run P w =
      .ok (.slice (some ⟨g, 0, none⟩) (sLen + k) sCap) (w.setRow g (cur.toList.take sLen ++ List.replicate k z ++ cur.toList.drop (sLen + k)).toArray) := by
  have hk : k ≠ 0 := by omega
  have hw : IntKind.i64.wrap (k : Int) = k := by rw [IntKind.wrap_i64]; omega
  have hst := run_storeCells_at P g sLen e (List.replicate k z) 0 cur w hg (by simpa using hfit) (fun u hu => by rw [List.eq_of_mem_replicate hu]; exact hz1)
  simp only [Nat.add_zero, List.length_replicate] at hst
  have h48i : ¬ (281474976710656 < (k : Int)) := by omega
  have hneg : ¬ ((k : Int) < 0) := by omega
  have hzz := zeros_eq z hzc k
  simp [Builtin.append_, run_underlying ht, run_underlying htn, sizeOf, typeInfo, zeroValue, hi, hz, hs1, hb1, asInt, asIntOf, hw, hk, hneg, h48i, hroom, hzz, Addr.add_lit, hst]

theorem run_append_own_zeros (t tn ty e : TypeId) (i : TypeInfo) (z : Value) (kq kn : IntKind) (ht : P.underlying t = some (.slice e)) (htn : P.underlying tn = some (.int kn)) (hi : P.info? e = some i) (hz : i.zero = some z) (hs1 : i.size = 1) (hb1 : i.bytes = 1) (hzc : z.cells = #[z]) (hz1 : z.oneCell' = true)
    (v : Value) (n : Nat) (xs : List Value) (hown : w.ownsRow 0 e 1 v n xs) (k : Nat) (h0 : 0 < k) (hm : n + k ≤ 140737488355327) :
    ∃ v' w', (Builtin.append_ #[t, tn] ty #[v, .int kq k]).run P w = .ok v' w' ∧ w'.ownsRow 0 e 1 v' (n + k) (xs ++ List.replicate k z) ∧ w.grownBy w' v.ownBlock ∧ (v'.ownBlock = v.ownBlock ∨ v'.ownBlock = some w.heap.size) := by
  have hx : xs.length = n := by have := hown.1; omega
  have hzz := zeros_eq z hzc k
  have grown : ∀ (old : Nat), old < n + k → ∀ (row : Option Nat),
      (w.drew.alloc (.cells (xs.toArray ++ Builtin.zeroCells z.cells k ++ Builtin.zeroCells z.cells (grownCap w (n + k) old e - (n + k))) e)).ownsRow 0 e 1
        (.slice (some ⟨w.heap.size, 0, none⟩) (n + k) (grownCap w (n + k) old e)) (n + k) (xs ++ List.replicate k z) ∧
      w.grownBy (w.drew.alloc (.cells (xs.toArray ++ Builtin.zeroCells z.cells k ++ Builtin.zeroCells z.cells (grownCap w (n + k) old e - (n + k))) e)) row := by
    intro old _ row
    have hge := grownCap_ge w (n + k) old e
    have hcm : grownCap w (n + k) old e ≤ maxLen := grownCap_le_maxLen w (n + k) old e (by unfold maxLen; omega)
    refine ⟨⟨by simp [hx], .inr ⟨w.heap.size, _, _, rfl, Nat.zero_le _, heap_alloc_new w.drew _, hge, hcm, ?_, ?_⟩⟩, ⟨rfl, rfl, rfl, by simp, fun j hj _ => Lib.alloc_old w.drew _ j hj⟩⟩
    · simp only [Array.size_append, List.size_toArray, size_zeroCells, hzc, hx]
      simp; omega
    · simp only [Array.toList_append, hzz]
      have : (n + k) * 1 = (xs ++ List.replicate k z).length := by simp [hx]
      rw [this]
      exact List.take_left
  rcases hown.2 with ⟨rfl, rfl⟩ | ⟨g, cap, cur, rfl, _, hg, hnc, hcm, hcs, htake⟩
  · obtain rfl : xs = [] := List.eq_nil_of_length_eq_zero hx
    have hr := Lib.run_append_nil_zeros (P := P) w t tn ty e i z kq kn ht htn hi hz k h0 (by omega) (by omega) (by rw [hb1]; omega)
    have hgr := grown 0 (by omega) (Value.ownBlock (.slice none 0 0))
    simp only [Nat.zero_add, List.nil_append, Array.empty_append] at hgr ⊢
    exact ⟨_, _, hr, hgr.1, hgr.2, .inr rfl⟩
  · by_cases hroom : n + k ≤ cap
    · have hr := run_append_room_zeros (P := P) w t tn ty e i z kq kn ht htn hi hz hs1 hb1 hzc hz1 g n cap cur hg k h0 (by omega) hroom (by omega)
      refine ⟨_, _, hr, ⟨by simp [hx], .inr ⟨g, cap, _, rfl, Nat.zero_le _, setRow_heap w g cur _ e _ hg, hroom, hcm, ?_, ?_⟩⟩, ⟨rfl, rfl, rfl, by simp, fun k hk hne => setRow_other w g k _ (fun e => hne (by simp [Value.ownBlock, e]))⟩, .inl rfl⟩
      · simp only [List.size_toArray, List.length_append, List.length_take, List.length_drop, Array.length_toList, List.length_replicate]
        omega
      · simp only [Nat.mul_one] at htake ⊢
        rw [htake]
        have : n + k = (xs ++ List.replicate k z).length := by simp [hx]
        rw [this]
        exact List.take_left
    · have holds := (run_firstCells_some (P := P) w.drew i.size n ⟨g, 0, none⟩ cap n xs (by rw [hs1]; omega) (fun j u hj => hown.cells (g := g) rfl j u hj))
      have hr := Lib.run_append_grow_zeros (P := P) w t tn ty e i z kq kn ht htn hi hz (some ⟨g, 0, none⟩) n cap xs holds k h0 (by omega) (by omega) (by omega) (by rw [hb1]; omega) (by rw [hb1]; exact growslice_fits (by omega) (by omega))
      have hgr := grown cap (by omega) (Value.ownBlock (.slice (some ⟨g, 0, none⟩) n cap))
      exact ⟨_, _, hr, hgr.1, hgr.2, .inr rfl⟩
end

/-! ### The walk -/
theorem oneCell_bytes (t : List UInt8) : ∀ u ∈ byteVs t, u.oneCell' = true := by
  intro u hu; obtain ⟨b, _, rfl⟩ := List.mem_map.1 hu; rfl

/-- Behind the copying. -/
theorem copied {w : World} {g cap n a : Nat} {l t : List UInt8} (h : w.ownsRow 0 5 1 (.slice (some ⟨g, 0, none⟩) n cap) n (byteVs l)) (hn : l.length = n) (ha : a + t.length ≤ n) (cur : Array Value) (hg : w.heap[g]? = some (.cells cur 5 (0, 0))) :
    (w.setRow g (cur.toList.take a ++ (byteVs t ++ cur.toList.drop (a + (byteVs t).length))).toArray).ownsRow 0 5 1 (.slice (some ⟨g, 0, none⟩) n cap) n (byteVs (l.take a ++ t ++ l.drop (a + t.length))) ∧ w.grownBy (w.setRow g (cur.toList.take a ++ (byteVs t ++ cur.toList.drop (a + (byteVs t).length))).toArray) (some g) := by
  rw [byteVs_length]
  refine ⟨?_, ⟨rfl, rfl, rfl, by simp, fun k hk hne => setRow_other w g k _ (fun e => hne (by rw [e]))⟩⟩
  obtain ⟨h1, h2⟩ := h
  refine ⟨by simp [byteVs_length]; omega, .inr ?_⟩
  rcases h2 with ⟨h2, h3⟩ | ⟨g', cap', cur', h2, _, h4, h5, h6, h7, h8⟩
  · cases h2
  · cases h2
    obtain rfl : cur' = cur := by rw [hg] at h4; cases h4; rfl
    refine ⟨g, cap, _, rfl, Nat.zero_le _, setRow_heap w g cur' _ _ _ hg, h5, h6, ?_, ?_⟩
    · have : cur'.toList.length = cap := by rw [Array.length_toList]; omega
      simp only [List.size_toArray, List.length_append, List.length_take, List.length_drop, byteVs_length, this]; omega
    · simp only [Nat.mul_one] at h8 ⊢
      have hl : cur'.toList.length = cap := by rw [Array.length_toList]; omega
      have e1 : byteVs (l.take a ++ t ++ l.drop (a + t.length)) = (byteVs l).take a ++ (byteVs t ++ (byteVs l).drop (a + t.length)) := by simp [byteVs, List.map_append, List.map_take, List.map_drop]
      rw [e1, ← h8]
      rw [List.take_take, Nat.min_eq_left (by omega)]
      rw [List.take_append, List.take_append]
      simp only [List.length_take, byteVs_length, hl, List.take_take]
      rw [Nat.min_eq_right (by omega), Nat.min_eq_left (by omega : a ≤ cap)]
      rw [List.take_of_length_le (by rw [byteVs_length]; omega : (byteVs t).length ≤ n - a)]
      rw [List.drop_take]
      congr 3
      omega

def PutPost (v : Value) (r : List UInt8) (w : World) (e : Ending) (w' : World) : Prop :=
  ∃ v', e = .returned v' ∧ w'.ownsRow 0 5 1 v' r.length (byteVs r) ∧ w.grownBy w' v.ownBlock ∧ (v'.ownBlock = v.ownBlock ∨ ∀ k, v'.ownBlock = some k → w.heap.size ≤ k)

theorem putL_stay {l : List UInt8} {a : Nat} {t : List UInt8} (h : a + t.length ≤ l.length) : putL l a t = l.take a ++ t ++ l.drop (a + t.length) := by
  simp [putL, Nat.sub_eq_zero_of_le h]

set_option maxHeartbeats 1000000 in
set_option maxRecDepth 100000 in
theorem put_stay (v : Value) (l : List UInt8) (a : Nat) (t : List UInt8) (gs os c : Nat) (w : World) (ht : 0 < t.length) (hown : w.ownsRow 0 5 1 v l.length (byteVs l)) (hl : a + t.length ≤ 16777216) (hle : a + t.length ≤ l.length)
    (hsrc : ∀ j u, (byteVs t)[j]? = some u → w.cell? ((⟨gs, os, none⟩ : Addr).add j) = some u) :
    Calls Tryz.prog 70 #[v, .int .i64 (a : Int), .slice (some ⟨gs, os, none⟩) t.length c] w (PutPost v (putL l a t) w) := by
  obtain ⟨g, cap, cur, rfl, hg, hnc, hcm⟩ : ∃ g cap cur, v = .slice (some ⟨g, 0, none⟩) l.length cap ∧ w.heap[g]? = some (.cells cur 5 (0, 0)) ∧ l.length ≤ cap ∧ cap ≤ maxLen := by
    rcases hown.2 with ⟨_, h⟩ | ⟨g, cap, cur, hv, _, hg, h1, h2, _⟩
    · omega
    · exact ⟨g, cap, cur, hv, hg, h1, h2⟩
  have hc := copied hown rfl hle cur hg
  rw [← putL_stay hle] at hc
  have hcs : a + (byteVs t).length ≤ cur.size := by
    rcases hown.2 with ⟨h, _⟩ | ⟨g', cap', cur', hv, _, hg', h1, h2, h3, _⟩
    · cases h
    · cases hv; rw [hg] at hg'; cases hg'; rw [byteVs_length]; omega
  have HC := Lib.hid hc
  have HS := Lib.hid hsrc
  have HG := Lib.hid hg
  have HN := Lib.hid (show (byteVs t).length = Nat.min t.length (l.length - a) by rw [byteVs_length]; simp only [Nat.min_def]; split <;> omega)
  have hlen : (putL l a t).length = l.length := by rw [putL_length]; omega
  have HL := Lib.hid hlen
  have HB := Lib.hid (byteVs_length t)
  unfold maxLen at hcm
  clear hc hsrc hown hg hlen
  go_enter Tryz.func70, Tryz.ntmps70
  go_wp2_with (refine wpList_copy_own rfl _ _ 62 62 rfl 5 Tryz.underlying62 (by kernel_rfl) g a (l.length - a) (cap - a) ⟨gs, os, none⟩ t.length c rfl rfl cur 5 HG.out (byteVs t) HN.out HS.out hcs (oneCell_bytes t) ?_)
  go_ret
  refine ⟨_, rfl, ?_, HC.out.2, .inl rfl⟩
  rw [HL.out]; exact HC.out.1

set_option maxHeartbeats 2000000 in
set_option maxRecDepth 100000 in
theorem put_grow (v : Value) (l : List UInt8) (a : Nat) (t : List UInt8) (gs os c : Nat) (w : World) (ht : 0 < t.length) (hown : w.ownsRow 0 5 1 v l.length (byteVs l)) (hl : l.length ≤ 16777216) (hm : a + t.length ≤ 16777216) (hlt : l.length < a + t.length) (hne : v.ownBlock ≠ some gs)
    (hsrc : ∀ j u, (byteVs t)[j]? = some u → w.cell? ((⟨gs, os, none⟩ : Addr).add j) = some u) :
    Calls Tryz.prog 70 #[v, .int .i64 (a : Int), .slice (some ⟨gs, os, none⟩) t.length c] w (PutPost v (putL l a t) w) := by
  obtain ⟨i0, hi, hz0, hz1, hz2⟩ := info_parts byte_info
  obtain ⟨v1, w1, hr, hown1, hg1, hat⟩ := run_append_own_zeros (P := Tryz.prog) w 62 3 62 5 i0 (.int .u8 0) .i64 .i64 Tryz.underlying62 Tryz.underlying3 hi hz0 hz1 hz2 rfl rfl v l.length (byteVs l) hown (a + t.length - l.length) (by omega) (by omega)
  have hgs : gs < w.heap.size := by
    obtain ⟨b, r, hb⟩ : ∃ b r, t = b :: r := by cases t with | nil => simp at ht | cons b r => exact ⟨b, r, rfl⟩
    have := hsrc 0 (.int .u8 (b.toNat : Int)) (by rw [hb]; simp [byteVs])
    exact Lib.lt_of_cell (by rw [Lib.add_plain] at this; exact this)
  have hsrc1 : ∀ j u, (byteVs t)[j]? = some u → w1.cell? ((⟨gs, os, none⟩ : Addr).add j) = some u := by
    intro j u hu
    have := hsrc j u hu
    rw [Lib.add_plain] at this ⊢
    exact hg1.cell this (fun e => hne e.symm)
  have e0 : byteVs l ++ List.replicate (a + t.length - l.length) (Value.int .u8 0) = byteVs (l ++ List.replicate (a + t.length - l.length) 0) := by simp [byteVs, List.map_append]
  have e1 : l.length + (a + t.length - l.length) = a + t.length := by omega
  rw [e0, e1] at hown1
  have hlen0 : (l ++ List.replicate (a + t.length - l.length) (0 : UInt8)).length = a + t.length := by rw [List.length_append, List.length_replicate]; omega
  obtain ⟨g, cap, cur, rfl, hg, hnc, hcm, hcz⟩ : ∃ g cap cur, v1 = .slice (some ⟨g, 0, none⟩) (a + t.length) cap ∧ w1.heap[g]? = some (.cells cur 5 (0, 0)) ∧ a + t.length ≤ cap ∧ cap ≤ maxLen ∧ cur.size = cap := by
    rcases hown1.2 with ⟨_, h⟩ | ⟨g, cap, cur, hv, _, hg, h1, h2, h3, _⟩
    · omega
    · exact ⟨g, cap, cur, hv, hg, h1, h2, by omega⟩
  have hc := copied hown1 hlen0 (Nat.le_refl _) cur hg
  have e2 : (l ++ List.replicate (a + t.length - l.length) (0 : UInt8)).take a ++ t ++ (l ++ List.replicate (a + t.length - l.length) (0 : UInt8)).drop (a + t.length) = putL l a t := rfl
  rw [e2] at hc
  have hcs : a + (byteVs t).length ≤ cur.size := by rw [byteVs_length]; omega
  have HC := Lib.hid hc
  have HS := Lib.hid hsrc1
  have HG := Lib.hid hg
  have HG1 := Lib.hid hg1
  have HA := Lib.hid hat
  have HN := Lib.hid (show (byteVs t).length = Nat.min t.length t.length by rw [byteVs_length]; simp only [Nat.min_def]; split <;> omega)
  have hlen : (putL l a t).length = a + t.length := by rw [putL_length]; omega
  have HL := Lib.hid hlen
  obtain ⟨ao, co, rfl⟩ : ∃ ao co, v = .slice ao l.length co := by
    rcases hown.2 with ⟨h, h2⟩ | ⟨g, cap, cur, hv, _⟩
    · exact ⟨none, 0, by rw [h, h2]⟩
    · exact ⟨_, _, hv⟩
  have hr' : (Builtin.append_ #[62, 3] 62 #[.slice ao l.length co, .int .i64 ((a : Int) + (t.length : Int) - (l.length : Int))]).run Tryz.prog w = .ok (.slice (some ⟨g, 0, none⟩) (a + t.length) cap) w1 := by
    rw [← hr]
    have e3 : (a : Int) + (t.length : Int) - (l.length : Int) = ((a + t.length - l.length : Nat) : Int) := by omega
    rw [e3]
  have HR := Lib.hid hr'
  unfold maxLen at hcm
  clear hc hsrc hown hg hlen hsrc1 hown1 hr hr' hg1 hat e0 e1 e2 hlen0 hi hz0 hz1 hz2 hcz
  go_enter Tryz.func70, Tryz.ntmps70
  go_wp2_with (first | (at_builtin; refine Lib.wpList_append_run _ rfl _ _ _ _ rfl _ _ rfl rfl _ _ HR.out ?_) | (refine wpList_copy_own rfl _ _ 62 62 rfl 5 Tryz.underlying62 (by kernel_rfl) g a t.length (cap - a) ⟨gs, os, none⟩ t.length c rfl rfl cur 5 HG.out (byteVs t) HN.out HS.out hcs (oneCell_bytes t) ?_))
  go_ret
  refine ⟨.slice (some ⟨g, 0, none⟩) (a + t.length) cap, rfl, ?_, ?_, ?_⟩
  · rw [HL.out]; exact HC.out.1
  · refine HG1.out.andThen HC.out.2 fun j hj => ?_
    cases hj
    rcases HA.out with h | h
    · exact .inr h.symm
    · simp only [Value.ownBlock, Option.some.injEq] at h
      exact .inl (by omega)
  · rcases HA.out with h | h
    · exact .inl h
    · exact .inr fun k hk => by rw [h] at hk; cases hk; exact Nat.le_refl _

theorem put_any (v : Value) (l : List UInt8) (a : Nat) (t : List UInt8) (gs os c : Nat) (w : World) (ht : 0 < t.length) (hown : w.ownsRow 0 5 1 v l.length (byteVs l)) (hl : l.length ≤ 16777216) (hm : a + t.length ≤ 16777216) (hne : v.ownBlock ≠ some gs)
    (hsrc : ∀ j u, (byteVs t)[j]? = some u → w.cell? ((⟨gs, os, none⟩ : Addr).add j) = some u) :
    Calls Tryz.prog 70 #[v, .int .i64 (a : Int), .slice (some ⟨gs, os, none⟩) t.length c] w (PutPost v (putL l a t) w) := by
  rcases Nat.lt_or_ge l.length (a + t.length) with h | h
  · exact put_grow v l a t gs os c w ht hown hl hm h hne hsrc
  · exact put_stay v l a t gs os c w ht hown (by omega) h hsrc
end Go.Proofs.YtjbcgahdiolhhaaGreatDoor.D2
namespace Go.Proofs.YtjbcgahdiolhhaaGreatDoor.D2
open Go.RowKit Go.Maps Go.ChangeMaps Go.MapKept
open Dp

/-- A slice that is read: nil, or its cells. -/
def SrcIs (w : World) (size : Nat) (v : Value) (n : Nat) (xs : List Value) : Prop :=
  xs.length = n * size ∧ ((v = .slice none 0 0 ∧ n = 0) ∨ ∃ ad cap, v = .slice (some ad) n cap ∧ (∀ j u, xs[j]? = some u → w.cell? (ad.add j) = some u) ∧ ∀ u ∈ xs, u.oneCell' = true)
theorem SrcIs.of_own {w : World} {base : Nat} {e : TypeId} {size n : Nat} {v : Value} {xs : List Value} (h : w.ownsRow base e size v n xs) (h1 : ∀ u ∈ xs, u.oneCell' = true) : SrcIs w size v n xs := by
  refine ⟨h.1, ?_⟩
  rcases h.2 with h2 | ⟨g, cap, cur, rfl, r⟩
  · exact .inl h2
  · exact .inr ⟨_, cap, rfl, fun j u hj => h.cells rfl j u hj, h1⟩

/-- A slice of the call's own, in a new block. -/
def FreshRow (w w' : World) (e : TypeId) (size : Nat) (n : Nat) (xs : List Value) (v' : Value) : Prop := w'.ownsRow 0 e size v' n xs ∧ ∀ k, v'.ownBlock = some k → w.heap.size ≤ k
def ClonePost (w : World) (el : TypeId) (size n : Nat) (xs : List Value) (e : Ending) (w' : World) : Prop := ∃ v', e = .returned v' ∧ FreshRow w w' el size n xs v' ∧ Below w.heap.size w w'
theorem oneCell_ints (l : List Int) : ∀ u ∈ intVs l, u.oneCell' = true := by
  intro u hu; obtain ⟨b, _, rfl⟩ := List.mem_map.1 hu; rfl
theorem oneCell_secs (l : List (Nat × Nat)) : ∀ u ∈ secVs l, u.oneCell' = true := by
  intro u hu; simp only [secVs, List.mem_flatMap] at hu; obtain ⟨p, _, hp⟩ := hu; simp at hp; rcases hp with rfl | rfl <;> rfl

set_option maxHeartbeats 1000000 in
set_option maxRecDepth 100000 in
theorem cloneI (v : Value) (n : Nat) (xs : List Value) (w : World) (h : SrcIs w 1 v n xs) (hn : n * 8 ≤ 140737488355328) :
    Calls Tryz.prog 44 #[v] w (ClonePost w 3 1 n xs) := by
  obtain ⟨i0, hi, hz0, hz1, hz2⟩ := info_parts int_info
  have q22 : ∀ (w : World) (a : Option Addr) (n c n' c' : Nat), (binOp .eql 36 (.slice a n c) (.slice none n' c')).run Tryz.prog w = .ok (.bool a.isNone) w := fun w a n c n' c' => Lib.run_eql_slice_nil w _ _ a n c n' c' Tryz.underlying36
  obtain ⟨hl, h⟩ := h
  rcases h with ⟨rfl, rfl⟩ | ⟨ad, cap, rfl, hc, h1⟩
  · obtain rfl : xs = [] := List.eq_nil_of_length_eq_zero (by omega)
    go_enter Tryz.func44, Tryz.ntmps44
    go_wp2
    go_ret
    exact ⟨_, rfl, ⟨World.ownsRow_nil _ _ _ _, fun k hk => by cases hk⟩, Below.refl _ _⟩
  · have HC := Lib.hid hc
    have H1 := Lib.hid h1
    have HL := Lib.hid hl
    clear hc h1 hl
    go_enter Tryz.func44, Tryz.ntmps44
    go_wp2_with (at_builtin; refine wpList_append_own_at _ rfl _ _ 36 rfl 0 3 i0 (.int .i64 0) 1 8 Tryz.underlying36 hi hz0 hz1 hz2 rfl (by decide) _ _ _ rfl (World.ownsRow_made w #[] 0 (Nat.zero_le _) (by unfold maxLen; omega) (by simp)) ad n cap xs rfl HL.out ?c1 H1.out ?c3 ?c4 (Nat.zero_le _) ?_)
    case c1 =>
      intro j u hj
      have := HC.out j u hj
      exact (World.grownBy_alloc w _ none).cell this (by simp)
    case c3 => unfold maxLen; omega
    case c4 => omega
    intro v' w1 hown hg _ hat
    have hg := (show (w.alloc (.cells #[] 3)).grownBy w1 (some w.heap.size) from hg)
    have HAT := Lib.hid hat
    clear hat
    go_wp2
    go_ret
    refine ⟨v', rfl, ⟨by simpa using hown, fun k hk => ?_⟩, ?_⟩
    · rcases HAT.out with h | h
      · have h2 := h.symm.trans hk; simp [Value.ownBlock] at h2; omega
      · have h2 := h.symm.trans hk; simp at h2; omega
    · exact ((Below.refl _ _).alloc (Nat.le_refl _) _).grown hg (by simp) (fun k hk => by cases hk; exact Nat.le_refl _)

end Go.Proofs.YtjbcgahdiolhhaaGreatDoor.D2
namespace Go.Proofs.YtjbcgahdiolhhaaGreatDoor.D2
open Go.RowKit Go.Maps Go.ChangeMaps Go.MapKept
open Dp
attribute [local go_sem ↓] Go.wp_at_zero Go.wp_at_succ

/-- One memory, whatever has been drawn. -/
structure Hp (w w' : World) : Prop where
  heap : w'.heap = w.heap
  os : w'.os = w.os
  tape : w'.tape = w.tape
  output : w'.output = w.output
theorem Hp.refl (w : World) : Hp w w := ⟨rfl, rfl, rfl, rfl⟩

def HardPost (gg : Nat) (vd : Value) (r : List UInt8) (w : World) (e : Ending) (w' : World) : Prop :=
  e = .returned (.tuple #[]) ∧ ∃ v' w1, w1.ownsRow 0 5 1 v' r.length (byteVs r) ∧ w.grownBy w1 vd.ownBlock ∧ (v'.ownBlock = vd.ownBlock ∨ ∀ k, v'.ownBlock = some k → w.heap.size ≤ k) ∧ Hp (w1.setCell ⟨gg, 1, none⟩ v') w'

theorem sec_cells {w : World} {gn cap : Nat} {ln : List UInt8} (on : w.ownsRow 0 5 1 (.slice (some ⟨gn, 0, none⟩) ln.length cap) ln.length (byteVs ln)) (n : Nat) : ∀ j u, (byteVs (sec ln n))[j]? = some u → w.cell? ((⟨gn, 64 * n, none⟩ : Addr).add j) = some u := by
  intro j u hu
  have h := on.cells (g := gn) rfl (64 * n + j) u
  rw [Lib.add_plain] at h ⊢
  simp only [Nat.zero_add] at h
  apply h
  simp only [byteVs, sec, List.map_take, List.map_drop] at hu
  have hlt : j < 64 := by
    rcases Nat.lt_or_ge j 64 with h | h
    · exact h
    · rw [List.getElem?_take_eq_none h] at hu; cases hu
  rw [List.getElem?_take_of_lt hlt, List.getElem?_drop] at hu
  exact hu

theorem slice_mid {P : Program} (w : World) {t e : TypeId} (ht : P.underlying t = some (.slice e)) {i : TypeInfo} (hi : P.info? e = some i) (hs : i.size = 1) (b off len cap l h : Nat) (h1 : l ≤ h) (h2 : h ≤ cap) (h3 : l < cap) (x y : Int) (hx : x = (l : Int)) (hy : y = (h : Int)) :
    (Instr.slice t (.slice (some ⟨b, off, none⟩) len cap) (some (.int .i64 x)) (some (.int .i64 y)) none).run P w = .ok (.slice (some ⟨b, off + l, none⟩) (h - l) (cap - l)) w := by
  subst hx hy
  have e1 : ¬ (cap = l) := by omega
  simp [Instr.slice, Instr.sliceBounds, Instr.sliceBound, asIntOf, run_underlying ht, sizeOf, typeInfo, hi, hs, h1, h2, e1, Lib.add_plain, Result.andThen, go_sem]

/-- The builtin min of two ints, as a step of a region that draws its order. -/
theorem step_min {P : Program} {ops : Array Oper} {o : Oper} {a : Act} {w : World} {K : Act → World → Prop} {Q : Exit → Act → World → Prop} {E : Prop} (hgd : o.guard = none) (x y : Operand) (ts : Array TypeId)
    (ho : o.op = .call { callee := .builtin .min, args := #[x, y], argTypes := ts }) (p q r : Int) (hx : a.eval x = .int .i64 p) (hy : a.eval y = .int .i64 q) (hr : min p q = r)
    (h : K (a.put o.dst (.int .i64 r)) w) : if Region.wanted o (yielded ops a.tmps) = true then Oper.wp P o a w K Q else E := by
  have hw : Region.wanted o (yielded ops a.tmps) = true := by simp [Region.wanted, hgd]
  rw [if_pos hw]
  unfold Oper.wp
  simp [execOp, ho, resolve, invoke, builtin, hx, hy, hr, Lib.run_min_ints, Result.andThen]
  exact h

theorem stay_put {w w1 : World} {gg : Nat} {row : Option Nat} {i : Nat} {u0 : Value} (c0 : w.cell? ⟨gg, i, none⟩ = some u0) (hg : row ≠ some gg) (g : w.drew.grownBy w1 row) : w1.cell? ⟨gg, i, none⟩ = some u0 :=
  g.cell c0 (fun e => hg e.symm)
theorem stay_fz {w w1 : World} {gg : Nat} {row : Option Nat} {i : Nat} (f1 : w.frozen? ⟨gg, i, none⟩ = false) (hg : row ≠ some gg) (hlt : gg < w.heap.size) (g : w.drew.grownBy w1 row) : w1.frozen? ⟨gg, i, none⟩ = false :=
  (World.frozen?_of_block (w := w.drew) (g.block gg hlt (fun e => hg e.symm))).trans f1
theorem own_form {w : World} {base : Nat} {e : TypeId} {size n : Nat} {v : Value} {xs : List Value} (h : w.ownsRow base e size v n xs) : ∃ a c, v = .slice a n c := by
  rcases h.2 with ⟨rfl, rfl⟩ | ⟨g, cap, cur, rfl, _⟩
  · exact ⟨_, _, rfl⟩
  · exact ⟨_, _, rfl⟩
theorem drew_grown {w w1 : World} {row : Option Nat} (g : w.drew.grownBy w1 row) : w.grownBy w1 row := ⟨g.os, g.tape, g.output, g.size, g.block⟩
theorem put_len (v : Value) (l : List UInt8) (a m : Nat) (t : List UInt8) (gs c : Nat) (w : World) (hm0 : t.length = m) (ht : 0 < m) (hown : w.ownsRow 0 5 1 v l.length (byteVs l)) (hl : l.length ≤ 16777216) (hm : a + m ≤ 16777216) (hne : v.ownBlock ≠ some gs)
    (hsrc : ∀ j u, (byteVs t)[j]? = some u → w.cell? ((⟨gs, a, none⟩ : Addr).add j) = some u) :
    Calls Tryz.prog 70 #[v, .int .i64 (a : Int), .slice (some ⟨gs, a, none⟩) m c] w (PutPost v (putL l a t) w) := by
  subst hm0
  exact put_any v l a t gs a c w ht hown hl hm hne hsrc

set_option maxHeartbeats 4000000 in
set_option maxRecDepth 100000 in
theorem harden_low (gg gn cap : Nat) (vd : Value) (ln ld : List UInt8) (n m : Nat) (w : World)
    (c0 : w.cell? ⟨gg, 0, none⟩ = some (.slice (some ⟨gn, 0, none⟩) ln.length cap)) (c1 : w.cell? ⟨gg, 1, none⟩ = some vd) (f1 : w.frozen? ⟨gg, 1, none⟩ = false)
    (on : w.ownsRow 0 5 1 (.slice (some ⟨gn, 0, none⟩) ln.length cap) ln.length (byteVs ln)) (od : w.ownsRow 0 5 1 vd ld.length (byteVs ld)) (hn : 64 * n < ln.length) (h1 : ln.length ≤ 16777216) (h2 : ld.length ≤ 16777216)
    (hne : vd.ownBlock ≠ some gn) (hg : vd.ownBlock ≠ some gg) (hcap : ln.length ≤ cap) (hm : m = min 64 (ln.length - 64 * n)) :
    Calls Tryz.prog 45 #[.pointer (some ⟨gg, 0, none⟩), .int .i64 (n : Int)] w (HardPost gg vd (putL ld (64 * n) (sec ln n)) w) := by
  have hlen : (sec ln n).length = m := by simp [sec]; omega
  have HS := Lib.hid (sec_cells on n)
  have HD := Lib.hid od
  have HN := Lib.hid hne
  have HG := Lib.hid hg
  have HL := Lib.hid hlen
  have hpos : 0 < m := by omega
  obtain ⟨a, ha⟩ : ∃ a : Nat, (n : Int) * 64 = (a : Int) := ⟨n * 64, by omega⟩
  have haN : 64 * n = a := by omega
  rw [haN] at HS
  have hmin : min ((a : Int) + 64) (ln.length : Int) = (a : Int) + (m : Int) := by omega
  have hmin2 : (if (ln.length : Int) < (a : Int) + 64 then (ln.length : Int) else (a : Int) + 64) = (a : Int) + (m : Int) := by split <;> omega
  have hsum : a + m ≤ 16777216 := by omega
  have HA := Lib.hid haN
  have HR := Lib.hid (show IntKind.i64.wrap ((a : Int) + 64) = (a : Int) + 64 from IntWalk.i64_in _ (by omega))
  have HW := Lib.hid (show min (IntKind.i64.wrap ((a : Int) + 64)) (ln.length : Int) = (a : Int) + (m : Int) by rw [IntWalk.i64_in _ (by omega)]; exact hmin)
  have b1 : (0 : Int) ≤ (a : Int) := by omega
  have b2 : (a : Int) ≤ (a : Int) + (m : Int) := by omega
  have b3 : (a : Int) + (m : Int) ≤ (cap : Int) := by omega
  have b4 : (n : Int) ≤ 262144 := by omega
  have b5 : (a : Int) ≤ 16777216 := by omega
  have t1 : ((a : Int) + (m : Int)).toNat = a + m := by omega
  obtain ⟨i0, hi, _, hz1, _⟩ := info_parts byte_info
  have hsl : ∀ w, (Instr.slice 62 (.slice (some ⟨gn, 0, none⟩) ln.length cap) (some (.int .i64 (a : Int))) (some (.int .i64 ((a : Int) + (m : Int)))) none).run Tryz.prog w = .ok (.slice (some ⟨gn, a, none⟩) m (cap - a)) w := fun w => by
    have := slice_mid w Tryz.underlying62 hi hz1 gn 0 ln.length cap a (a + m) (by omega) (by omega) (by omega) (a : Int) ((a : Int) + (m : Int)) rfl (by omega)
    rw [this]; simp
  have HC := Lib.hid (Lib.lt_of_cell c0)
  clear od on hne hg hlen hm haN hn hi hz1
  go_enter Tryz.func45, Tryz.ntmps45
  go_wp2
  have hwrap := HR.out
  go_region_with (first | (go_at_call 70; refine (put_len vd ld a m (sec ln n) gn (cap - a) w.drew HL.out hpos HD.out h2 hsum HN.out HS.out).mono ?_; rintro e w1 ⟨v', rfl, o1, g1, l1⟩; obtain ⟨va, vc, rfl⟩ := own_form o1; have S2 := stay_put c1 HG.out g1; have S3 := stay_fz f1 HG.out HC.out g1))
  all_goals clear hwrap
  all_goals (go_end0; exact ⟨rfl, _, w1, by rw [HA.out]; exact o1, drew_grown g1, l1, Hp.refl _⟩)
end Go.Proofs.YtjbcgahdiolhhaaGreatDoor.D2
namespace Go.Proofs.YtjbcgahdiolhhaaGreatDoor.D2
open Go.RowKit Go.Maps Go.ChangeMaps Go.MapKept
open Dp

theorem Hp.own {w w' : World} (h : Hp w w') {base : Nat} {e : TypeId} {size n : Nat} {v : Value} {xs : List Value} (o : w.ownsRow base e size v n xs) : w'.ownsRow base e size v n xs :=
  ownsRow_block o fun k _ => by rw [h.heap]
theorem set_other {w : World} {a : Addr} {v : Value} {k : Nat} (h : k ≠ a.block) : (w.setCell a v).heap[k]? = w.heap[k]? := Below.heap_setCell w a v k h

section
variable {w w1 w' : World} {lab : Nat → Nat} {id b : Nat} {D : Dk} {mk : List (Nat × Nat)} {L : Loc}

/-- A slice has grown, and its header has been stored. -/
theorem kept_row {row : Option Nat} {p i c1 c2 : Nat} {v' : Value} {e : TypeId} {size n : Nat} {xs : List Value} (g : w.grownBy w1 row) (hrow : ∀ k, row = some k → lab k = c2) (o : w1.ownsRow 0 e size v' n xs)
    (hp : Hp (w1.setCell ⟨p, i, none⟩ v') w') (hlp : lab p = c1) (hid : id ≤ c2 ∧ c2 < id + 64) :
    Kept w w' lab (relab lab w v' c2) id c1 c2 where
  os := hp.os.trans g.os
  tape := hp.tape.trans g.tape
  output := hp.output.trans g.output
  size := by rw [hp.heap, set_size]; exact g.size
  labs x hx := by simp [relab, hx]
  block x hx h1 h2 := by
    rw [hp.heap, set_other (fun h => h1 (by rw [h]; exact hlp))]
    exact g.block x hx (fun h => h2 (hrow x h.symm))
  fresh x hx := by
    unfold relab
    rw [if_neg (by omega)]
    split
    · rename_i h
      exact .inr ⟨hid.1, hid.2, by rw [hp.heap, set_size]; exact (o.lt x h).2⟩
    · exact .inl rfl
/-- The labels of the slice that has grown. -/
theorem relab_own {row : Option Nat} {c2 : Nat} {v' : Value} (g : ∀ k, row = some k → k < w.heap.size) (hrow : ∀ k, row = some k → lab k = c2)
    (hloc : v'.ownBlock = row ∨ ∀ k, v'.ownBlock = some k → w.heap.size ≤ k) : ∀ k, v'.ownBlock = some k → relab lab w v' c2 k = c2 := by
  intro k hk
  unfold relab
  rcases hloc with h | h
  · have h1 : row = some k := h.symm.trans hk
    rw [if_pos (g k h1)]; exact hrow k h1
  · have := h k hk
    rw [if_neg (by omega), if_pos hk]
theorem own_set {p i : Nat} {v' v : Value} {e : TypeId} {size n : Nat} {xs : List Value} (o : w1.ownsRow 0 e size v n xs) (hne : v.ownBlock ≠ some p) (hp : Hp (w1.setCell ⟨p, i, none⟩ v') w') : w'.ownsRow 0 e size v n xs :=
  hp.own (ownsRow_block o fun k hk => set_other (fun h => hne (by rw [hk]; exact congrArg some h)))

theorem DiskIn.setDur (h : DiskIn w lab id b D mk L) {f : Nat} (hf : f < 16) {v' : Value} {r : List UInt8} (hr : r.length ≤ 16777216) (g : w.grownBy w1 (L.dv f).ownBlock) (o : w1.ownsRow 0 5 1 v' r.length (byteVs r))
    (hloc : v'.ownBlock = (L.dv f).ownBlock ∨ ∀ k, v'.ownBlock = some k → w.heap.size ≤ k) (hp : Hp (w1.setCell ⟨L.g f, 1, none⟩ v') w') :
    DiskIn w' (relab lab w v' (id + 37 + f)) id b { D with dur := upd D.dur f r } mk { L with dv := upd L.dv f v' } ∧ Chg id lab (relab lab w v' (id + 37 + f)) w w' := by
  have hgl := lt_heap (h.file f hf)
  have hgn : (L.dv f).ownBlock ≠ some (L.g f) := fun e => by have h1 := h.ld f hf _ e; have h2 := h.lg f hf; omega
  have hvn : v'.ownBlock ≠ some (L.g f) := fun e => by
    rcases hloc with q | q
    · exact hgn (q.symm.trans e)
    · have := q _ e; omega
  have k := kept_row (id := id) g (h.ld f hf) o hp (h.lg f hf) (by omega)
  have ho := own_set o hvn hp
  have hfile : w'.heap[L.g f]? = some (.cells #[L.nv f, v'] 64 (0, 0)) := by
    have e1 : w1.heap[L.g f]? = some (.cells #[L.nv f, L.dv f] 64 (0, 0)) := (g.block _ hgl (fun e => hgn e.symm)).trans (h.file f hf)
    rw [hp.heap, set_heap e1]; rfl
  refine ⟨h.turn k ⟨h.ok.now, fun i => ?_, h.ok.pend, h.ok.few, h.ok.lost, h.ok.calls, h.ok.keep, h.ok.size⟩ rfl rfl rfl rfl (.inl ⟨by omega, by omega, rfl, rfl, rfl, rfl, rfl⟩) (by omega) (.inl ⟨by omega, by omega, rfl⟩) (.inl ⟨by omega, by omega, rfl, rfl⟩) (.inl ⟨by omega, by omega, rfl, rfl⟩) (fun i hi => ?_) (fun i hi => .inl ⟨by omega, by omega, rfl, rfl⟩) (fun i hi => ?_), k.chg (by omega) (by omega)⟩
  · by_cases hi : i = f
    · subst hi; simp only [upd_same]; exact hr
    · simp only [upd_other _ _ hi]; exact h.ok.dur i
  · by_cases he : i = f
    · subst he; simp only [upd_same]; exact .inr hfile
    · exact .inl ⟨by omega, by omega, rfl, upd_other _ _ he⟩
  · by_cases he : i = f
    · subst he; simp only [upd_same]; exact .inr ⟨ho, relab_own (fun j hj => ((h.dur i hf).lt j hj).2) (h.ld i hf) hloc⟩
    · exact .inl ⟨by omega, by omega, upd_other _ _ he, upd_other _ _ he⟩

theorem DiskIn.setNow (h : DiskIn w lab id b D mk L) {f : Nat} (hf : f < 16) {v' : Value} {r : List UInt8} (hr : r.length ≤ 16777216) (g : w.grownBy w1 (L.nv f).ownBlock) (o : w1.ownsRow 0 5 1 v' r.length (byteVs r))
    (hloc : v'.ownBlock = (L.nv f).ownBlock ∨ ∀ k, v'.ownBlock = some k → w.heap.size ≤ k) (hp : Hp (w1.setCell ⟨L.g f, 0, none⟩ v') w') :
    DiskIn w' (relab lab w v' (id + 21 + f)) id b { D with now := upd D.now f r } mk { L with nv := upd L.nv f v' } ∧ Chg id lab (relab lab w v' (id + 21 + f)) w w' := by
  have hgl := lt_heap (h.file f hf)
  have hgn : (L.nv f).ownBlock ≠ some (L.g f) := fun e => by have h1 := h.ln f hf _ e; have h2 := h.lg f hf; omega
  have hvn : v'.ownBlock ≠ some (L.g f) := fun e => by
    rcases hloc with q | q
    · exact hgn (q.symm.trans e)
    · have := q _ e; omega
  have k := kept_row (id := id) g (h.ln f hf) o hp (h.lg f hf) (by omega)
  have ho := own_set o hvn hp
  have hfile : w'.heap[L.g f]? = some (.cells #[v', L.dv f] 64 (0, 0)) := by
    have e1 : w1.heap[L.g f]? = some (.cells #[L.nv f, L.dv f] 64 (0, 0)) := (g.block _ hgl (fun e => hgn e.symm)).trans (h.file f hf)
    rw [hp.heap, set_heap e1]; rfl
  refine ⟨h.turn k ⟨fun i => ?_, h.ok.dur, h.ok.pend, h.ok.few, h.ok.lost, h.ok.calls, h.ok.keep, h.ok.size⟩ rfl rfl rfl rfl (.inl ⟨by omega, by omega, rfl, rfl, rfl, rfl, rfl⟩) (by omega) (.inl ⟨by omega, by omega, rfl⟩) (.inl ⟨by omega, by omega, rfl, rfl⟩) (.inl ⟨by omega, by omega, rfl, rfl⟩) (fun i hi => ?_) (fun i hi => ?_) (fun i hi => .inl ⟨by omega, by omega, rfl, rfl⟩), k.chg (by omega) (by omega)⟩
  · by_cases hi : i = f
    · subst hi; simp only [upd_same]; exact hr
    · simp only [upd_other _ _ hi]; exact h.ok.now i
  · by_cases he : i = f
    · subst he; simp only [upd_same]; exact .inr hfile
    · exact .inl ⟨by omega, by omega, upd_other _ _ he, rfl⟩
  · by_cases he : i = f
    · subst he; simp only [upd_same]; exact .inr ⟨ho, relab_own (fun j hj => ((h.now i hf).lt j hj).2) (h.ln i hf) hloc⟩
    · exact .inl ⟨by omega, by omega, upd_other _ _ he, upd_other _ _ he⟩

theorem DiskIn.setPend (h : DiskIn w lab id b D mk L) {v' : Value} {ps : List (Nat × Nat)} (hn : ps.Nodup) (hf : ∀ p ∈ ps, p.1 < 16 ∧ p.2 < 262144) (g : w.grownBy w1 L.pv.ownBlock) (o : w1.ownsRow 0 81 2 v' ps.length (secVs ps))
    (hloc : v'.ownBlock = L.pv.ownBlock ∨ ∀ k, v'.ownBlock = some k → w.heap.size ≤ k) (hp : Hp (w1.setCell ⟨b, 1, none⟩ v') w') :
    DiskIn w' (relab lab w v' (id + 3)) id b { D with pend := ps } mk { L with pv := v' } ∧ Chg id lab (relab lab w v' (id + 3)) w w' := by
  have hgl := h.blt
  have hgn : L.pv.ownBlock ≠ some b := fun e => by have h1 := h.lp _ e; have h2 := h.lb; omega
  have hvn : v'.ownBlock ≠ some b := fun e => by
    rcases hloc with q | q
    · exact hgn (q.symm.trans e)
    · have := q _ e; omega
  have k := kept_row (id := id) g h.lp o hp h.lb (by omega)
  have ho := own_set o hvn hp
  refine ⟨h.turn k ⟨h.ok.now, h.ok.dur, hn, hf, h.ok.lost, h.ok.calls, h.ok.keep, h.ok.size⟩ rfl rfl rfl rfl (.inr ?_) (by omega) (.inl ⟨by omega, by omega, rfl⟩) (.inr ⟨ho, relab_own (fun j hj => (h.pend.lt j hj).2) h.lp hloc⟩) (.inl ⟨by omega, by omega, rfl, rfl⟩) (fun i hi => .inl ⟨by omega, by omega, rfl, rfl⟩) (fun i hi => .inl ⟨by omega, by omega, rfl, rfl⟩) (fun i hi => .inl ⟨by omega, by omega, rfl, rfl⟩), k.chg (by omega) (by omega)⟩
  have e1 := (g.block _ hgl (fun e => hgn e.symm)).trans h.blk
  rw [hp.heap, set_heap e1]; rfl

theorem DiskIn.setKeep (h : DiskIn w lab id b D mk L) {v' : Value} {ks : List Int} (hk : ∀ z ∈ ks, I64 z) (hs : (ks.length : Int) ≤ 140737488355327) (g : w.grownBy w1 L.kv.ownBlock) (o : w1.ownsRow 0 3 1 v' ks.length (intVs ks))
    (hloc : v'.ownBlock = L.kv.ownBlock ∨ ∀ k, v'.ownBlock = some k → w.heap.size ≤ k) (hp : Hp (w1.setCell ⟨b, 6, none⟩ v') w') :
    DiskIn w' (relab lab w v' (id + 4)) id b { D with keep := ks } mk { L with kv := v' } ∧ Chg id lab (relab lab w v' (id + 4)) w w' := by
  have hgl := h.blt
  have hgn : L.kv.ownBlock ≠ some b := fun e => by have h1 := h.lk _ e; have h2 := h.lb; omega
  have hvn : v'.ownBlock ≠ some b := fun e => by
    rcases hloc with q | q
    · exact hgn (q.symm.trans e)
    · have := q _ e; omega
  have k := kept_row (id := id) g h.lk o hp h.lb (by omega)
  have ho := own_set o hvn hp
  refine ⟨h.turn k ⟨h.ok.now, h.ok.dur, h.ok.pend, h.ok.few, h.ok.lost, h.ok.calls, hk, hs⟩ rfl rfl rfl rfl (.inr ?_) (by omega) (.inl ⟨by omega, by omega, rfl⟩) (.inl ⟨by omega, by omega, rfl, rfl⟩) (.inr ⟨ho, relab_own (fun j hj => (h.keep.lt j hj).2) h.lk hloc⟩) (fun i hi => .inl ⟨by omega, by omega, rfl, rfl⟩) (fun i hi => .inl ⟨by omega, by omega, rfl, rfl⟩) (fun i hi => .inl ⟨by omega, by omega, rfl, rfl⟩), k.chg (by omega) (by omega)⟩
  have e1 := (g.block _ hgl (fun e => hgn e.symm)).trans h.blk
  rw [hp.heap, set_heap e1]; rfl

/-- A field of the disk itself is stored. -/
theorem kept_set {p i : Nat} {v : Value} {c : Nat} (lo : LabOk lab w) (hlp : lab p = c) (hp : Hp (w.setCell ⟨p, i, none⟩ v) w') : Kept w w' lab lab id c c where
  os := hp.os
  tape := hp.tape
  output := hp.output
  size := by rw [hp.heap, set_size]; exact Nat.le_refl _
  labs x _ := rfl
  block x hx h1 _ := by rw [hp.heap, set_other (fun h => h1 (by rw [h]; exact hlp))]
  fresh x hx := .inl (lo x hx)
theorem DiskIn.setField (h : DiskIn w lab id b D mk L) {D' : Dk} {i : Nat} {v : Value} (hp : Hp (w.setCell ⟨b, i, none⟩ v) w') (ok : D'.Ok) (hn : D'.now = D.now) (hd : D'.dur = D.dur) (hpe : D'.pend = D.pend) (hk : D'.keep = D.keep)
    (hc : (#[.map (some L.fm), L.pv, .map (some L.mm), .bool D.down, .int .i64 (D.lost : Int), .int .i64 (D.calls : Int), L.kv] : Array Value).setIfInBounds i v = #[.map (some L.fm), L.pv, .map (some L.mm), .bool D'.down, .int .i64 (D'.lost : Int), .int .i64 (D'.calls : Int), L.kv]) :
    DiskIn w' lab id b D' mk L ∧ Chg id lab lab w w' := by
  have k := kept_set (id := id) h.lo h.lb hp
  have h6 := h.id64
  refine ⟨h.turn k ok rfl rfl rfl rfl (.inr ?_) (by omega) (.inl ⟨by omega, by omega, rfl⟩) (.inl ⟨by omega, by omega, rfl, hpe⟩) (.inl ⟨by omega, by omega, rfl, hk⟩) (fun i hi => .inl ⟨by omega, by omega, rfl, rfl⟩) (fun i hi => .inl ⟨by omega, by omega, rfl, by rw [hn]⟩) (fun i hi => .inl ⟨by omega, by omega, rfl, by rw [hd]⟩), k.chg (by omega) (by omega)⟩
  rw [hp.heap, set_heap h.blk, hc]

/-- The set of marked sectors is written. -/
theorem DiskIn.setMarks (h : DiskIn w lab id b D mk L) {mk' : List (Nat × Nat)} (g : w.grownBy w1 (some L.mm)) (hp : Hp w1 w') (m : MapIs Tryz.prog w1 81 L.mm mk'.length (markMap mk')) :
    DiskIn w' lab id b D mk' L ∧ Chg id lab lab w w' := by
  have k : Kept w w' lab lab id (id + 2) (id + 2) := {
    os := hp.os.trans g.os
    tape := hp.tape.trans g.tape
    output := hp.output.trans g.output
    size := by rw [hp.heap]; exact g.size
    labs := fun _ _ => rfl
    block := fun x hx h1 _ => by rw [hp.heap]; exact g.block x hx (fun e => h1 (by cases e; exact h.lm))
    fresh := fun x hx => .inl (h.lo x hx) }
  exact ⟨h.turn k h.ok rfl rfl rfl rfl (.inl ⟨by omega, by omega, rfl, rfl, rfl, rfl, rfl⟩) (by omega) (.inr (m.block (by rw [hp.heap]))) (.inl ⟨by omega, by omega, rfl, rfl⟩) (.inl ⟨by omega, by omega, rfl, rfl⟩) (fun i hi => .inl ⟨by omega, by omega, rfl, rfl⟩) (fun i hi => .inl ⟨by omega, by omega, rfl, rfl⟩) (fun i hi => .inl ⟨by omega, by omega, rfl, rfl⟩), k.chg (by omega) (by omega)⟩

theorem upd_self {α : Type} (g : Nat → α) (f : Nat) : upd g f (g f) = g := by funext i; unfold upd; split <;> simp_all
end

/-- harden, of a disk. -/
def HardenPost (lab : Nat → Nat) (id b : Nat) (D' : Dk) (mk : List (Nat × Nat)) (L : Loc) (w : World) (e : Ending) (w' : World) : Prop :=
  e = .returned (.tuple #[]) ∧ ∃ lab' dv, DiskIn w' lab' id b D' mk { L with dv := dv } ∧ Chg id lab lab' w w'

theorem sec_length (s : List UInt8) (n : Nat) : (sec s n).length = min 64 (s.length - 64 * n) := by simp [sec]

theorem harden_any {w : World} {lab : Nat → Nat} {id b : Nat} {D : Dk} {mk : List (Nat × Nat)} {L : Loc} (h : DiskIn w lab id b D mk L) {f n : Nat} (hf : f < 16) (hn : 64 * n < (D.now f).length) :
    Calls Tryz.prog 45 #[.pointer (some ⟨L.g f, 0, none⟩), .int .i64 (n : Int)] w (HardenPost lab id b (D.harden (f, n)) mk L w) := by
  obtain ⟨gn, cap, hv, hcap⟩ : ∃ gn cap, L.nv f = .slice (some ⟨gn, 0, none⟩) (D.now f).length cap ∧ (D.now f).length ≤ cap := by
    rcases (h.now f hf).2 with ⟨_, h0⟩ | ⟨g, cap, cur, hv, _, _, hc, _⟩
    · omega
    · exact ⟨g, cap, hv, hc⟩
  have hon := h.now f hf
  rw [hv] at hon
  have hnb : (L.nv f).ownBlock = some gn := by rw [hv]; rfl
  have c0 := h.fc hf 0
  have c1 := h.fc hf 1
  simp only [List.getElem?_toArray, List.getElem?_cons_zero, List.getElem?_cons_succ] at c0 c1
  rw [hv] at c0
  refine (harden_low (L.g f) gn cap (L.dv f) (D.now f) (D.dur f) n _ w c0 c1 (h.ffz hf 1) hon (h.dur f hf) hn (h.ok.now f) (h.ok.dur f) (fun e => ?_) (fun e => ?_) hcap rfl).mono ?_
  · have h1 := h.ld f hf _ e; have h2 := h.ln f hf _ hnb; omega
  · have h1 := h.ld f hf _ e; have h2 := h.lg f hf; omega
  · rintro e w' ⟨rfl, v', w1, o, g, hl, hp⟩
    have hr : (putL (D.dur f) (64 * n) (sec (D.now f) n)).length ≤ 16777216 := by
      rw [putL_length, sec_length]; have := h.ok.dur f; have := h.ok.now f; omega
    have := h.setDur hf hr g o hl hp
    exact ⟨rfl, _, _, this.1, this.2⟩
end Go.Proofs.YtjbcgahdiolhhaaGreatDoor.D2
namespace Go.Proofs.YtjbcgahdiolhhaaGreatDoor.D2
open Go.RowKit Go.Maps Go.ChangeMaps Go.MapKept
open Dp
attribute [local go_sem ↓] Go.wp_at_zero Go.wp_at_succ

theorem set_comm {w : World} {b o p : Nat} (u v : Value) (h : o ≠ p) : ((w.setCell ⟨b, o, none⟩ u).setCell ⟨b, p, none⟩ v).heap = ((w.setCell ⟨b, p, none⟩ v).setCell ⟨b, o, none⟩ u).heap := by
  apply Array.ext_getElem?
  intro i
  by_cases hb : b = i
  · subst hb
    cases hh : w.heap[b]? with
    | none => simp [World.setCell, Array.getElem?_modify, hh]
    | some ob => cases ob <;> simp [World.setCell, Array.getElem?_modify, hh, Array.setIfInBounds_comm _ _ h]
  · simp [World.setCell, Array.getElem?_modify, hb]
section
variable {w : World} {lab : Nat → Nat} {id b : Nat} {D : Dk} {mk : List (Nat × Nat)} {L : Loc}

/-- A field has been stored. -/
def FieldPost (lab : Nat → Nat) (id b : Nat) (D' : Dk) (mk : List (Nat × Nat)) (L : Loc) (w : World) (e : Ending) (w' : World) : Prop :=
  e = .returned (.tuple #[]) ∧ DiskIn w' lab id b D' mk L ∧ Chg id lab lab w w'

set_option maxRecDepth 100000 in
theorem start_any (h : DiskIn w lab id b D mk L) : Calls Tryz.prog 22 #[.pointer (some ⟨b, 0, none⟩)] w (FieldPost lab id b D.start mk L w) := by
  have c3 := h.c 3
  have f3 := h.fz 3
  have H := Lib.hid h
  simp only [List.getElem?_toArray, List.getElem?_cons_zero, List.getElem?_cons_succ] at c3
  clear h
  go_enter Tryz.func22, Tryz.ntmps22
  go_wp2
  go_end0
  have h := H.out
  exact ⟨rfl, h.setField (Hp.refl _) ⟨h.ok.now, h.ok.dur, h.ok.pend, h.ok.few, h.ok.lost, h.ok.calls, h.ok.keep, h.ok.size⟩ rfl rfl rfl rfl rfl⟩

set_option maxRecDepth 100000 in
theorem lose_any (h : DiskIn w lab id b D mk L) (n : Int) (hn : I64 n) : Calls Tryz.prog 16 #[.pointer (some ⟨b, 0, none⟩), .int .i64 n] w (FieldPost lab id b (D.lose n) mk L w) := by
  have c4 := h.c 4
  have f4 := h.fz 4
  have H := Lib.hid h
  have hok : (D.lose n).Ok := ⟨h.ok.now, h.ok.dur, h.ok.pend, h.ok.few, by have h1 : n ≤ 9223372036854775807 := hn.2; have h2 : (D.lose n).lost = n.toNat := rfl; rw [h2]; omega, h.ok.calls, h.ok.keep, h.ok.size⟩
  have HO := Lib.hid hok
  simp only [List.getElem?_toArray, List.getElem?_cons_zero, List.getElem?_cons_succ] at c4
  obtain ⟨m, hm, hmn⟩ : ∃ m : Nat, max n 0 = (m : Int) ∧ n.toNat = m := ⟨n.toNat, by omega, rfl⟩
  have HM := Lib.hid hmn
  clear h hn hok hmn
  go_enter Tryz.func16, Tryz.ntmps16
  go_wp2
  go_end0
  have h := H.out
  exact ⟨rfl, h.setField (Hp.refl _) HO.out rfl rfl rfl rfl (by show _ = #[.map (some L.fm), L.pv, .map (some L.mm), .bool D.down, .int .i64 (n.toNat : Int), .int .i64 (D.calls : Int), L.kv]; rw [HM.out]; rfl)⟩

theorem isFile_true {f : Int} (h : isFile f = true) : 0 ≤ f ∧ f < 16 := by simpa [isFile] using h
theorem isFile_false {f : Int} (h : isFile f = false) : ¬ (0 ≤ f ∧ f < 16) := by simpa [isFile] using h

set_option maxRecDepth 100000 in
theorem size_any (h : DiskIn w lab id b D mk L) (f : Int) (hf : I64 f) : Calls Tryz.prog 27 #[.pointer (some ⟨b, 0, none⟩), .int .i64 f] w fun e w' => e = .returned (.int .i64 (D.size f : Int)) ∧ w = w' := by
  have c0 := h.c 0
  simp only [List.getElem?_toArray, List.getElem?_cons_zero] at c0
  have hl := h.lookF hf
  cases hi : isFile f with
  | false =>
    rw [if_neg (isFile_false hi)] at hl
    have hs : D.size f = 0 := by simp [Dk.size, hi]
    rw [hs]
    clear h hi hs
    go_enter Tryz.func27, Tryz.ntmps27
    go_wp2
    go_ret
    exact ⟨rfl, rfl⟩
  | true =>
    rw [if_pos (isFile_true hi)] at hl
    have hs : D.size f = (D.now f.toNat).length := by simp [Dk.size, hi]
    rw [hs]
    have hf := isFile_true hi
    have c1 := h.fc (f := f.toNat) (by omega) 0
    simp only [List.getElem?_toArray, List.getElem?_cons_zero] at c1
    obtain ⟨a, c, hv⟩ := own_form (h.now f.toNat (by omega))
    rw [hv] at c1
    clear h hi hs hv
    go_enter Tryz.func27, Tryz.ntmps27
    go_wp2
    go_ret
    exact ⟨rfl, rfl⟩

/-! ### Arm -/
set_option maxHeartbeats 1000000 in
set_option maxRecDepth 100000 in
theorem arm_any (h : DiskIn w lab id b D mk L) (n : Int) (hn : I64 n) (v : Value) (ks : List Int) (hs : SrcIs w 1 v ks.length (intVs ks)) (hk : ∀ z ∈ ks, I64 z) (hl : ks.length ≤ 1000000) :
    Calls Tryz.prog 18 #[.pointer (some ⟨b, 0, none⟩), .int .i64 n, v] w fun e w' => e = .returned (.tuple #[]) ∧ ∃ lab' L', DiskIn w' lab' id b (D.arm n ks) mk L' ∧ Chg id lab lab' w w' := by
  obtain ⟨m, hm, hmn⟩ : ∃ m : Nat, max n 0 = (m : Int) ∧ n.toNat = m := ⟨n.toNat, by omega, rfl⟩
  have hok : ({ D with calls := m } : Dk).Ok := ⟨h.ok.now, h.ok.dur, h.ok.pend, h.ok.few, h.ok.lost, by have h1 : n ≤ 9223372036854775807 := hn.2; have h2 : ({ D with calls := m } : Dk).calls = m := rfl; rw [h2]; omega, h.ok.keep, h.ok.size⟩
  have HM := Lib.hid hmn
  have HO := Lib.hid hok
  have H := Lib.hid h
  have HS := Lib.hid hs
  have HK := Lib.hid hk
  clear h hn hok hs hk hmn
  go_enter Tryz.func18, Tryz.ntmps18
  go_wp2_with (go_at_call 44; refine (cloneI v ks.length (intVs ks) _ HS.out (by omega)).mono ?_; rintro e w1 ⟨v', rfl, fr, b1⟩; refine Hid.out ?_)
  refine Lib.hid ?_
  have h1 := H.out.fresh b1
  have c5 := h1.c 5
  have f5 := h1.fz 5
  have f6 := h1.fz 6
  simp only [List.getElem?_toArray, List.getElem?_cons_zero, List.getElem?_cons_succ] at c5
  obtain ⟨h2, k2⟩ := h1.setField (i := 5) (v := .int .i64 (m : Int)) (Hp.refl _) HO.out rfl rfl rfl rfl rfl
  have c6 := h2.c 6
  simp only [List.getElem?_toArray, List.getElem?_cons_zero, List.getElem?_cons_succ] at c6
  have H2 := Lib.hid h2
  have K2 := Lib.hid k2
  have FR := Lib.hid fr
  have B1 := Lib.hid b1
  obtain ⟨va, vc, rfl⟩ := own_form fr.1
  clear h1 h2 k2 fr b1
  go_wp2
  go_end0
  have h := H.out
  obtain ⟨h2, k2⟩ := h.setKeep (w1 := w1) (v' := .slice va ks.length vc) HK.out (by omega) ⟨B1.out.os, B1.out.tape, B1.out.output, B1.out.size, fun k hk _ => B1.out.block k hk⟩ FR.out.1 (.inr FR.out.2) (Hp.refl _)
  obtain ⟨h3, k3⟩ := h2.setField (D' := D.arm n ks) (i := 5) (v := .int .i64 (m : Int)) (w' := (w1.setCell ⟨b, 5, none⟩ (.int .i64 (m : Int))).setCell ⟨b, 6, none⟩ (.slice va ks.length vc)) ⟨set_comm (o := 5) (p := 6) _ _ (by omega), rfl, rfl, rfl⟩
    ⟨h2.ok.now, h2.ok.dur, h2.ok.pend, h2.ok.few, h2.ok.lost, by show ((n.toNat : Nat) : Int) ≤ _; rw [HM.out]; exact HO.out.calls, h2.ok.keep, h2.ok.size⟩ rfl rfl rfl rfl (by show _ = #[.map (some L.fm), L.pv, .map (some L.mm), .bool D.down, .int .i64 (D.lost : Int), .int .i64 (n.toNat : Int), .slice va ks.length vc]; rw [HM.out]; rfl)
  exact ⟨rfl, _, _, h3, k2.trans k3⟩
end
end Go.Proofs.YtjbcgahdiolhhaaGreatDoor.D2
namespace Go.Proofs.YtjbcgahdiolhhaaGreatDoor.D2
open Go.RowKit Go.Maps Go.ChangeMaps Go.MapKept
open Dp

section
variable {P : Program} {ops : Array Oper} {rest : List Oper} {o : Oper} {a : Act} {w : World} {K : Act → World → Prop} {Q : Exit → Act → World → Prop} {E : Prop}
theorem step_append_run (hgd : o.guard = none) (s x : Operand) (t tn : TypeId) (ho : o.op = .call { callee := .builtin .append, args := #[s, x], argTypes := #[t, tn] }) (vs vx : Value) (hs : a.eval s = vs) (hx : a.eval x = vx)
    (v' : Value) (w' : World) (hr : (Builtin.append_ #[t, tn] o.type #[vs, vx]).run P w = .ok v' w') (h : K (a.put o.dst v') w') : if Region.wanted o (yielded ops a.tmps) = true then Oper.wp P o a w K Q else E := by
  have hw : Region.wanted o (yielded ops a.tmps) = true := by simp [Region.wanted, hgd]
  rw [if_pos hw]
  exact Lib.wp_append_run w s x t tn ho vs vx hs hx v' w' hr h
theorem step_delete_run (hgd : o.guard = none) (s x : Operand) (t tn : TypeId) (ho : o.op = .call { callee := .builtin .delete, args := #[s, x], argTypes := #[t, tn] }) (vs vx : Value) (hs : a.eval s = vs) (hx : a.eval x = vx)
    (w' : World) (hr : (Builtin.delete_ #[t, tn] o.type #[vs, vx]).run P w = .ok (.tuple #[]) w') (h : K (a.put o.dst (.tuple #[])) w') : if Region.wanted o (yielded ops a.tmps) = true then Oper.wp P o a w K Q else E := by
  have hw : Region.wanted o (yielded ops a.tmps) = true := by simp [Region.wanted, hgd]
  rw [if_pos hw]
  unfold Oper.wp
  simp [execOp, ho, resolve, invoke, builtin, hs, hx, hr, Result.andThen]
  exact h
theorem wpList_clear_run (hgd : o.guard = none) (s : Operand) (t : TypeId) (ho : o.op = .call { callee := .builtin .clear, args := #[s], argTypes := #[t] }) (vs : Value) (hs : a.eval s = vs)
    (w' : World) (hr : (Builtin.clear_ #[t] o.type #[vs]).run P w = .ok (.tuple #[]) w') (h : wpList P ops Q rest (a.put o.dst (.tuple #[])) w') : wpList P ops Q (o :: rest) a w := by
  refine wpList_plain hgd fun K hK => ?_
  unfold Oper.wp
  simp [execOp, ho, resolve, invoke, builtin, hs, hr, Result.andThen]
  exact hK _ _ h
end

theorem markMap_nil (kl : Lit) : markMap [] kl = none := by simp [markMap]
theorem own_zero {w : World} {e : TypeId} {size n c : Nat} {a : Option Addr} {xs : List Value} (h : w.ownsRow 0 e size (.slice a n c) n xs) : w.ownsRow 0 e size (.slice a 0 c) 0 [] := by
  refine ⟨by simp, ?_⟩
  rcases h.2 with ⟨h1, _⟩ | ⟨g, cap, cur, h1, h2, h3, h4, h5, h6, h7⟩
  · cases h1; exact .inl ⟨rfl, rfl⟩
  · cases h1; exact .inr ⟨g, c, cur, rfl, h2, h3, Nat.zero_le _, h5, h6, by simp⟩

/-- append of what another slice of bytes holds. -/
theorem run_append_bytes (w : World) (v u : Value) (n : Nat) (xs : List Value) (l : List UInt8) (hv : w.ownsRow 0 5 1 v n xs) (hu : w.ownsRow 0 5 1 u l.length (byteVs l)) (hn : n + l.length ≤ 140737488355328) :
    ∃ v' w', (Builtin.append_ #[62, 62] 62 #[v, u]).run Tryz.prog w = .ok v' w' ∧ w'.ownsRow 0 5 1 v' (n + l.length) (xs ++ byteVs l) ∧ w.grownBy w' v.ownBlock ∧ (v'.ownBlock = v.ownBlock ∨ ∀ k, v'.ownBlock = some k → w.heap.size ≤ k) := by
  obtain ⟨i0, hi, hz0, hz1, hz2⟩ := info_parts byte_info
  rcases hu.2 with ⟨rfl, h0⟩ | ⟨g, cap, cur, hv', _⟩
  · obtain rfl : l = [] := List.eq_nil_of_length_eq_zero h0
    obtain ⟨a, c, rfl⟩ := own_form hv
    have hnc : n ≤ c := by
      rcases hv.2 with ⟨h1, h2⟩ | ⟨g, cap, cur, h1, _, _, h4, _⟩
      · omega
      · cases h1; exact h4
    refine ⟨_, w, run_append_nothing w _ _ _ _ i0 Tryz.underlying62 hi a n c hnc _ (Src.ofNil (w := w) Tryz.underlying62 0), by simpa [byteVs] using hv, ⟨rfl, rfl, rfl, Nat.le_refl _, fun _ _ _ => rfl⟩, .inl rfl⟩
  · subst hv'
    obtain ⟨v', w', h1, h2, h3, _, h5⟩ := run_append_own_at (P := Tryz.prog) w 0 62 62 5 i0 (.int .u8 0) 1 1 Tryz.underlying62 hi hz0 hz1 hz2 rfl (by decide) v n xs hv ⟨g, 0, none⟩ l.length cap (byteVs l) (by rw [byteVs_length]; omega) (fun j u hj => hu.cells (g := g) rfl j u hj) (oneCell_bytes l) (by unfold maxLen; omega) (by omega) (Nat.zero_le _)
    exact ⟨v', w', h1, h2, h3, h5.imp id fun h k hk => by rw [h] at hk; cases hk; exact Nat.le_refl _⟩
theorem run_append_bytes0 (w : World) (v u : Value) (l : List UInt8) (hv : w.ownsRow 0 5 1 v 0 []) (hu : w.ownsRow 0 5 1 u l.length (byteVs l)) (hn : l.length ≤ 140737488355328) :
    ∃ v' w', (Builtin.append_ #[62, 62] 62 #[v, u]).run Tryz.prog w = .ok v' w' ∧ w'.ownsRow 0 5 1 v' l.length (byteVs l) ∧ w.grownBy w' v.ownBlock ∧ (v'.ownBlock = v.ownBlock ∨ ∀ k, v'.ownBlock = some k → w.heap.size ≤ k) := by
  have := run_append_bytes w v u 0 [] l hv hu (by omega)
  rwa [Nat.zero_add, List.nil_append] at this
end Go.Proofs.YtjbcgahdiolhhaaGreatDoor.D2
namespace Go.Proofs.YtjbcgahdiolhhaaGreatDoor.D2
open Go.RowKit Go.Maps Go.ChangeMaps Go.MapKept
open Dp
attribute [local go_sem ↓] Go.wp_at_zero Go.wp_at_succ

/-! ### Plain -/
theorem hardens_keeps (ps : List (Nat × Nat)) : ∀ D : Dk, (hardens D ps).now = D.now ∧ (hardens D ps).pend = D.pend ∧ (hardens D ps).down = D.down ∧ (hardens D ps).lost = D.lost ∧ (hardens D ps).calls = D.calls ∧ (hardens D ps).keep = D.keep := by
  induction ps with
  | nil => intro D; exact ⟨rfl, rfl, rfl, rfl, rfl, rfl⟩
  | cons p ps ih => intro D; exact ih (D.harden p)
theorem hardens_snoc (D : Dk) (ps : List (Nat × Nat)) (p : Nat × Nat) : hardens D (ps ++ [p]) = (hardens D ps).harden p := by simp [hardens, List.foldl_append]
theorem survive_append (ks : List Int) (qs : List (Nat × Nat)) : ∀ (ps : List (Nat × Nat)) (i : Nat), survive ks i (ps ++ qs) = survive ks i ps ++ survive ks (i + ps.length) qs := by
  intro ps
  induction ps with
  | nil => intro i; simp [survive]
  | cons p ps ih => intro i; simp [survive, ih, Nat.add_assoc, Nat.add_comm 1]
theorem survive_take (ks : List Int) (ps : List (Nat × Nat)) {k : Nat} {p : Nat × Nat} (h : ps[k]? = some p) : survive ks 0 (ps.take (k + 1)) = survive ks 0 (ps.take k) ++ (if odd ks k then [p] else []) := by
  obtain ⟨hk, rfl⟩ := List.getElem?_eq_some_iff.1 h
  rw [List.take_succ_eq_append_getElem hk, survive_append]
  simp [survive, Nat.min_eq_left (Nat.le_of_lt hk)]

theorem nodup_le : ∀ (n : Nat) (l : List Nat), l.Nodup → (∀ x ∈ l, x < n) → l.length ≤ n
  | 0, l, _, h => by cases l with | nil => simp | cons a l => exact absurd (h a (by simp)) (by omega)
  | n + 1, l, hn, h => by
    have h1 := nodup_le n (l.erase n) (hn.erase n) (fun x hx => by
      have h2 := h x (List.mem_of_mem_erase hx)
      have h3 : x ≠ n := fun e => by subst e; exact (hn.not_mem_erase) hx
      omega)
    have h4 := List.length_erase (a := n) (l := l)
    split at h4 <;> omega
theorem pend_len {D : Dk} (h : D.Ok) : D.pend.length ≤ 4194304 := by
  have := nodup_le 4194304 (D.pend.map fun p => p.1 * 262144 + p.2) ?_ ?_
  · simpa using this
  · refine List.pairwise_map.2 (h.pend.imp_of_mem ?_)
    intro p q hp hq hne he
    have h1 := h.few p hp
    have h2 := h.few q hq
    exact hne (Prod.ext (by omega) (by omega))
  · intro x hx
    obtain ⟨p, hp, rfl⟩ := List.mem_map.1 hx
    have := h.few p hp
    omega

/-! ### The keep list -/
def KeepOk (w : World) (lab : Nat → Nat) (id : Nat) (D : Dk) (L : Loc) (v : Value) (ks : List Int) : Prop :=
  SrcIs w 1 v ks.length (intVs ks) ∧ ((v = L.kv ∧ ks = D.keep) ∨ ∀ ad n c, v = .slice (some ad) n c → 0 < n → (lab ad.block < id ∨ id + 64 ≤ lab ad.block))
theorem KeepOk.src {w wr : World} {lab lab' : Nat → Nat} {id b : Nat} {D D' : Dk} {L L' : Loc} {mk' : List (Nat × Nat)} {v : Value} {ks : List Int} (h : KeepOk w lab id D L v ks) (hd : DiskIn wr lab' id b D' mk' L') (hL : L'.kv = L.kv) (hk : D'.keep = D.keep) (hc : Chg id lab lab' w wr) :
    SrcIs wr 1 v ks.length (intVs ks) := by
  obtain ⟨⟨h1, h2⟩, h3⟩ := h
  rcases h3 with ⟨rfl, rfl⟩ | h3
  · have := SrcIs.of_own hd.keep (oneCell_ints _)
    rw [hL, hk] at this
    exact this
  · refine ⟨h1, ?_⟩
    rcases h2 with h2 | ⟨ad, cap, rfl, h4, h5⟩
    · exact .inl h2
    · refine .inr ⟨ad, cap, rfl, fun j u hj => ?_, h5⟩
      have h6 := h4 j u hj
      have hb : (ad.add j).block = ad.block := by cases ad; unfold Addr.add; split <;> rfl
      rw [World.cell?_of_block (w := w) (hc.block _ (Lib.lt_of_cell h6) (by rw [hb]; exact h3 ad _ _ rfl (by have := (List.getElem?_eq_some_iff.1 hj).1; rw [intVs_length] at this; omega)))]
      exact h6
/-- The element that decides. -/
theorem src_cell {w : World} {v : Value} {ks : List Int} (h : SrcIs w 1 v ks.length (intVs ks)) (hp : 0 < ks.length) : ∃ bk ok cap, v = .slice (some ⟨bk, ok, none⟩) ks.length cap ∧ ∀ j, j < ks.length → w.cell? ⟨bk, ok + j, none⟩ = some (.int .i64 (ks.getD j 0)) := by
  obtain ⟨h1, h2⟩ := h
  rcases h2 with ⟨_, h0⟩ | ⟨⟨bk, ok, sp⟩, cap, rfl, h4, _⟩
  · omega
  · have hc : ∀ j, j < ks.length → w.cell? ((⟨bk, ok, sp⟩ : Addr).add j) = some (.int .i64 (ks.getD j 0)) := fun j hj => h4 j _ (by simp [intVs, List.getElem?_eq_getElem hj, List.getD_eq_getElem?_getD])
    have hs : sp = none := by simpa [Addr.add] using World.cell?_spot (hc 0 hp)
    subst hs
    exact ⟨bk, ok, cap, rfl, fun j hj => by have := hc j hj; rw [Lib.add_plain] at this; exact this⟩

/-! ### The first loop -/
def HardInv (lab : Nat → Nat) (id b : Nat) (D : Dk) (mk : List (Nat × Nat)) (L : Loc) (w : World) (ps : List (Nat × Nat)) (wr : World) : Prop :=
  ∃ lab' dv, DiskIn wr lab' id b (hardens D ps) mk { L with dv := dv } ∧ Chg id lab lab' w wr

section
variable {w : World} {lab : Nat → Nat} {id b : Nat} {D : Dk} {mk : List (Nat × Nat)} {L : Loc}
theorem HardInv.fresh {ps : List (Nat × Nat)} {wr w' : World} (h : HardInv lab id b D mk L w ps wr) (hb : Below wr.heap.size wr w') : HardInv lab id b D mk L w ps w' := by
  obtain ⟨lab', dv, h1, h2⟩ := h
  exact ⟨lab', dv, h1.fresh hb, h2.trans ⟨hb.os, hb.tape, hb.output, hb.size, fun _ _ => rfl, fun x hx _ => hb.block x hx, fun x hx => .inl (h1.lo x hx)⟩⟩

theorem sec_cell {w : World} {lab : Nat → Nat} {id b : Nat} {D : Dk} {mk : List (Nat × Nat)} {L : Loc} (h : DiskIn w lab id b D mk L) {k : Nat} {p : Nat × Nat} (hk : D.pend[k]? = some p) : ∃ pg cap, L.pv = .slice (some ⟨pg, 0, none⟩) D.pend.length cap ∧ w.cell? ⟨pg, k * 2, none⟩ = some (.int .i64 (p.1 : Int)) ∧ w.cell? ⟨pg, k * 2 + 1, none⟩ = some (.int .i64 (p.2 : Int)) := by
  obtain ⟨hkl, rfl⟩ := List.getElem?_eq_some_iff.1 hk
  have ho := h.pend
  rcases ho.2 with ⟨_, h0⟩ | ⟨pg, cap, cur, hv, _⟩
  · omega
  · rw [hv] at ho
    have hc := fun j u hj => ho.cells (g := pg) rfl j u hj
    have hs : ∀ (l : List (Nat × Nat)) (k : Nat) (p : Nat × Nat), l[k]? = some p → (secVs l)[k * 2]? = some (.int .i64 (p.1 : Int)) ∧ (secVs l)[k * 2 + 1]? = some (.int .i64 (p.2 : Int)) := by
      intro l
      induction l with
      | nil => intro k p h; simp at h
      | cons a l ih =>
        intro k p h
        cases k with
        | zero => simp at h; subst h; simp [secVs]
        | succ k =>
          have := ih k p (by simpa using h)
          have e1 : (k + 1) * 2 = k * 2 + 1 + 1 := by omega
          simpa [secVs, e1] using this
    have h2 := hs _ _ _ hk
    refine ⟨pg, cap, hv, ?_, ?_⟩
    · have := hc _ _ h2.1; rw [Lib.add_plain] at this; simpa using this
    · have := hc _ _ h2.2; rw [Lib.add_plain] at this; simpa using this

/-- What a call on the disk without results leaves. -/
def DiskPost (lab : Nat → Nat) (id b : Nat) (D' : Dk) (w : World) (e : Ending) (w' : World) : Prop :=
  e = .returned (.tuple #[]) ∧ ∃ lab' L', DiskIn w' lab' id b D' D'.pend L' ∧ Chg id lab lab' w w'

theorem crash_down (h : DiskIn w lab id b D mk L) (v : Value) (hd : D.down = true) : Calls Tryz.prog 20 #[.pointer (some ⟨b, 0, none⟩), v] w fun e w' => e = .returned (.tuple #[]) ∧ w = w' := by
  have c3 := h.c 3
  simp only [List.getElem?_toArray, List.getElem?_cons_zero, List.getElem?_cons_succ] at c3
  rw [hd] at c3
  clear h hd
  go_enter Tryz.func20, Tryz.ntmps20
  go_wp2
  (try simp only [Exit.inBlock, Exit.then])
  refine bodyPost_ret (results_none rfl _ _ _) rfl ?_
  exact ⟨rfl, rfl⟩

theorem Chg.of_drew {id : Nat} {lab lab' : Nat → Nat} {w w' : World} (h : Chg id lab lab' w.drew w') : Chg id lab lab' w w' := ⟨h.os, h.tape, h.output, h.size, h.labs, h.block, h.fresh⟩
theorem DiskIn.drew {w : World} {lab : Nat → Nat} {id b : Nat} {D : Dk} {mk : List (Nat × Nat)} {L : Loc} (h : DiskIn w lab id b D mk L) : DiskIn w.drew lab id b D mk L := h.fresh (Below.refl _ _).drew
theorem DiskIn.lookN {w : World} {lab : Nat → Nat} {id b : Nat} {D : Dk} {mk : List (Nat × Nat)} {L : Loc} (h : DiskIn w lab id b D mk L) {f : Nat} (hf : f < 16) :
    (Instr.lookup 56 (.map (some L.fm)) (.int .i64 (f : Int)) false).run Tryz.prog w = .ok (.pointer (some ⟨L.g f, 0, none⟩)) w := by
  rw [h.lookF (f := (f : Int)) ⟨by omega, by omega⟩, if_pos (by omega)]
  simp
theorem alloc_cell {w : World} {a : Addr} {v : Value} (h : w.cell? a = some v) (o : Obj) : (w.alloc o).cell? a = some v := (World.grownBy_alloc w o none).cell h (by simp)
theorem below_alloc (w : World) (o : Obj) : Below w.heap.size w (w.alloc o) := (Below.refl _ _).alloc (Nat.le_refl _) _

/-! ### The second loop -/
/-- The files of which the durable part has become the file. -/
def mixNow (D : Dk) (left : Lit → Bool) : Dk := { D with now := fun f => if f < 16 ∧ left (.int .i64 (f : Int)) = false then D.dur f else D.now f }
theorem mix_start (D : Dk) (g : Nat → Nat) : mixNow D (fun kl => (fileMap g kl).isSome) = D := by
  unfold mixNow
  have : (fun f : Nat => if f < 16 ∧ (fileMap g (.int .i64 (f : Int))).isSome = false then D.dur f else D.now f) = D.now := by
    funext f
    rw [if_neg]
    rintro ⟨h1, h2⟩
    simp [fileMap] at h2
    omega
  rw [this]
theorem mix_end (D : Dk) {left : Lit → Bool} (h : ∀ kl, left kl = false) : mixNow D left = { D with now := fun f => if f < 16 then D.dur f else D.now f } := by
  simp [mixNow, h]
theorem sameKey_int (x y : Int) : (Lit.int .i64 x).sameKey (.int .i64 y) = decide (x = y) := by
  by_cases h : x = y
  · subst h; simp [WideAt.sameKey_self (a := .int .i64 x) trivial]
  · rw [Maps.sameKey_ne (by simpa using h)]; simp [h]
theorem mix_step (D : Dk) (left : Lit → Bool) {f : Nat} (hf : f < 16) : mixNow D (fun z => left z && !z.sameKey (.int .i64 (f : Int))) = { mixNow D left with now := upd (mixNow D left).now f (D.dur f) } := by
  unfold mixNow
  congr 1
  funext i
  simp only [sameKey_int]
  by_cases h : i = f
  · subst h; simp [upd_same, hf]
  · rw [upd_other _ _ h]
    have : ¬ ((i : Int) = (f : Int)) := by omega
    simp [this]
theorem mix_keeps (D : Dk) (left : Lit → Bool) : (mixNow D left).dur = D.dur := rfl

theorem chg_iter {id : Nat} {lab lab' : Nat → Nat} {w wr w1 : World} {r : Nat} (h : Chg id lab lab' w wr) (g : wr.grownBy w1 (some r)) (hr : w.heap.size ≤ r) : Chg id lab lab' w w1 :=
  ⟨g.os.trans h.os, g.tape.trans h.tape, g.output.trans h.output, Nat.le_trans h.size g.size, h.labs, fun x hx hl => (g.block x (Nat.lt_of_lt_of_le hx h.size) (fun e => by cases e; omega)).trans (h.block x hx hl), h.fresh⟩
theorem file_of {g : Nat → Nat} {x : Int} {y : Nat} (h : fileMap g (.int .i64 x) = some (.pointer (some ⟨y, 0, none⟩))) : ∃ f : Nat, f < 16 ∧ x = (f : Int) ∧ y = g f := by
  simp only [fileMap] at h
  split at h
  · rename_i hx
    simp only [Option.some.injEq, Value.pointer.injEq, Addr.mk.injEq, and_true] at h
    exact ⟨x.toNat, by omega, by omega, h.symm⟩
  · cases h
theorem own_len (a : Option Addr) (n m c : Nat) : (Value.slice a n c).ownBlock = (Value.slice a m c).ownBlock := by cases a <;> rfl


def FilesInv (lab : Nat → Nat) (id b : Nat) (D : Dk) (mk : List (Nat × Nat)) (L : Loc) (w : World) (r : Nat) (left : Lit → Bool) (cnt : Nat) (wr : World) : Prop :=
  ∃ lab' nv, DiskIn wr lab' id b (mixNow D left) mk { L with nv := nv } ∧ Chg id lab lab' w wr ∧ RangeIs Tryz.prog wr 3 L.fm r L.fc (fileMap L.g) left cnt ∧ (∀ kl, left kl = true → (fileMap L.g kl).isSome = true) ∧ lab' r = 0 ∧ w.heap.size ≤ r

set_option maxHeartbeats 4000000 in
set_option maxRecDepth 100000 in
theorem crash_up (h : DiskIn w lab id b D D.pend L) (v : Value) (ks : List Int) (hk : KeepOk w lab id D L v ks) (hl : ks.length ≤ 140737488355327) (hd : D.down = false) (hin : D.In) :
    Calls Tryz.prog 20 #[.pointer (some ⟨b, 0, none⟩), v] w (DiskPost lab id b (D.crash ks) w) := by
  have c3 := h.c 3
  have c1 := h.c 1
  simp only [List.getElem?_toArray, List.getElem?_cons_zero, List.getElem?_cons_succ] at c3 c1
  rw [hd] at c3
  obtain ⟨pa, pc, hpv⟩ := own_form h.pend
  rw [hpv] at c1
  have H := Lib.hid h
  have HK := Lib.hid hk
  have HP := Lib.hid hpv
  have HD := Lib.hid hd
  have HI := Lib.hid hin
  have HC0 := Lib.hid (Chg.refl (id := id) h.lo)
  have hn : D.pend.length ≤ 4194304 := pend_len h.ok
  obtain ⟨va, vc, rfl⟩ : ∃ va vc, v = .slice va ks.length vc := by
    rcases hk.1.2 with ⟨rfl, h0⟩ | ⟨ad, cap, rfl, _⟩
    · exact ⟨none, 0, by rw [h0]⟩
    · exact ⟨_, _, rfl⟩
  clear h hk hpv hd hin
  go_enter Tryz.func20, Tryz.ntmps20
  go_wp2
  go_loopw [17] (fun i wr => ∃ k : Nat, k ≤ D.pend.length ∧ i = .int .i64 (k : Int) ∧ HardInv lab id b D D.pend L w (survive ks 0 (D.pend.take k)) wr) (fun i _ => D.pend.length - (intOf i).toNat)
  case atStart => exact ⟨0, Nat.zero_le _, rfl, lab, L.dv, H.out, HC0.out⟩
  case round =>
    obtain ⟨k, hkl, rfl, hinv⟩ := hrel
    have HINV := Lib.hid hinv
    clear hinv
    by_cases hlt : k < D.pend.length
    · obtain ⟨p, hp⟩ : ∃ p, D.pend[k]? = some p := ⟨_, List.getElem?_eq_getElem hlt⟩
      obtain ⟨lab1, dv1, h1, k1⟩ := HINV.out
      obtain ⟨pg, cap, hpv2, s0, s1⟩ := sec_cell (k := k) (p := p) h1 (by rw [(hardens_keeps _ D).2.1]; exact hp)
      rw [(hardens_keeps _ D).2.1] at hpv2
      have hpv3 := HP.out.symm.trans hpv2
      simp only [Value.slice.injEq, true_and] at hpv3
      obtain ⟨rfl, rfl⟩ := hpv3
      have hsrc := HK.out.src h1 rfl (hardens_keeps _ D).2.2.2.2.2 k1
      have HSRC := Lib.hid hsrc
      have HPP := Lib.hid hp
      clear h1 k1 hpv2 hsrc hp c1 c3
      by_cases ho : odd ks k = true
      · have h0 : 0 < ks.length := by simp [odd] at ho; exact ho.1
        have hz : ¬ ((ks.getD (k % ks.length) 0).tmod 2 = 0) := by simp only [odd, Bool.and_eq_true, decide_eq_true_eq] at ho; exact ho.2
        have HE := Lib.hid (show survive ks 0 (D.pend.take (k + 1)) = survive ks 0 (D.pend.take k) ++ [p] by rw [survive_take ks D.pend HPP.out, if_pos ho])
        obtain ⟨bk, ok, cap2, hv, hcell⟩ := src_cell HSRC.out (by omega)
        simp only [Value.slice.injEq, true_and] at hv
        obtain ⟨rfl, rfl⟩ := hv
        have hmod : k % ks.length < ks.length := Nat.mod_lt _ (by omega)
        have kc := hcell _ hmod
        generalize ks.getD (k % ks.length) 0 = z at kc hz
        generalize hq : k % ks.length = q at kc hmod
        have ht : (k : Int).tmod (ks.length : Int) = (q : Int) := by rw [← hq]; exact (Int.ofNat_tmod k ks.length).symm
        have kc2 := alloc_cell kc (.cells #[.int .i64 (p.1 : Int), .int .i64 (p.2 : Int)] 81)
        clear hcell hq kc ho
        have hp16 : p.1 < 16 := (H.out.ok.few p (List.mem_of_getElem? HPP.out)).1
        have hpn := HI.out p (List.mem_of_getElem? HPP.out)
        have HPN := Lib.hid hpn
        clear hpn
        go_wp2
        obtain ⟨lab2, dv2, h2, k2⟩ := HINV.out.fresh (below_alloc wr (.cells #[.int .i64 (p.1 : Int), .int .i64 (p.2 : Int)] 81))
        have a0 : (wr.alloc (.cells #[.int .i64 (p.1 : Int), .int .i64 (p.2 : Int)] 81)).cell? ⟨wr.heap.size, 0, none⟩ = some (.int .i64 (p.1 : Int)) := by simp
        have a1 : (wr.alloc (.cells #[.int .i64 (p.1 : Int), .int .i64 (p.2 : Int)] 81)).cell? ⟨wr.heap.size, 1, none⟩ = some (.int .i64 (p.2 : Int)) := by simp
        generalize wr.alloc (.cells #[.int .i64 (p.1 : Int), .int .i64 (p.2 : Int)] 81) = wa at h2 k2 a0 a1 kc2 ⊢
        have c0 := h2.c 0
        simp only [List.getElem?_toArray, List.getElem?_cons_zero] at c0
        have hl5 := h2.drew.lookN hp16
        have H2 := Lib.hid h2.drew
        have K2 := Lib.hid k2
        clear h2 k2 kc2 hz
        simp only at c0 hl5
        go_region_with (first | (go_at_call 45; refine (harden_any H2.out hp16 (by rw [(hardens_keeps _ D).1]; exact HPN.out)).mono ?_; rintro e w3 ⟨rfl, lab3, dv3, h3, k3⟩; have H3 := Lib.hid h3; have K3 := Lib.hid k3; clear h3 k3))
        all_goals
          go_wp2
          go_roundw
          case rel => exact ⟨k + 1, by omega, by go_num, lab3, dv3, by rw [HE.out, hardens_snoc]; exact H3.out, K2.out.trans K3.out.of_drew⟩
          case measure => simp [intOf]; omega
      · have HO := Lib.hid ho
        have HE := Lib.hid (show HardInv lab id b D D.pend L w (survive ks 0 (D.pend.take (k + 1))) wr by
          rw [survive_take ks D.pend HPP.out, if_neg ho, List.append_nil]; exact HINV.out)
        clear ho
        by_cases h0 : ks.length = 0
        · obtain rfl : ks = [] := List.eq_nil_of_length_eq_zero h0
          go_wp2
          go_roundw
          case rel => exact ⟨k + 1, by omega, by go_num, HE.out.fresh (below_alloc _ _)⟩
          case measure => simp [intOf]; omega
        · obtain ⟨bk, ok, cap2, hv, hcell⟩ := src_cell HSRC.out (by omega)
          simp only [Value.slice.injEq, true_and] at hv
          obtain ⟨rfl, rfl⟩ := hv
          have hmod : k % ks.length < ks.length := Nat.mod_lt _ (by omega)
          have kc := hcell _ hmod
          have hz : (ks.getD (k % ks.length) 0).tmod 2 = 0 := by
            have := HO.out
            simp only [odd, Bool.and_eq_true, decide_eq_true_eq, not_and, Decidable.not_not] at this
            exact this (by omega)
          generalize ks.getD (k % ks.length) 0 = z at kc hz
          generalize hq : k % ks.length = q at kc hmod
          have ht : (k : Int).tmod (ks.length : Int) = (q : Int) := by rw [← hq]; exact (Int.ofNat_tmod k ks.length).symm
          have kc2 := alloc_cell kc (.cells #[.int .i64 (p.1 : Int), .int .i64 (p.2 : Int)] 81)
          clear hcell hq kc
          go_wp2
          go_roundw
          case rel => exact ⟨k + 1, by omega, by go_num, HE.out.fresh (below_alloc _ _)⟩
          case measure => simp [intOf]; omega
    · have hkk : k = D.pend.length := by omega
      have hfull : HardInv lab id b D D.pend L w (survive ks 0 D.pend) wr := by
        have := HINV.out
        rwa [hkk, List.take_of_length_le (Nat.le_refl _)] at this
      have hds := hardens_keeps (survive ks 0 D.pend) D
      have HCR := Lib.hid (show D.crash ks = { hardens D (survive ks 0 D.pend) with now := fun f => if f < 16 then (hardens D (survive ks 0 D.pend)).dur f else (hardens D (survive ks 0 D.pend)).now f, pend := [], calls := 0, keep := [], down := true } by
        simp [Dk.crash, HD.out])
      clear hkk HINV hkl
      obtain ⟨lab1, dv1, h1, k1⟩ := hfull
      generalize hardens D (survive ks 0 D.pend) = D1 at h1 hds HCR
      obtain ⟨e1, e2, e3, e4, e5, e6⟩ := hds
      have HE2 := Lib.hid e2
      have c0 := h1.c 0
      simp only [List.getElem?_toArray, List.getElem?_cons_zero] at c0
      have H1 := Lib.hid h1
      have K1 := Lib.hid k1
      have HFM := Lib.hid h1.files
      clear h1 k1 c3 c1 e1 e2 e3 e4 e5 e6
      go_wp2_with (first | (at_range; refine wpList_range_is rfl _ 56 rfl _ lawI Tryz.underlying56 rfl HFM.out ?_; intro w0 hrg0 hg0 hs0) | go_in)
      try go_frame
      have HST := Lib.hid (show FilesInv lab id b D1 D.pend { L with dv := dv1 } w wr.heap.size (fun kl => (fileMap L.g kl).isSome) L.fc w0 from by
        have hb0 : Below wr.heap.size wr w0 := ⟨hg0.os, hg0.tape, hg0.output, hg0.size, fun i hi => hg0.block i hi (by simp)⟩
        refine ⟨lab1, L.nv, by rw [mix_start]; exact H1.out.fresh hb0, K1.out.trans ⟨hb0.os, hb0.tape, hb0.output, hb0.size, fun _ _ => rfl, fun x hx _ => hb0.block x hx, fun x hx => .inl (H1.out.lo x hx)⟩, hrg0, fun _ h => h, H1.out.lo _ (Nat.le_refl _), K1.out.size⟩)
      have hr0 : wr.heap.size < w0.heap.size := by omega
      generalize wr.heap.size = r at HST hr0 ⊢
      clear hrg0 hg0 hs0 c0
      go_loopw [7] (fun _ wr => ∃ left cnt, FilesInv lab id b D1 D.pend { L with dv := dv1 } w r left cnt wr) (fun _ wr => wr.rangeLeft L.fm r)
      case atStart => exact ⟨_, _, HST.out⟩
      case round =>
        obtain ⟨left, cnt, hinv⟩ := hrel
        obtain ⟨lab2, nv2, h2, k2, hrg, hlm, hlr, hrw⟩ := hinv
        have H2 := Lib.hid h2
        have K2 := Lib.hid k2
        have HRG := Lib.hid hrg
        have HLM := Lib.hid hlm
        have HLR := Lib.hid hlr
        clear h2 k2 hrg hlm hlr
        go_wp2_with (first | (at_next; refine wpList_next_is rfl _ rfl lawI (Value.int .i64) (fun y : Nat => Value.pointer (some ⟨y, 0, none⟩)) (fun key kl hk => by obtain ⟨x, hx, _⟩ := Maps.keyOf_int_inv Tryz.underlying3 hk; exact ⟨x, hx⟩) r cnt left rfl HRG.out (fun kl v hv _ => by unfold fileMap at hv; split at hv <;> (try split at hv) <;> simp at hv; exact ⟨_, hv.symm⟩) HLM.out ?_ ?_) | go_in)
        · intro _ hl0
          have HL0 := Lib.hid hl0
          clear hl0
          have h2 := H2.out
          have k2 := K2.out
          rw [mix_end D1 HL0.out] at h2
          have c1 := h2.c 1
          have f1 := h2.fz 1
          simp only [List.getElem?_toArray, List.getElem?_cons_zero, List.getElem?_cons_succ] at c1
          obtain ⟨h3, k3⟩ := h2.setPend (ps := []) (v' := .slice none 0 0) List.nodup_nil (fun _ h => by cases h) ⟨rfl, rfl, rfl, Nat.le_refl _, fun _ _ _ => rfl⟩ (World.ownsRow_nil _ _ _ _) (.inr fun k hk => by cases hk) (Hp.refl _)
          obtain ⟨w5, hclr, m5, g5⟩ := h3.marks.wipe Tryz.underlying57
          obtain ⟨h4, k4⟩ := h3.setMarks (mk' := []) g5 (Hp.refl _) (m5.congr markMap_nil rfl)
          have m2 := h3.c 2
          have c5 := h4.c 5
          have c6 := h4.c 6
          have c3 := h4.c 3
          have f5 := h4.fz 5
          have f6 := h4.fz 6
          have f3 := h4.fz 3
          simp only [List.getElem?_toArray, List.getElem?_cons_zero, List.getElem?_cons_succ] at m2 c5 c6 c3
          have H4 := Lib.hid h4
          have K4 := Lib.hid ((k2.trans k3).trans k4)
          have HCL := Lib.hid hclr
          clear h2 k2 h3 k3 h4 k4 hclr m5 g5 hlt
          go_wp2_with (refine wpList_clear_run rfl _ 57 rfl _ rfl _ (HCL.out _) ?_)
          go_end0
          have h4 := H4.out
          obtain ⟨h5, k5⟩ := h4.setField (D' := { now := fun f => if f < 16 then D1.dur f else D1.now f, dur := D1.dur, pend := [], down := D1.down, lost := D1.lost, calls := 0, keep := D1.keep }) (i := 5) (v := .int .i64 0) (Hp.refl _)
            ⟨h4.ok.now, h4.ok.dur, h4.ok.pend, h4.ok.few, h4.ok.lost, by simp, h4.ok.keep, h4.ok.size⟩ rfl rfl rfl rfl rfl
          obtain ⟨h6, k6⟩ := h5.setKeep (ks := []) (v' := .slice none 0 0) (fun _ h => by cases h) (by simp) ⟨rfl, rfl, rfl, Nat.le_refl _, fun _ _ _ => rfl⟩ (World.ownsRow_nil _ _ _ _) (.inr fun k hk => by cases hk) (Hp.refl _)
          obtain ⟨h7, k7⟩ := h6.setField (D' := D.crash ks) (i := 3) (v := .bool true) (Hp.refl _) (by rw [HCR.out]; exact ⟨h6.ok.now, h6.ok.dur, h6.ok.pend, h6.ok.few, h6.ok.lost, h6.ok.calls, h6.ok.keep, h6.ok.size⟩) (by rw [HCR.out]) (by rw [HCR.out]) (by rw [HCR.out]) (by rw [HCR.out]) (by rw [HCR.out]; rfl)
          exact ⟨rfl, _, _, by rw [show (D.crash ks).pend = [] by rw [HCR.out]]; exact h7, ((K4.out.trans k5).trans k6).trans k7⟩
        · intro x y kl w1 cnt1 hkey hlk hmk hrg1 hlt1 hg1 hs1 hen
          obtain ⟨x', hx', rfl, _⟩ := Maps.keyOf_int_inv Tryz.underlying3 hkey
          cases hx'
          obtain ⟨f, hf, rfl, rfl⟩ := file_of hmk
          have h3 : DiskIn w1 lab2 id b (mixNow D1 left) D.pend { L with dv := dv1, nv := nv2 } := H2.out.kept (fun z hz => H2.out.lo z (by omega)) (fun _ _ => rfl) fun z hz h5 _ => hg1.block z hz (fun e => by cases e; rw [HLR.out] at h5; have := H2.out.id64; omega)
          have k3 := chg_iter K2.out hg1 hrw
          obtain ⟨na, nc, hnv⟩ := own_form (h3.now f hf)
          obtain ⟨da, dc, hdv⟩ := own_form (h3.dur f hf)
          simp only at hnv hdv
          have hz0 := h3.now f hf
          simp only at hz0
          rw [hnv] at hz0
          have hd0 := h3.dur f hf
          simp only at hd0
          rw [hdv] at hd0
          obtain ⟨v', w2, hr2, ho2, hg2, hl2⟩ := run_append_bytes0 w1.drew _ _ _ (own_zero hz0) hd0 (by have := h3.ok.dur f; omega)
          obtain ⟨va', vc', rfl⟩ := own_form ho2
          have hg2' : w1.grownBy w2 (nv2 f).ownBlock := by rw [hnv, own_len na _ 0 nc]; exact drew_grown hg2
          have hgl := lt_heap (h3.file f hf)
          have hgn : (nv2 f).ownBlock ≠ some (L.g f) := fun e => by have h5 := h3.ln f hf _ e; have h6 := h3.lg f hf; simp only at h6; omega
          have c0 := h3.fc hf 0
          have c1 := h3.fc hf 1
          simp only [List.getElem?_toArray, List.getElem?_cons_zero, List.getElem?_cons_succ] at c0 c1
          have d0 := hg2'.cell c0 (fun e => hgn e.symm)
          have f0 : w2.frozen? ⟨L.g f, 0, none⟩ = false := (World.frozen?_of_block (w := w1) (hg2'.block _ hgl (fun e => hgn e.symm))).trans (h3.ffz hf 0)
          rw [hnv] at c0 d0
          rw [hdv] at c1
          have HR2 := Lib.hid hr2
          have H3 := Lib.hid h3
          have K3 := Lib.hid k3
          have HO2 := Lib.hid ho2
          have HG2 := Lib.hid hg2'
          have HL2 := Lib.hid (show (Value.slice va' (((mixNow D1 left).dur f).length) vc').ownBlock = (nv2 f).ownBlock ∨ ∀ k, (Value.slice va' (((mixNow D1 left).dur f).length) vc').ownBlock = some k → w1.heap.size ≤ k by rw [hnv, own_len na _ 0 nc]; exact hl2)
          have HRG1 := Lib.hid hrg1
          have HNV := Lib.hid hnv
          clear h3 k3 hnv hdv hz0 hd0 hr2 ho2 hg2 hg2' hl2 hgn hg1 hs1 hkey hmk hrg1 hlk
          go_wp2
          go_region_law (first | (refine step_append_run (by rfl) _ _ _ _ (by rfl) _ _ (by rfl) (by rfl) _ _ HR2.out ?_))
          all_goals
            have hset := H3.out.setNow hf (r := (mixNow D1 left).dur f) (H3.out.ok.dur f) HG2.out HO2.out HL2.out (Hp.refl _)
            have hfm : (w2.setCell ⟨L.g f, 0, none⟩ (.slice va' (((mixNow D1 left).dur f).length) vc')).heap[L.fm]? = w1.heap[L.fm]? := by
              have h5 := H3.out.lf
              have h6 := H3.out.lg f hf
              simp only at h5 h6
              rw [set_other (fun e => by rw [e] at h5; simp only at h5; omega)]
              exact HG2.out.block _ HRG1.out.map.lt (fun e => by have := H3.out.ln f hf _ e.symm; omega)
            have hrr : (w2.setCell ⟨L.g f, 0, none⟩ (.slice va' (((mixNow D1 left).dur f).length) vc')).heap[r]? = w1.heap[r]? := by
              have h5 := HLR.out
              have h6 := H3.out.lg f hf
              simp only at h6
              rw [set_other (fun e => by rw [e] at h5; simp only at h5; omega)]
              exact HG2.out.block _ HRG1.out.lt (fun e => by have := H3.out.ln f hf _ e.symm; omega)
            have hrg5 := HRG1.out.kept hfm hrr
            have HSET := Lib.hid hset
            have HRG5 := Lib.hid hrg5
            clear hset hrg5 hfm hrr
            go_wp2
            go_roundw
            case rel => exact ⟨_, cnt1, _, _, by rw [mix_step D1 left hf]; exact HSET.out.1, K3.out.trans HSET.out.2, HRG5.out, fun kl hkl => HLM.out kl (by simp at hkl; exact hkl.1), by rw [HSET.out.2.labs r HRG1.out.lt]; exact HLR.out, hrw⟩
            case measure => rw [HRG5.out.left_eq, HRG.out.left_eq]; exact hlt1

theorem crash_any (h : DiskIn w lab id b D D.pend L) (v : Value) (ks : List Int) (hk : KeepOk w lab id D L v ks) (hl : ks.length ≤ 140737488355327) (hin : D.In) :
    Calls Tryz.prog 20 #[.pointer (some ⟨b, 0, none⟩), v] w (DiskPost lab id b (D.crash ks) w) := by
  cases hd : D.down with
  | false => exact crash_up h v ks hk hl hd hin
  | true =>
    refine (crash_down h v hd).mono ?_
    rintro e w' ⟨rfl, rfl⟩
    have : D.crash ks = D := by simp [Dk.crash, hd]
    rw [this]
    exact ⟨rfl, lab, L, h, Chg.refl h.lo⟩
end
end Go.Proofs.YtjbcgahdiolhhaaGreatDoor.D2
namespace Go.Proofs.YtjbcgahdiolhhaaGreatDoor.D2
open Go.RowKit Go.Maps Go.ChangeMaps Go.MapKept
open Dp
attribute [local go_sem ↓] Go.wp_at_zero Go.wp_at_succ

/-- What a call on the disk with one result leaves. -/
def ResPost (lab : Nat → Nat) (id b : Nat) (r : Value) (D' : Dk) (w : World) (e : Ending) (w' : World) : Prop :=
  e = .returned r ∧ ∃ lab' L', DiskIn w' lab' id b D' D'.pend L' ∧ Chg id lab lab' w w'

section
variable {w : World} {lab : Nat → Nat} {id b : Nat} {D : Dk} {L : Loc}
theorem KeepOk.self {mk : List (Nat × Nat)} (h : DiskIn w lab id b D mk L) : KeepOk w lab id D L L.kv D.keep := ⟨SrcIs.of_own h.keep (oneCell_ints _), .inl ⟨rfl, rfl⟩⟩

set_option maxHeartbeats 1000000 in
set_option maxRecDepth 100000 in
theorem strike_any (h : DiskIn w lab id b D D.pend L) (hin : D.In) : Calls Tryz.prog 51 #[.pointer (some ⟨b, 0, none⟩)] w (ResPost lab id b (.bool D.strike.1) D.strike.2 w) := by
  have c5 := h.c 5
  have f5 := h.fz 5
  simp only [List.getElem?_toArray, List.getElem?_cons_zero, List.getElem?_cons_succ] at c5
  have h64 := h.ok.calls
  rcases Nat.eq_zero_or_pos D.calls with h0 | h0
  · have hs : D.strike = (false, D) := by simp [Dk.strike, h0]
    rw [hs]
    rw [h0] at c5
    have H := Lib.hid h
    clear h hs h0 h64
    go_enter Tryz.func51, Tryz.ntmps51
    go_wp2
    go_ret
    exact ⟨rfl, lab, L, H.out, Chg.refl H.out.lo⟩
  obtain ⟨c, hc⟩ : ∃ c : Nat, D.calls = c + 1 := ⟨D.calls - 1, by omega⟩
  rw [hc] at c5
  rw [show ((c + 1 : Nat) : Int) = (c : Int) + 1 by omega] at c5
  obtain ⟨h2, k2⟩ := h.setField (D' := { D with calls := c }) (i := 5) (v := .int .i64 (c : Int)) (Hp.refl _) ⟨h.ok.now, h.ok.dur, h.ok.pend, h.ok.few, h.ok.lost, by have : ({ D with calls := c } : Dk).calls = c := rfl; rw [this]; omega, h.ok.keep, h.ok.size⟩ rfl rfl rfl rfl rfl
  have c5' := h2.c 5
  have c6' := h2.c 6
  simp only [List.getElem?_toArray, List.getElem?_cons_zero, List.getElem?_cons_succ] at c5' c6'
  have H2 := Lib.hid h2
  have K2 := Lib.hid k2
  have hcl : (c : Int) + 1 ≤ 9223372036854775807 := by omega
  rcases Nat.eq_zero_or_pos c with h1 | h1
  · subst h1
    have hs : D.strike = (true, ({ D with calls := 0 } : Dk).crash D.keep) := by simp [Dk.strike, hc]
    have hcr := crash_any (D := { D with calls := 0 }) h2 L.kv D.keep (KeepOk.self h2) (by have := h.ok.size; omega) hin
    obtain ⟨ka, kc, hkv⟩ := own_form h.keep
    rw [hkv] at c6' hcr
    rw [hs]
    have c5 : w.cell? ⟨b, 5, none⟩ = some (.int .i64 1) := c5
    have c5' : (w.setCell ⟨b, 5, none⟩ (.int .i64 0)).cell? ⟨b, 5, none⟩ = some (.int .i64 0) := c5'
    have c6' : (w.setCell ⟨b, 5, none⟩ (.int .i64 0)).cell? ⟨b, 6, none⟩ = some (.slice ka D.keep.length kc) := c6'
    have hcr : Calls Tryz.prog 20 #[.pointer (some ⟨b, 0, none⟩), .slice ka D.keep.length kc] (w.setCell ⟨b, 5, none⟩ (.int .i64 0)) (DiskPost lab id b (({ D with calls := 0 } : Dk).crash D.keep) (w.setCell ⟨b, 5, none⟩ (.int .i64 0))) := hcr
    have HC := Lib.hid hcr
    clear h h2 k2 hs hc h0 hin hcr hkv h64
    go_enter Tryz.func51, Tryz.ntmps51
    go_wp2_with (go_at_call 20; refine HC.out.mono ?_; rintro e w3 ⟨rfl, lab3, L3, h3, k3⟩; have H3 := Lib.hid h3; have K3 := Lib.hid k3; clear h3 k3)
    go_ret
    exact ⟨rfl, lab3, L3, H3.out, K2.out.trans K3.out⟩
  · have hs : D.strike = (false, { D with calls := c }) := by
      simp only [Dk.strike, hc]
      rw [if_neg (by omega), if_neg (by omega)]
      rfl
    rw [hs]
    have g1 : (0 : Int) < (c : Int) := by omega
    have g2 : ((c : Int) + 1 == 0) = false := by simp; omega
    have g3 : decide ((0 : Int) < (c : Int)) = true := by simp; omega
    clear h h2 k2 hs hc h0 hin h64
    go_enter Tryz.func51, Tryz.ntmps51
    go_wp2
    go_ret
    exact ⟨rfl, lab, L, H2.out, K2.out⟩
end
end Go.Proofs.YtjbcgahdiolhhaaGreatDoor.D2
namespace Go.Proofs.YtjbcgahdiolhhaaGreatDoor.D2
open Go.RowKit Go.Maps Go.ChangeMaps Go.MapKept
open Dp
attribute [local go_sem ↓] Go.wp_at_zero Go.wp_at_succ

theorem relab_own2 {w : World} {lab : Nat → Nat} {c2 : Nat} {v' : Value} (hloc : ∀ k, v'.ownBlock = some k → (k < w.heap.size ∧ lab k = c2) ∨ w.heap.size ≤ k) : ∀ k, v'.ownBlock = some k → relab lab w v' c2 k = c2 := by
  intro k hk
  unfold relab
  rcases hloc k hk with ⟨h1, h2⟩ | h
  · rw [if_pos h1]; exact h2
  · rw [if_neg (by omega), if_pos hk]

section
variable {w w1 w' : World} {lab : Nat → Nat} {id b : Nat} {D : Dk} {mk : List (Nat × Nat)} {L : Loc}
theorem DiskIn.setPend2 (h : DiskIn w lab id b D mk L) {v' : Value} {ps : List (Nat × Nat)} (hn : ps.Nodup) (hf : ∀ p ∈ ps, p.1 < 16 ∧ p.2 < 262144) (o : w.ownsRow 0 81 2 v' ps.length (secVs ps))
    (hloc : ∀ k, v'.ownBlock = some k → lab k = id + 3) (hp : Hp (w.setCell ⟨b, 1, none⟩ v') w') :
    DiskIn w' lab id b { D with pend := ps } mk { L with pv := v' } ∧ Chg id lab lab w w' := by
  have hvn : v'.ownBlock ≠ some b := fun e => by have h1 := hloc _ e; have h2 := h.lb; omega
  have k := kept_set (id := id) h.lo h.lb hp
  have ho := own_set o hvn hp
  have h6 := h.id64
  refine ⟨h.turn k ⟨h.ok.now, h.ok.dur, hn, hf, h.ok.lost, h.ok.calls, h.ok.keep, h.ok.size⟩ rfl rfl rfl rfl (.inr ?_) (by omega) (.inl ⟨by omega, by omega, rfl⟩) (.inr ⟨ho, hloc⟩) (.inl ⟨by omega, by omega, rfl, rfl⟩) (fun i hi => .inl ⟨by omega, by omega, rfl, rfl⟩) (fun i hi => .inl ⟨by omega, by omega, rfl, rfl⟩) (fun i hi => .inl ⟨by omega, by omega, rfl, rfl⟩), k.chg (by omega) (by omega)⟩
  rw [hp.heap, set_heap h.blk]; rfl
/-- A block without a label becomes one of the disk's. -/
def claimL (lab : Nat → Nat) (v : Value) (c : Nat) (x : Nat) : Nat := if v.ownBlock = some x then c else lab x
theorem claim_other {v : Value} {c x : Nat} (hz : ∀ k, v.ownBlock = some k → lab k = 0) (hx : lab x ≠ 0) : claimL lab v c x = lab x := by
  unfold claimL; rw [if_neg (fun e => hx (hz x e))]
theorem DiskIn.claim (h : DiskIn w lab id b D mk L) {v : Value} {c : Nat} (hz : ∀ k, v.ownBlock = some k → lab k = 0 ∧ k < w.heap.size) : DiskIn w (claimL lab v c) id b D mk L := by
  have h6 := h.id64
  have ho : ∀ x, lab x ≠ 0 → claimL lab v c x = lab x := fun x hx => claim_other (fun k hk => (hz k hk).1) hx
  exact { h with
    lo := fun x hx => by unfold claimL; rw [if_neg (fun e => by have := (hz x e).2; omega)]; exact h.lo x hx
    lb := by rw [ho _ (by rw [h.lb]; omega)]; exact h.lb
    lf := by rw [ho _ (by rw [h.lf]; omega)]; exact h.lf
    lm := by rw [ho _ (by rw [h.lm]; omega)]; exact h.lm
    lp := fun k hk => by rw [ho _ (by rw [h.lp k hk]; omega)]; exact h.lp k hk
    lk := fun k hk => by rw [ho _ (by rw [h.lk k hk]; omega)]; exact h.lk k hk
    lg := fun f hf => by rw [ho _ (by rw [h.lg f hf]; omega)]; exact h.lg f hf
    ln := fun f hf k hk => by rw [ho _ (by rw [h.ln f hf k hk]; omega)]; exact h.ln f hf k hk
    ld := fun f hf k hk => by rw [ho _ (by rw [h.ld f hf k hk]; omega)]; exact h.ld f hf k hk }
theorem Chg.claim {lab0 : Nat → Nat} {w0 : World} (h : Chg id lab0 lab w0 w) {v : Value} {c : Nat} (hc : id ≤ c ∧ c < id + 64) (hz : ∀ k, v.ownBlock = some k → w0.heap.size ≤ k) : Chg id lab0 (claimL lab v c) w0 w :=
  ⟨h.os, h.tape, h.output, h.size, fun x hx => by unfold claimL; rw [if_neg (fun e => by have := hz x e; omega)]; exact h.labs x hx, h.block, fun x hx => by
    unfold claimL
    split
    · exact .inr hc
    · exact h.fresh x hx⟩
end

/-! ### Plain -/
def keepsF (f : Nat) (ps : List (Nat × Nat)) : List (Nat × Nat) := ps.filter (fun p => p.1 = f)
def dropsF (f : Nat) (ps : List (Nat × Nat)) : List (Nat × Nat) := ps.filter (fun p => p.1 ≠ f)
theorem keepsF_take {f : Nat} {ps : List (Nat × Nat)} {k : Nat} {p : Nat × Nat} (h : ps[k]? = some p) : keepsF f (ps.take (k + 1)) = keepsF f (ps.take k) ++ (if p.1 = f then [p] else []) := by
  obtain ⟨hk, rfl⟩ := List.getElem?_eq_some_iff.1 h
  rw [List.take_succ_eq_append_getElem hk, keepsF, List.filter_append]
  congr 1
  by_cases hf : ps[k].1 = f <;> simp [hf]
theorem dropsF_take {f : Nat} {ps : List (Nat × Nat)} {k : Nat} {p : Nat × Nat} (h : ps[k]? = some p) : dropsF f (ps.take (k + 1)) = dropsF f (ps.take k) ++ (if p.1 = f then [] else [p]) := by
  obtain ⟨hk, rfl⟩ := List.getElem?_eq_some_iff.1 h
  rw [List.take_succ_eq_append_getElem hk, dropsF, List.filter_append]
  congr 1
  by_cases hf : ps[k].1 = f <;> simp [hf]
def marksAt (f : Nat) (ps : List (Nat × Nat)) (k : Nat) : List (Nat × Nat) := dropsF f (ps.take k) ++ ps.drop k
theorem marksAt_eq {f : Nat} {ps : List (Nat × Nat)} {k : Nat} {p : Nat × Nat} (h : ps[k]? = some p) : marksAt f ps k = dropsF f (ps.take k) ++ p :: ps.drop (k + 1) := by
  obtain ⟨hk, rfl⟩ := List.getElem?_eq_some_iff.1 h
  rw [marksAt, List.drop_eq_getElem_cons hk]
theorem marks_skip {f : Nat} {ps : List (Nat × Nat)} {k : Nat} {p : Nat × Nat} (h : ps[k]? = some p) (hf : p.1 ≠ f) : marksAt f ps (k + 1) = marksAt f ps k := by
  rw [marksAt_eq h, marksAt, dropsF_take h, if_neg hf]; simp
theorem marks_drop {f : Nat} {ps : List (Nat × Nat)} {k : Nat} {p : Nat × Nat} (hn : ps.Nodup) (hb : ∀ q ∈ ps, q.1 < 16 ∧ q.2 < 262144) (h : ps[k]? = some p) (hf : p.1 = f) :
    (marksAt f ps (k + 1)).length = (marksAt f ps k).length - 1 ∧ markMap (marksAt f ps k) (secLit p) = some (.bool true) ∧ ∀ kl, markMap (marksAt f ps (k + 1)) kl = (open Classical in if kl = secLit p then none else markMap (marksAt f ps k) kl) := by
  have e1 := marksAt_eq (f := f) h
  have e2 : marksAt f ps (k + 1) = dropsF f (ps.take k) ++ ps.drop (k + 1) := by rw [marksAt, dropsF_take h, if_pos hf]; simp
  have hpm : p ∈ ps := List.mem_of_getElem? h
  have hin : ∀ q ∈ dropsF f (ps.take k) ++ ps.drop (k + 1), q ∈ ps ∧ q ≠ p := by
    intro q hq
    rcases List.mem_append.1 hq with hq | hq
    · simp only [dropsF, List.mem_filter] at hq
      exact ⟨List.mem_of_mem_take hq.1, fun e => by subst e; simp [hf] at hq⟩
    · refine ⟨List.mem_of_mem_drop hq, fun e => ?_⟩
      subst e
      obtain ⟨hk, hpk⟩ := List.getElem?_eq_some_iff.1 h
      obtain ⟨j, hj, hjq⟩ := List.mem_iff_getElem.1 hq
      rw [List.getElem_drop] at hjq
      have hlt : k + 1 + j < ps.length := by have := hj; rw [List.length_drop] at this; omega
      exact absurd (hpk.trans hjq.symm) ((List.pairwise_iff_getElem.1 hn) k (k + 1 + j) hk hlt (by omega))
  refine ⟨by rw [e1, e2]; simp, ?_, fun kl => ?_⟩
  · unfold markMap; rw [if_pos ⟨p, by rw [e1]; simp, rfl⟩]
  · by_cases hk : kl = secLit p
    · rw [if_pos hk]
      unfold markMap
      rw [if_neg]
      rintro ⟨q, hq, hqk⟩
      rw [e2] at hq
      have := hin q hq
      have h1 := hb q this.1
      have h2 := hb p hpm
      exact this.2 (secLit_inj (by omega) (by omega) (by omega) (by omega) (hqk.trans hk))
    · rw [if_neg hk]
      unfold markMap
      congr 1
      rw [e1, e2]
      refine propext ⟨fun ⟨q, hq, hqk⟩ => ⟨q, ?_, hqk⟩, fun ⟨q, hq, hqk⟩ => ⟨q, ?_, hqk⟩⟩
      · rcases List.mem_append.1 hq with hq | hq
        · exact List.mem_append.2 (.inl hq)
        · exact List.mem_append.2 (.inr (List.mem_cons_of_mem _ hq))
      · rcases List.mem_append.1 hq with hq | hq
        · exact List.mem_append.2 (.inl hq)
        · rcases List.mem_cons.1 hq with rfl | hq
          · exact absurd hqk.symm hk
          · exact List.mem_append.2 (.inr hq)
end Go.Proofs.YtjbcgahdiolhhaaGreatDoor.D2
namespace Go.Proofs.YtjbcgahdiolhhaaGreatDoor.D2
open Go.RowKit Go.Maps Go.ChangeMaps Go.MapKept
open Dp
attribute [local go_sem ↓] Go.wp_at_zero Go.wp_at_succ

theorem MapIs.drop' {P : Program} {w : World} {k : TypeId} {b c : Nat} {m : Lit → Option Value} {t e : TypeId} (h : MapIs P w k b c m) (K : Keyed P k) (ht : P.underlying t = some (.map k e)) {key v : Value} {kl : Lit} (hkey : keyOf P k key = some kl) (hold : m kl = some v) :
    ∃ w', (∀ ty, (Builtin.delete_ #[t, k] ty #[.map (some b), key]).run P w = .ok (.tuple #[]) w') ∧ MapIs P w' k b (c - 1) (fun x => open Classical in if x = kl then none else m x) ∧ w.grownBy w' (some b) := by
  obtain ⟨w', hr, h1, h2⟩ := h.drop K ht hkey hold 0
  exact ⟨w', fun _ => hr, h1, h2⟩

theorem settle_eq (D : Dk) (f : Nat) : D.settle f = { hardens D (keepsF f D.pend) with pend := dropsF f D.pend } := rfl

def SettleInv (lab : Nat → Nat) (id b : Nat) (D : Dk) (L : Loc) (f : Nat) (w : World) (k : Nat) (v : Value) (wr : World) : Prop :=
  ∃ lab' dv, DiskIn wr lab' id b (hardens D (keepsF f (D.pend.take k))) (marksAt f D.pend k) { L with dv := dv } ∧ Chg id lab lab' w wr ∧ wr.ownsRow 0 81 2 v (dropsF f (D.pend.take k)).length (secVs (dropsF f (D.pend.take k))) ∧ ∀ j, v.ownBlock = some j → lab' j = 0 ∧ w.heap.size ≤ j

section
variable {w : World} {lab : Nat → Nat} {id b : Nat} {D : Dk} {L : Loc}
theorem chg_below {lab' : Nat → Nat} {wr w' : World} {mk : List (Nat × Nat)} {D' : Dk} {L' : Loc} (k : Chg id lab lab' w wr) (h : DiskIn wr lab' id b D' mk L') (hb : Below wr.heap.size wr w') : Chg id lab lab' w w' :=
  k.trans ⟨hb.os, hb.tape, hb.output, hb.size, fun _ _ => rfl, fun x hx _ => hb.block x hx, fun x hx => .inl (h.lo x hx)⟩
theorem SettleInv.fresh {f k : Nat} {v : Value} {wr w' : World} (h : SettleInv lab id b D L f w k v wr) (hb : Below wr.heap.size wr w') : SettleInv lab id b D L f w k v w' := by
  obtain ⟨lab', dv, h1, h2, h3, h4⟩ := h
  exact ⟨lab', dv, h1.fresh hb, chg_below h2 h1 hb, ownsRow_block h3 fun j hj => hb.block j (h3.lt j hj).2, h4⟩

theorem chg_row {lab' : Nat → Nat} {wr w1 : World} {row : Option Nat} (h : Chg id lab lab' w wr) (g : wr.grownBy w1 row) (hr : ∀ j, row = some j → w.heap.size ≤ j) : Chg id lab lab' w w1 :=
  ⟨g.os.trans h.os, g.tape.trans h.tape, g.output.trans h.output, Nat.le_trans h.size g.size, h.labs, fun x hx hl => (g.block x (Nat.lt_of_lt_of_le hx h.size) (fun e => by have := hr x e.symm; omega)).trans (h.block x hx hl), h.fresh⟩
theorem DiskIn.row {wr w1 : World} {mk : List (Nat × Nat)} {row : Option Nat} (h : DiskIn wr lab id b D mk L) (g : wr.grownBy w1 row) (hr : ∀ j, row = some j → lab j = 0) : DiskIn w1 lab id b D mk L :=
  h.kept (fun x hx => h.lo x (Nat.le_trans g.size hx)) (fun _ _ => rfl) fun x hx h1 _ => g.block x hx (fun e => by have := hr x e.symm; have := h.id64; omega)
theorem secVs_snoc (l : List (Nat × Nat)) (p : Nat × Nat) : secVs (l ++ [p]) = secVs l ++ [.int .i64 (p.1 : Int), .int .i64 (p.2 : Int)] := by simp [secVs]

set_option maxHeartbeats 4000000 in
set_option maxRecDepth 100000 in
theorem settle_any (h : DiskIn w lab id b D D.pend L) (hin : D.In) (f : Nat) (hf : f < 16) :
    Calls Tryz.prog 52 #[.pointer (some ⟨b, 0, none⟩), .int .i64 (f : Int)] w (DiskPost lab id b (D.settle f) w) := by
  obtain ⟨i0, hi, hz0, hz1, hz2⟩ := info_parts sec_info
  have c1 := h.c 1
  simp only [List.getElem?_toArray, List.getElem?_cons_zero, List.getElem?_cons_succ] at c1
  obtain ⟨pa, pc, hpv⟩ := own_form h.pend
  rw [hpv] at c1
  have H := Lib.hid h
  have HP := Lib.hid hpv
  have HI := Lib.hid hin
  have HC0 := Lib.hid (Chg.refl (id := id) h.lo)
  have hn : D.pend.length ≤ 4194304 := pend_len h.ok
  clear h hpv hin
  go_enter Tryz.func52, Tryz.ntmps52
  go_wp2
  go_loopw [4, 12] (fun v i wr => ∃ k : Nat, k ≤ D.pend.length ∧ i = .int .i64 (k : Int) ∧ SettleInv lab id b D L f w k v wr) (fun _ i _ => D.pend.length - (intOf i).toNat)
  case atStart => exact ⟨0, Nat.zero_le _, rfl, lab, L.dv, H.out, HC0.out, World.ownsRow_nil _ _ _ _, fun j hj => by cases hj⟩
  case round =>
    obtain ⟨k, hkl, rfl, hinv⟩ := hrel
    have HINV := Lib.hid hinv
    clear hinv
    by_cases hlt : k < D.pend.length
    · obtain ⟨p, hp⟩ : ∃ p, D.pend[k]? = some p := ⟨_, List.getElem?_eq_getElem hlt⟩
      obtain ⟨lab1, dv1, h1, k1, o1, l1⟩ := HINV.out
      obtain ⟨pg, cap, hpv2, s0, s1⟩ := sec_cell (k := k) (p := p) h1 (by rw [(hardens_keeps _ D).2.1]; exact hp)
      rw [(hardens_keeps _ D).2.1] at hpv2
      have hpv3 := HP.out.symm.trans hpv2
      simp only [Value.slice.injEq, true_and] at hpv3
      obtain ⟨rfl, rfl⟩ := hpv3
      have HPP := Lib.hid hp
      have hbA := below_alloc wr (.cells #[.int .i64 (p.1 : Int), .int .i64 (p.2 : Int)] 81)
      have h2 := h1.fresh hbA
      have k2 := chg_below k1 h1 hbA
      have o2 := ownsRow_block o1 fun j hj => hbA.block j (o1.lt j hj).2
      have l2 := l1
      clear hbA
      have a0 : (wr.alloc (.cells #[.int .i64 (p.1 : Int), .int .i64 (p.2 : Int)] 81)).cell? ⟨wr.heap.size, 0, none⟩ = some (.int .i64 (p.1 : Int)) := by simp
      have a1 : (wr.alloc (.cells #[.int .i64 (p.1 : Int), .int .i64 (p.2 : Int)] 81)).cell? ⟨wr.heap.size, 1, none⟩ = some (.int .i64 (p.2 : Int)) := by simp
      obtain ⟨oa, oc, hov⟩ := own_form o1
      have hb1 := (h1.ok.few p (by rw [(hardens_keeps _ D).2.1]; exact List.mem_of_getElem? hp))
      have hll : (dropsF f (D.pend.take k)).length ≤ 4194304 := by
        have h5 := List.length_filter_le (fun p => decide (p.1 ≠ f)) (D.pend.take k)
        have h6 : (dropsF f (D.pend.take k)).length ≤ (D.pend.take k).length := h5
        have h7 := List.length_take_le k D.pend
        omega
      by_cases hpf : p.1 = f
      · subst hpf
        have hne : ((p.1 : Int) == (p.1 : Int)) = true := by simp
        have hne2 : ((p.1 : Int) != (p.1 : Int)) = false := by simp
        have hpn := HI.out p (List.mem_of_getElem? hp)
        have HPN := Lib.hid hpn
        have c0 := h2.c 0
        simp only [List.getElem?_toArray, List.getElem?_cons_zero] at c0
        have hl5 := h2.drew.lookN hf
        simp only at c0 hl5
        have hrl : wr.heap.size < (wr.alloc (.cells #[.int .i64 (p.1 : Int), .int .i64 (p.2 : Int)] 81)).heap.size := by simp
        have hlr := h1.lo wr.heap.size (Nat.le_refl _)
        have O2 := Lib.hid o2
        have L2 := Lib.hid l2
        have H2 := Lib.hid h2.drew
        have K2 := Lib.hid k2
        have LR := Lib.hid hlr
        clear h1 k1 o1 l1 hpv2 hp c1 h2 k2 o2 l2 hpn
        subst hov
        go_wp2
        generalize wr.alloc (.cells #[.int .i64 (p.1 : Int), .int .i64 (p.2 : Int)] 81) = wa at H2 K2 O2 L2 a0 a1 c0 hl5 hrl ⊢
        go_region_with (first | (go_at_call 45; refine (harden_any H2.out hf (by rw [(hardens_keeps _ D).1]; exact HPN.out)).mono ?_; rintro e w3 ⟨rfl, lab3, dv3, h3, k3⟩; have H3 := Lib.hid h3; have K3 := Lib.hid k3; clear h3 k3))
        all_goals
          have b0 : w3.cell? ⟨wr.heap.size, 0, none⟩ = some (.int .i64 (p.1 : Int)) := by
            rw [World.cell?_of_block (w := wa) (K3.out.block wr.heap.size hrl (by rw [LR.out]; have := H2.out.id64; omega))]; exact a0
          have b1 : w3.cell? ⟨wr.heap.size, 1, none⟩ = some (.int .i64 (p.2 : Int)) := by
            rw [World.cell?_of_block (w := wa) (K3.out.block wr.heap.size hrl (by rw [LR.out]; have := H2.out.id64; omega))]; exact a1
          have c2 := H3.out.c 2
          simp only [List.getElem?_toArray, List.getElem?_cons_zero, List.getElem?_cons_succ] at c2
          obtain ⟨mlen, mold, mnew⟩ := marks_drop H.out.ok.pend H.out.ok.few HPP.out rfl
          obtain ⟨w4, hdel, m4, g4⟩ := H3.out.drew.marks.drop' lawS Tryz.underlying57 (keyS (p := p) (by omega) (by omega)) mold
          have HDEL := Lib.hid hdel
          have M4 := Lib.hid (m4.congr mnew mlen)
          have G4 := Lib.hid g4
          clear hdel m4 g4 mlen mold mnew a0 a1 c0 hl5
          go_wp2
          go_region_law (first | (refine step_delete_run (by rfl) _ _ _ _ (by rfl) _ _ (by rfl) (by rfl) _ (HDEL.out _) ?_))
          all_goals
            have HIN5 := Lib.hid (show SettleInv lab id b D L p.1 w (k + 1) (.slice oa (dropsF p.1 (D.pend.take k)).length oc) w4 from by
              obtain ⟨h5, k5⟩ := H3.out.drew.setMarks G4.out (Hp.refl _) M4.out
              refine ⟨lab3, dv3, by rw [keepsF_take HPP.out, if_pos rfl, hardens_snoc]; exact h5, (K2.out.trans K3.out.of_drew).trans k5.of_drew, ?_, fun j hj => ?_⟩
              · rw [dropsF_take HPP.out, if_pos rfl, List.append_nil]
                refine ownsRow_block O2.out fun j hj => ?_
                have h7 := (L2.out j hj).1
                have h8 := (O2.out.lt j hj).2
                have h9 := H2.out.id64
                rw [(K3.out.of_drew.trans k5.of_drew).block j h8 (by omega)]
              · have h7 := L2.out j hj
                have h8 := (O2.out.lt j hj).2
                exact ⟨(K3.out.labs j h8).trans h7.1, h7.2⟩)
            clear H3 K3 M4 G4 HDEL b0 b1 c2
            go_wp2
            go_roundw
            case rel => exact ⟨k + 1, by omega, by go_num, HIN5.out⟩
            case measure => simp [intOf]; omega
      · have HPF := Lib.hid hpf
        have hne : ((p.1 : Int) == (f : Int)) = false := by simp; omega
        have hne2 : ((p.1 : Int) != (f : Int)) = true := by simp; omega
        have O2 := Lib.hid o2
        have L2 := Lib.hid l2
        have H2 := Lib.hid h2
        have K2 := Lib.hid k2
        clear h1 k1 o1 l1 hpv2 hp c1 h2 k2 o2 l2 hpf
        subst hov
        go_wp2_with (at_builtin; refine wpList_append_own_at _ rfl _ _ 58 rfl 0 81 i0 (.agg #[.int .i64 0, .int .i64 0]) 2 16 Tryz.underlying58 hi hz0 hz1 hz2 rfl (by decide) _ _ _ rfl (O2.out.alloc _) ⟨wr.heap.size + 1, 0, none⟩ 1 1 [.int .i64 (p.1 : Int), .int .i64 (p.2 : Int)] rfl rfl ?c1 ?c2 ?c3 ?c4 (Nat.zero_le _) ?_)
        case c1 =>
          intro j y hj
          rw [Lib.add_plain]
          match j, hj with
          | 0, hj => simp at hj; subst hj; simp
          | 1, hj => simp at hj; subst hj; simp
        case c2 => intro y hy; simp at hy; rcases hy with rfl | rfl <;> rfl
        case c3 => unfold maxLen; omega
        case c4 => omega
        intro v' w4 hown3 hgrow _ hat
        have HIN4 := Lib.hid (show SettleInv lab id b D L f w (k + 1) v' w4 from by
          have hb := below_alloc (wr.alloc (.cells #[.int .i64 (p.1 : Int), .int .i64 (p.2 : Int)] 81)) (.cells #[.int .i64 (p.1 : Int), .int .i64 (p.2 : Int)] 81)
          have h5 := (H2.out.fresh hb).row hgrow (fun j hj => (L2.out j hj).1)
          have k5 := chg_row (chg_below K2.out H2.out hb) hgrow (fun j hj => (L2.out j hj).2)
          refine ⟨lab1, dv1, ?_, k5, ?_, fun j hj => ?_⟩
          · rw [keepsF_take HPP.out, if_neg HPF.out, List.append_nil, marks_skip HPP.out HPF.out]; exact h5
          · rw [dropsF_take HPP.out, if_neg HPF.out, secVs_snoc, List.length_append]; exact hown3
          · rcases hat with h6 | h6
            · exact L2.out j (h6.symm.trans hj)
            · have h7 := h6.symm.trans hj
              simp only [Option.some.injEq] at h7
              have h8 := K2.out.size
              simp only [World.size_alloc] at h8
              exact ⟨H2.out.lo j (by simp; omega), by omega⟩)
        clear hown3 hgrow hat O2 L2 H2 K2
        go_wp2
        go_roundw
        case rel => exact ⟨k + 1, by omega, by go_num, HIN4.out⟩
        case measure => simp [intOf]; omega
    · have hkk : k = D.pend.length := by omega
      have hinv := HINV.out
      unfold SettleInv at hinv
      rw [hkk, List.take_of_length_le (Nat.le_refl _)] at hinv
      have hmk : marksAt f D.pend D.pend.length = dropsF f D.pend := by simp [marksAt]
      rw [hmk] at hinv
      obtain ⟨lab1, dv1, h1, k1, o1, l1⟩ := hinv
      obtain ⟨oa, oc, hov⟩ := own_form o1
      have hz := fun j hj => And.intro (l1 j hj).1 (o1.lt j hj).2
      have h2 := h1.claim (c := id + 3) hz
      have k2 := k1.claim (c := id + 3) (by omega) (fun j hj => (l1 j hj).2)
      have hsub : ∀ q ∈ dropsF f D.pend, q ∈ D.pend := fun q hq => (List.mem_filter.1 hq).1
      obtain ⟨h3, k3⟩ := h2.setPend2 (ps := dropsF f D.pend) (H.out.ok.pend.filter _) (fun q hq => H.out.ok.few q (hsub q hq)) o1 (fun j hj => by unfold claimL; rw [if_pos hj]) (Hp.refl _)
      have c1' := h2.c 1
      have f1' := h2.fz 1
      simp only [List.getElem?_toArray, List.getElem?_cons_zero, List.getElem?_cons_succ] at c1'
      have H3 := Lib.hid h3
      have K3 := Lib.hid (k2.trans k3)
      clear h1 k1 o1 l1 hz h2 k2 h3 k3 hmk hkk c1 HINV
      subst hov
      go_wp2
      go_end0
      exact ⟨rfl, _, _, H3.out, K3.out⟩
end
end Go.Proofs.YtjbcgahdiolhhaaGreatDoor.D2
