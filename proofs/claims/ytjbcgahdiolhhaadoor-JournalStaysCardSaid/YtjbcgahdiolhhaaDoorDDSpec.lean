/- Layer 2 as plain functions on data: no Go. -/
namespace Go.Proofs.YtjbcgahdiolhhaaDoor.D2
namespace Dp

/-- The errors that the disk returns. -/
def eOK : Int := 0
def eArg : Int := 1
def eFull : Int := 6
def eDown : Int := 8
def eLost : Int := 9

/-- A disk. -/
structure Dk where
  now : Nat → List UInt8
  dur : Nat → List UInt8
  pend : List (Nat × Nat)
  down : Bool
  lost : Nat
  calls : Nat
  keep : List Int

/-- Bytes, at least one, put into others at an offset. -/
def putL (s : List UInt8) (at_ : Nat) (t : List UInt8) : List UInt8 :=
  let s' := s ++ List.replicate (at_ + t.length - s.length) 0
  s'.take at_ ++ t ++ s'.drop (at_ + t.length)

def upd {α : Type} (g : Nat → α) (f : Nat) (x : α) : Nat → α := fun i => if i = f then x else g i
theorem upd_same {α : Type} (g : Nat → α) (f : Nat) (x : α) : upd g f x f = x := by simp [upd]
theorem upd_other {α : Type} (g : Nat → α) {f i : Nat} (x : α) (h : i ≠ f) : upd g f x i = g i := by simp [upd, h]

/-- The bytes of a sector. -/
def sec (s : List UInt8) (n : Nat) : List UInt8 := (s.drop (64 * n)).take 64

def new : Dk := { now := fun _ => [], dur := fun _ => [], pend := [], down := false, lost := 0, calls := 0, keep := [] }

def Dk.harden (D : Dk) (p : Nat × Nat) : Dk := { D with dur := upd D.dur p.1 (putL (D.dur p.1) (64 * p.2) (sec (D.now p.1) p.2)) }
def hardens (D : Dk) (ps : List (Nat × Nat)) : Dk := ps.foldl Dk.harden D

def Dk.settle (D : Dk) (f : Nat) : Dk := { hardens D (D.pend.filter (fun p => p.1 = f)) with pend := D.pend.filter (fun p => p.1 ≠ f) }

/-- Does the pending sector with this index survive? -/
def odd (keep : List Int) (i : Nat) : Bool := decide (0 < keep.length) && decide ((keep.getD (i % keep.length) 0).tmod 2 ≠ 0)
/-- What of the pending sectors from an index on survives. -/
def survive (keep : List Int) : Nat → List (Nat × Nat) → List (Nat × Nat)
  | _, [] => []
  | i, p :: ps => (if odd keep i then [p] else []) ++ survive keep (i + 1) ps

def Dk.crash (D : Dk) (keep : List Int) : Dk :=
  if D.down then D else
  let D1 := hardens D (survive keep 0 D.pend)
  { D1 with now := fun f => if f < 16 then D1.dur f else D1.now f, pend := [], calls := 0, keep := [], down := true }

/-- A call is counted: has the machine gone down? -/
def Dk.strike (D : Dk) : Bool × Dk :=
  if D.calls = 0 then (false, D)
  else if D.calls = 1 then (true, ({ D with calls := 0 } : Dk).crash D.keep)
  else (false, { D with calls := D.calls - 1 })

def addSec (ps : List (Nat × Nat)) (p : Nat × Nat) : List (Nat × Nat) := if p ∈ ps then ps else ps ++ [p]
/-- The sectors of a file from one number on, so many. -/
def secs (f n : Nat) : Nat → List (Nat × Nat)
  | 0 => []
  | k + 1 => (f, n) :: secs f (n + 1) k
def addSecs (ps : List (Nat × Nat)) (f n k : Nat) : List (Nat × Nat) := (secs f n k).foldl addSec ps

def isFile (f : Int) : Bool := decide (0 ≤ f ∧ f < 16)

def Dk.put (D : Dk) (f at_ : Nat) (s : List UInt8) : Dk :=
  { D with now := upd D.now f (putL (D.now f) at_ s), pend := addSecs D.pend f (at_ / 64) ((at_ + s.length - 1) / 64 + 1 - at_ / 64) }

/-- A write of a machine that is up. -/
def Dk.wr (D : Dk) (f a : Int) (s : List UInt8) : Int × Dk :=
  if isFile f = false ∨ a < 0 then (eArg, D)
  else if 16777216 - (s.length : Int) < a then (eFull, D)
  else if s = [] then (eOK, D)
  else (eOK, D.put f.toNat a.toNat s)

def Dk.write (D : Dk) (f a : Int) (s : List UInt8) : Int × Dk :=
  if D.down then (eDown, D) else
  let r := D.wr f a s
  if r.2.strike.1 then (eDown, r.2.strike.2) else (r.1, r.2.strike.2)

def Dk.sync (D : Dk) (f : Int) : Int × Dk :=
  if D.down then (eDown, D) else
  let r := D.strike
  if r.1 then (eDown, r.2)
  else if isFile f = false then (eArg, r.2)
  else if 0 < r.2.lost then (eLost, { r.2 with lost := r.2.lost - 1 })
  else (eOK, r.2.settle f.toNat)

def Dk.size (D : Dk) (f : Int) : Nat := if isFile f then (D.now f.toNat).length else 0

def Dk.trunc (D : Dk) (f : Int) (n : Nat) : Dk :=
  let r := D.settle f.toNat
  { r with now := upd r.now f.toNat ((r.now f.toNat).take n), dur := upd r.dur f.toNat ((r.dur f.toNat).take n) }

def Dk.truncate (D : Dk) (f n : Int) : Int × Dk :=
  if D.down then (eDown, D) else
  let r := D.strike
  if r.1 then (eDown, r.2)
  else if isFile f = false ∨ n < 0 ∨ (r.2.size f : Int) < n then (eArg, r.2)
  else (eOK, r.2.trunc f n.toNat)

def Dk.read (D : Dk) (f a n : Int) : List UInt8 × Int :=
  if D.down then ([], eDown)
  else if isFile f = false ∨ a < 0 ∨ n < 0 then ([], eArg)
  else (((D.now f.toNat).drop a.toNat).take n.toNat, eOK)

def Dk.arm (D : Dk) (n : Int) (keep : List Int) : Dk := { D with calls := n.toNat, keep := keep }
def Dk.lose (D : Dk) (n : Int) : Dk := { D with lost := n.toNat }
def Dk.start (D : Dk) : Dk := { D with down := false }

def I64 (x : Int) : Prop := -9223372036854775808 ≤ x ∧ x ≤ 9223372036854775807

/-- What every disk meets, also in the middle of a call. -/
structure Dk.Ok (D : Dk) : Prop where
  now : ∀ f, (D.now f).length ≤ 16777216
  dur : ∀ f, (D.dur f).length ≤ 16777216
  pend : D.pend.Nodup
  few : ∀ p ∈ D.pend, p.1 < 16 ∧ p.2 < 262144
  lost : (D.lost : Int) ≤ 9223372036854775807
  calls : (D.calls : Int) ≤ 9223372036854775807
  keep : ∀ z ∈ D.keep, I64 z
  size : (D.keep.length : Int) ≤ 140737488355327

/-- What is pending lies in its file. -/
def Dk.In (D : Dk) : Prop := ∀ p ∈ D.pend, 64 * p.2 < (D.now p.1).length

theorem putL_length (s : List UInt8) (a : Nat) (t : List UInt8) : (putL s a t).length = max s.length (a + t.length) := by
  simp only [putL, List.length_append, List.length_take, List.length_drop, List.length_replicate]; omega
end Dp
end Go.Proofs.YtjbcgahdiolhhaaDoor.D2
