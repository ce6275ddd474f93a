/- small: the examples of the documentation. -/
import Derived.Test.YtjbcgahdiolhhaaDoorDDo
namespace Go.Proofs.YtjbcgahdiolhhaaDoor.D2
open Go.RowKit Go.Maps Go.ChangeMaps Go.MapKept
open Dp
attribute [local go_sem ↓] Go.wp_at_zero Go.wp_at_succ

theorem I64.zero : I64 0 := ⟨by decide, by decide⟩
/-- A disk, with what every disk meets. -/
structure Dg (w : World) (lab : Nat → Nat) (id b : Nat) (D : Dk) : Prop where
  at_ : ∃ L, DiskIn w lab id b D D.pend L
  good : Good D
theorem Dg.other {w w' : World} {lab lab' : Nat → Nat} {id id' b : Nat} {D : Dk} (h : Dg w lab id b D) (k : Chg id' lab lab' w w') (lo : LabOk lab' w') (hne : id' + 64 ≤ id ∨ id + 64 ≤ id') : Dg w' lab' id b D := by
  obtain ⟨⟨L, h1⟩, h2⟩ := h
  exact ⟨⟨L, h1.other k lo hne⟩, h2⟩
theorem Dg.fresh {w w' : World} {lab : Nat → Nat} {id b : Nat} {D : Dk} (h : Dg w lab id b D) (hb : Below w.heap.size w w') : Dg w' lab id b D := by
  obtain ⟨⟨L, h1⟩, h2⟩ := h
  exact ⟨⟨L, h1.fresh hb⟩, h2⟩
theorem Dg.lo {w : World} {lab : Nat → Nat} {id b : Nat} {D : Dk} (h : Dg w lab id b D) : LabOk lab w := by
  obtain ⟨⟨L, h1⟩, _⟩ := h; exact h1.lo
theorem hp_below {w w' : World} (h : Hp w w') : Below w.heap.size w w' := ⟨h.os, h.tape, h.output, by rw [h.heap]; exact Nat.le_refl _, fun k _ => by rw [h.heap]⟩

/-- What a call on a disk leaves: its result, the disk, and what may have changed. -/
def DgPost (lab : Nat → Nat) (id b : Nat) (r : Value) (D' : Dk) (w : World) (e : Ending) (w' : World) : Prop :=
  e = .returned r ∧ ∃ lab', Dg w' lab' id b D' ∧ Chg id lab lab' w w'
section
variable {w : World} {lab : Nat → Nat} {id b : Nat} {D : Dk}
theorem dg_write (h : Dg w lab id b D) (f a : Int) (s : List UInt8) (hf : I64 f) (ha : I64 a) (hs : s.length ≤ 140737488355327) :
    Calls Tryd.prog 22 #[.pointer (some ⟨b, 0, none⟩), .int .i64 f, .int .i64 a, .string (bs s)] w (DgPost lab id b (.int .i64 (D.write f a s).1) (D.write f a s).2 w) := by
  obtain ⟨⟨L, h1⟩, hg⟩ := h
  exact (write_any h1 hg.inn f a s hf ha hs).mono fun e w' ⟨he, lab', L', h2, k⟩ => ⟨he, lab', ⟨⟨L', h2⟩, good_write hg f a s⟩, k⟩
theorem dg_sync (h : Dg w lab id b D) (f : Int) (hf : I64 f) :
    Calls Tryd.prog 34 #[.pointer (some ⟨b, 0, none⟩), .int .i64 f] w (DgPost lab id b (.int .i64 (D.sync f).1) (D.sync f).2 w) := by
  obtain ⟨⟨L, h1⟩, hg⟩ := h
  exact (sync_any h1 hg.inn f hf).mono fun e w' ⟨he, lab', L', h2, k⟩ => ⟨he, lab', ⟨⟨L', h2⟩, good_sync hg f⟩, k⟩
theorem dg_truncate (h : Dg w lab id b D) (f n : Int) (hf : I64 f) (hn : I64 n) :
    Calls Tryd.prog 36 #[.pointer (some ⟨b, 0, none⟩), .int .i64 f, .int .i64 n] w (DgPost lab id b (.int .i64 (D.truncate f n).1) (D.truncate f n).2 w) := by
  obtain ⟨⟨L, h1⟩, hg⟩ := h
  exact (truncate_any h1 hg f n hf hn).mono fun e w' ⟨he, lab', L', h2, k⟩ => ⟨he, lab', ⟨⟨L', h2⟩, good_truncate hg f n⟩, k⟩
theorem dg_start (h : Dg w lab id b D) : Calls Tryd.prog 19 #[.pointer (some ⟨b, 0, none⟩)] w (DgPost lab id b (.tuple #[]) D.start w) := by
  obtain ⟨⟨L, h1⟩, hg⟩ := h
  exact (start_any h1).mono fun e w' ⟨he, h2, k⟩ => ⟨he, lab, ⟨⟨L, h2⟩, hg.of rfl rfl rfl⟩, k⟩
theorem dg_arm (h : Dg w lab id b D) (n : Int) (hn : I64 n) (v : Value) (ks : List Int) (hs : SrcIs w 1 v ks.length (intVs ks)) (hk : ∀ z ∈ ks, I64 z) (hl : ks.length ≤ 1000000) :
    Calls Tryd.prog 12 #[.pointer (some ⟨b, 0, none⟩), .int .i64 n, v] w (DgPost lab id b (.tuple #[]) (D.arm n ks) w) := by
  obtain ⟨⟨L, h1⟩, hg⟩ := h
  exact (arm_any h1 n hn v ks hs hk hl).mono fun e w' ⟨he, lab', L', h2, k⟩ => ⟨he, lab', ⟨⟨L', h2⟩, hg.of rfl rfl rfl⟩, k⟩
theorem dg_crash (h : Dg w lab id b D) (v : Value) (ks : List Int) (hs : SrcIs w 1 v ks.length (intVs ks)) (ho : Outside lab id v) (hl : ks.length ≤ 140737488355327) :
    Calls Tryd.prog 18 #[.pointer (some ⟨b, 0, none⟩), v] w (DgPost lab id b (.tuple #[]) (D.crash ks) w) := by
  obtain ⟨⟨L, h1⟩, hg⟩ := h
  exact (crash_any h1 v ks ⟨hs, .inr ho⟩ hl hg.inn).mono fun e w' ⟨he, lab', L', h2, k⟩ => ⟨he, lab', ⟨⟨L', h2⟩, good_crash hg ks⟩, k⟩
theorem dg_size (h : Dg w lab id b D) (f : Int) (hf : I64 f) : Calls Tryd.prog 31 #[.pointer (some ⟨b, 0, none⟩), .int .i64 f] w fun e w' => e = .returned (.int .i64 (D.size f : Int)) ∧ w = w' := by
  obtain ⟨⟨L, h1⟩, _⟩ := h; exact size_any h1 f hf
theorem dg_read (h : Dg w lab id b D) (f a n : Int) (hf : I64 f) (ha : I64 a) (hn : I64 n) :
    Calls Tryd.prog 30 #[.pointer (some ⟨b, 0, none⟩), .int .i64 f, .int .i64 a, .int .i64 n] w (ReadPost (D.read f a n) w) := by
  obtain ⟨⟨L, h1⟩, _⟩ := h; exact read_any h1 f a n hf ha hn
def MadePost (lab : Nat → Nat) (id : Nat) (D : Dk) (w : World) (e : Ending) (w' : World) : Prop :=
  ∃ b, e = .returned (.pointer (some ⟨b, 0, none⟩)) ∧ ∃ lab', Dg w' lab' id b D ∧ Chg id lab lab' w w'
theorem dg_new (w : World) (lab : Nat → Nat) (id : Nat) (h64 : 64 ≤ id) : Calls Tryd.prog 9 #[] w (MadePost lab id new w) :=
  (new_any w lab id h64).mono fun _ _ ⟨b', he, lab', L', h2, k⟩ => ⟨b', he, lab', ⟨⟨L', h2⟩, good_new⟩, k⟩
end

/-! ### The examples, reckoned -/
def e0 : Dk := new
def e1 : Dk := (e0.write 0 0 [97, 98, 99]).2
def e2 : Dk := (e1.sync 0).2
def e3 : Dk := (e2.write 0 1 [88, 89]).2
def e4 : Dk := (e3.crash [1]).start
def f1 : Dk := (e3.crash [0]).start
def f2 : Dk := (f1.write 1 62 [97, 98, 99, 100]).2
def f3 : Dk := (f2.crash [0, 1]).start
theorem ex1 : (e0.write 0 0 [97, 98, 99]).1 = 0 ∧ (e1.sync 0).1 = 0 ∧ (e3.crash [1]).down = true ∧ (e3.crash [1]).read 0 0 9 = ([], 8) := by decide
theorem ex2 : e4.read 0 0 9 = ([97, 88, 89], 0) ∧ f1.read 0 1 9 = ([98, 99], 0) ∧ (f1.write 1 62 [97, 98, 99, 100]).1 = 0 := by decide
theorem ex3 : f3.read 1 60 100 = ([0, 0, 0, 0, 99, 100], 0) ∧ f3.size 1 = 66 ∧ (f3.write 16 0 []).1 = 1 ∧ ((f3.write 16 0 []).2.write 1 16777216 [97]).1 = 6 := by decide
end Go.Proofs.YtjbcgahdiolhhaaDoor.D2
