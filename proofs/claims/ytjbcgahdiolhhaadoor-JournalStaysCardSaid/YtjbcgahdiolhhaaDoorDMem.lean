/- Several disks in one memory, and what a statement's call may not touch. -/
import Derived.Test.YtjbcgahdiolhhaaDoorDSmallD
namespace Go.Proofs.YtjbcgahdiolhhaaDoor.D2
open Go.RowKit Go.Maps Go.ChangeMaps Go.MapKept
open Dp
attribute [local go_sem ↓] Go.wp_at_zero Go.wp_at_succ

/-- All that was there at the start of the call bears no label, and is as it was. -/
structure Under (w0 w : World) (lab : Nat → Nat) : Prop where
  below : Below w0.heap.size w0 w
  labs : ∀ x, x < w0.heap.size → lab x = 0
theorem Under.start (w0 : World) : Under w0 w0 (fun _ => 0) := ⟨Below.refl _ _, fun _ _ => rfl⟩
theorem Under.step {w0 w w' : World} {lab lab' : Nat → Nat} {id : Nat} (h : Under w0 w lab) (k : Chg id lab lab' w w') (h64 : 64 ≤ id) : Under w0 w' lab' :=
  have hs := h.below.size
  ⟨⟨k.os.trans h.below.os, k.tape.trans h.below.tape, k.output.trans h.below.output, Nat.le_trans hs k.size, fun x hx => (k.block x (by omega) (by rw [h.labs x hx]; omega)).trans (h.below.block x hx)⟩, fun x hx => (k.labs x (by omega)).trans (h.labs x hx)⟩
theorem Under.fresh {w0 w w' : World} {lab : Nat → Nat} (h : Under w0 w lab) (hb : Below w.heap.size w w') : Under w0 w' lab := ⟨h.below.trans (hb.mono h.below.size), h.labs⟩

/-- The disks ds lie in w; what was there in w0 is as it was. -/
structure MemL (w0 w : World) (lab : Nat → Nat) (ds : List (Nat × Dk)) : Prop where
  lo : LabOk lab w
  und : Under w0 w lab
  at_ : ∀ i p, ds[i]? = some p → Dg w lab (64 * (i + 1)) p.1 p.2
theorem MemL.fresh {w0 w w' : World} {lab : Nat → Nat} {ds : List (Nat × Dk)} (h : MemL w0 w lab ds) (hb : Below w.heap.size w w') : MemL w0 w' lab ds :=
  ⟨fun x hx => h.lo x (Nat.le_trans hb.size hx), h.und.fresh hb, fun i p hi => (h.at_ i p hi).fresh hb⟩
theorem MemL.drop {w0 w : World} {lab : Nat → Nat} {ds : List (Nat × Dk)} (h : MemL w0 w lab ds) (k : Nat) : MemL w0 w lab (ds.take k) :=
  ⟨h.lo, h.und, fun i p hi => h.at_ i p (by rw [List.getElem?_take] at hi; split at hi; exact hi; cases hi)⟩
theorem MemL.set {w0 w w' : World} {ds : List (Nat × Dk)} {i b : Nat} {D D' : Dk} {lab lab' : Nat → Nat} (h : MemL w0 w lab ds) (hi : ds[i]? = some (b, D))
    (g : Dg w' lab' (64 * (i + 1)) b D') (k : Chg (64 * (i + 1)) lab lab' w w') : MemL w0 w' lab' (ds.set i (b, D')) := by
  refine ⟨g.lo, h.und.step k (by omega), fun j p hj => ?_⟩
  by_cases he : i = j
  · subst he
    obtain ⟨hlt, _⟩ := List.getElem?_eq_some_iff.1 hi
    rw [List.getElem?_set_self hlt] at hj
    cases hj
    exact g
  · rw [List.getElem?_set_ne he] at hj
    exact (h.at_ j p hj).other k g.lo (by omega)
theorem MemL.push {w0 w w' : World} {ds : List (Nat × Dk)} {b : Nat} {D' : Dk} {lab lab' : Nat → Nat} (h : MemL w0 w lab ds)
    (g : Dg w' lab' (64 * (ds.length + 1)) b D') (k : Chg (64 * (ds.length + 1)) lab lab' w w') : MemL w0 w' lab' (ds ++ [(b, D')]) := by
  refine ⟨g.lo, h.und.step k (by omega), fun j p hj => ?_⟩
  rcases Nat.lt_or_ge j ds.length with hl | hl
  · rw [List.getElem?_append_left hl] at hj
    exact (h.at_ j p hj).other k g.lo (by omega)
  · rw [List.getElem?_append_right hl] at hj
    have hz : j - ds.length = 0 := by
      rcases Nat.eq_zero_or_pos (j - ds.length) with h | h
      · exact h
      · rw [List.getElem?_eq_none (by simp; omega)] at hj; cases hj
    rw [hz] at hj
    obtain rfl : j = ds.length := by omega
    simp at hj
    subst hj
    exact g
def Mem (w0 w : World) (ds : List (Nat × Dk)) : Prop := ∃ lab, MemL w0 w lab ds
theorem Mem.start (w0 : World) : Mem w0 w0 [] := ⟨fun _ => 0, fun _ _ => rfl, Under.start w0, fun i p h => by simp at h⟩
theorem Mem.below {w0 w : World} {ds : List (Nat × Dk)} (h : Mem w0 w ds) : Below w0.heap.size w0 w := by obtain ⟨_, h⟩ := h; exact h.und.below
theorem Mem.fresh {w0 w w' : World} {ds : List (Nat × Dk)} (h : Mem w0 w ds) (hb : Below w.heap.size w w') : Mem w0 w' ds := by
  obtain ⟨lab, h⟩ := h; exact ⟨lab, h.fresh hb⟩
theorem Mem.hp {w0 w w' : World} {ds : List (Nat × Dk)} (h : Mem w0 w ds) (hb : Hp w w') : Mem w0 w' ds := h.fresh (hp_below hb)
theorem Mem.drop {w0 w : World} {ds : List (Nat × Dk)} (h : Mem w0 w ds) (k : Nat) : Mem w0 w (ds.take k) := by
  obtain ⟨lab, h⟩ := h; exact ⟨lab, h.drop k⟩

/-- A call on the disk in block b, the i-th: its result, and the disk behind it. -/
def MPost (w0 : World) (ds : List (Nat × Dk)) (i b : Nat) (r : Value) (D' : Dk) (e : Ending) (w' : World) : Prop := e = .returned r ∧ Mem w0 w' (ds.set i (b, D'))
/-- A call that makes a disk. -/
def NPost (w0 : World) (ds : List (Nat × Dk)) (D' : Dk) (e : Ending) (w' : World) : Prop := ∃ b, e = .returned (.pointer (some ⟨b, 0, none⟩)) ∧ Mem w0 w' (ds ++ [(b, D')])

/-- A list of numbers that was there at the start. -/
def Nums (w0 w : World) (v : Value) (ks : List Int) : Prop := SrcIs w 1 v ks.length (intVs ks) ∧ (∀ z ∈ ks, I64 z) ∧ ∀ ad n c, v = .slice (some ad) n c → 0 < n → ad.block < w0.heap.size
theorem Nums.keep {w0 w w' : World} {v : Value} {ks : List Int} (h : Nums w0 w v ks) (hb : Below w.heap.size w w') : Nums w0 w' v ks := ⟨src_keep h.1 hb, h.2⟩
theorem Nums.nil (w0 w : World) : Nums w0 w (.slice none 0 0) [] := ⟨⟨rfl, .inl ⟨rfl, rfl⟩⟩, fun z hz => (by cases hz), fun ad n c hv => (by cases hv)⟩
theorem Nums.to {w0 w : World} {v : Value} {ks : List Int} (h : Nums w0 w0 v ks) (hb : Below w0.heap.size w0 w) : Nums w0 w v ks := ⟨src_keep h.1 hb, h.2⟩

section
variable {w0 w : World} {ds : List (Nat × Dk)} {i b : Nat} {D : Dk}
theorem mem_write (h : Mem w0 w ds) (hi : ds[i]? = some (b, D)) (f a : Int) (s : List UInt8) (hf : I64 f) (ha : I64 a) (hs : s.length ≤ 140737488355327) :
    Calls Tryd.prog 22 #[.pointer (some ⟨b, 0, none⟩), .int .i64 f, .int .i64 a, .string (bs s)] w (MPost w0 ds i b (.int .i64 (D.write f a s).1) (D.write f a s).2) := by
  obtain ⟨lab, h⟩ := h
  exact (dg_write (h.at_ i _ hi) f a s hf ha hs).mono fun e w' ⟨he, lab', g, k⟩ => ⟨he, lab', h.set hi g k⟩
theorem mem_sync (h : Mem w0 w ds) (hi : ds[i]? = some (b, D)) (f : Int) (hf : I64 f) :
    Calls Tryd.prog 34 #[.pointer (some ⟨b, 0, none⟩), .int .i64 f] w (MPost w0 ds i b (.int .i64 (D.sync f).1) (D.sync f).2) := by
  obtain ⟨lab, h⟩ := h
  exact (dg_sync (h.at_ i _ hi) f hf).mono fun e w' ⟨he, lab', g, k⟩ => ⟨he, lab', h.set hi g k⟩
theorem mem_truncate (h : Mem w0 w ds) (hi : ds[i]? = some (b, D)) (f n : Int) (hf : I64 f) (hn : I64 n) :
    Calls Tryd.prog 36 #[.pointer (some ⟨b, 0, none⟩), .int .i64 f, .int .i64 n] w (MPost w0 ds i b (.int .i64 (D.truncate f n).1) (D.truncate f n).2) := by
  obtain ⟨lab, h⟩ := h
  exact (dg_truncate (h.at_ i _ hi) f n hf hn).mono fun e w' ⟨he, lab', g, k⟩ => ⟨he, lab', h.set hi g k⟩
theorem mem_start (h : Mem w0 w ds) (hi : ds[i]? = some (b, D)) : Calls Tryd.prog 19 #[.pointer (some ⟨b, 0, none⟩)] w (MPost w0 ds i b (.tuple #[]) D.start) := by
  obtain ⟨lab, h⟩ := h
  exact (dg_start (h.at_ i _ hi)).mono fun e w' ⟨he, lab', g, k⟩ => ⟨he, lab', h.set hi g k⟩
theorem mem_arm (h : Mem w0 w ds) (hi : ds[i]? = some (b, D)) (n : Int) (hn : I64 n) (v : Value) (ks : List Int) (hs : Nums w0 w v ks) (hl : ks.length ≤ 1000000) :
    Calls Tryd.prog 12 #[.pointer (some ⟨b, 0, none⟩), .int .i64 n, v] w (MPost w0 ds i b (.tuple #[]) (D.arm n ks)) := by
  obtain ⟨lab, h⟩ := h
  exact (dg_arm (h.at_ i _ hi) n hn v ks hs.1 hs.2.1 hl).mono fun e w' ⟨he, lab', g, k⟩ => ⟨he, lab', h.set hi g k⟩
theorem mem_crash (h : Mem w0 w ds) (hi : ds[i]? = some (b, D)) (v : Value) (ks : List Int) (hs : Nums w0 w v ks) (hl : ks.length ≤ 140737488355327) :
    Calls Tryd.prog 18 #[.pointer (some ⟨b, 0, none⟩), v] w (MPost w0 ds i b (.tuple #[]) (D.crash ks)) := by
  obtain ⟨lab, h⟩ := h
  exact (dg_crash (h.at_ i _ hi) v ks hs.1 (fun ad n c hv hn => .inl (by rw [h.und.labs _ (hs.2.2 ad n c hv hn)]; omega)) hl).mono fun e w' ⟨he, lab', g, k⟩ => ⟨he, lab', h.set hi g k⟩
theorem mem_crash_new {w1 : World} (h : Mem w0 w ds) (hb : Below w.heap.size w w1) (hi : ds[i]? = some (b, D)) (v : Value) (ks : List Int) (hs : SrcIs w1 1 v ks.length (intVs ks)) (hv : ∀ ad n c, v = .slice (some ad) n c → w.heap.size ≤ ad.block) (hl : ks.length ≤ 140737488355327) :
    Calls Tryd.prog 18 #[.pointer (some ⟨b, 0, none⟩), v] w1 (MPost w0 ds i b (.tuple #[]) (D.crash ks)) := by
  obtain ⟨lab, h⟩ := h
  exact (dg_crash ((h.at_ i _ hi).fresh hb) v ks hs (fun ad n c hv' _ => .inl (by rw [h.lo _ (hv ad n c hv')]; omega)) hl).mono fun e w' ⟨he, lab', g, k⟩ => ⟨he, lab', (h.fresh hb).set hi g k⟩
theorem mem_size (h : Mem w0 w ds) (hi : ds[i]? = some (b, D)) (f : Int) (hf : I64 f) : Calls Tryd.prog 31 #[.pointer (some ⟨b, 0, none⟩), .int .i64 f] w fun e w' => e = .returned (.int .i64 (D.size f : Int)) ∧ w = w' := by
  obtain ⟨lab, h⟩ := h
  exact dg_size (h.at_ i _ hi) f hf
theorem mem_read (h : Mem w0 w ds) (hi : ds[i]? = some (b, D)) (f a n : Int) (hf : I64 f) (ha : I64 a) (hn : I64 n) :
    Calls Tryd.prog 30 #[.pointer (some ⟨b, 0, none⟩), .int .i64 f, .int .i64 a, .int .i64 n] w fun e w' => e = .returned (.tuple #[.string (bs (D.read f a n).1), .int .i64 (D.read f a n).2]) ∧ Mem w0 w' ds := by
  have hm := h
  obtain ⟨lab, h⟩ := h
  exact (dg_read (h.at_ i _ hi) f a n hf ha hn).mono fun e w' ⟨he, hp⟩ => ⟨he, hm.hp hp⟩
theorem mem_new (h : Mem w0 w ds) : Calls Tryd.prog 9 #[] w (NPost w0 ds new) := by
  obtain ⟨lab, h⟩ := h
  exact (dg_new w lab (64 * (ds.length + 1)) (by omega)).mono fun e w' ⟨b', he, lab', g, k⟩ => ⟨b', he, lab', h.push g k⟩
end
end Go.Proofs.YtjbcgahdiolhhaaDoor.D2
