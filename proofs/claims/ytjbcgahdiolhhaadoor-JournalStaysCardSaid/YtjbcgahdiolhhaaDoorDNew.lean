/- New. -/
import Derived.Test.YtjbcgahdiolhhaaDoorDCrash
import Derived.Test.YtjbcgahdiolhhaaDoorDDGood
namespace Go.Proofs.YtjbcgahdiolhhaaDoor.D2
open Go.RowKit Go.Maps Go.ChangeMaps Go.MapKept
open Dp
attribute [local go_sem ↓] Go.wp_at_zero Go.wp_at_succ

/-- The labels of a new disk whose blocks stand in a row from B on. -/
def newLab (lab : Nat → Nat) (id B x : Nat) : Nat :=
  if x < B then lab x else if x = B then id + 1 else if x = B + 1 then id + 2 else if x = B + 2 then id else if x < B + 19 then id + 5 + (x - (B + 3)) else 0
def firstFiles (B k : Nat) : Lit → Option Value
  | .int .i64 f => if 0 ≤ f ∧ f < (k : Int) then some (.pointer (some ⟨B + 3 + f.toNat, 0, none⟩)) else none
  | _ => none
structure NewInv (w : World) (k : Nat) (wr : World) : Prop where
  size : wr.heap.size = w.heap.size + 3 + k
  below : Below w.heap.size w wr
  files : MapIs Tryd.prog wr 3 w.heap.size k (firstFiles w.heap.size k)
  marks : wr.heap[w.heap.size + 1]? = some (.map #[] 0)
  disk : wr.heap[w.heap.size + 2]? = some (.cells #[.map (some w.heap.size), .slice none 0 0, .map (some (w.heap.size + 1)), .bool false, .int .i64 0, .int .i64 0, .slice none 0 0] 64 (0, 0))
  file : ∀ f, f < k → wr.heap[w.heap.size + 3 + f]? = some (.cells #[.slice none 0 0, .slice none 0 0] 67 (0, 0))
theorem newInv_disk {w wr : World} {lab : Nat → Nat} {id : Nat} (h : NewInv w 16 wr) (h64 : 64 ≤ id) :
    DiskIn wr (newLab lab id w.heap.size) id (w.heap.size + 2) new [] { fm := w.heap.size, fc := 16, mm := w.heap.size + 1, g := fun f => w.heap.size + 3 + f, pv := .slice none 0 0, kv := .slice none 0 0, nv := fun _ => .slice none 0 0, dv := fun _ => .slice none 0 0 } ∧ Chg id lab (newLab lab id w.heap.size) w wr := by
  have hs := h.size
  refine ⟨⟨⟨fun _ => Nat.zero_le _, fun _ => Nat.zero_le _, List.nodup_nil, fun _ h => (by cases h), by decide, by decide, fun _ h => (by cases h), by decide⟩, fun x hx => ?_, h64, h.disk, Nat.le_refl _, h.files.congr (fun kl => ?_) rfl, ?_, World.ownsRow_nil _ _ _ _, World.ownsRow_nil _ _ _ _, h.file, fun _ _ => World.ownsRow_nil _ _ _ _, fun _ _ => World.ownsRow_nil _ _ _ _, ?_, ?_, ?_, fun _ h => (by cases h), fun _ h => (by cases h), fun f hf => ?_, fun _ _ _ h => (by cases h), fun _ _ _ h => (by cases h)⟩,
    ⟨h.below.os, h.below.tape, h.below.output, h.below.size, fun x hx => by simp [newLab, hx], fun x hx _ => h.below.block x hx, fun x hx => ?_⟩⟩
  · unfold newLab; (repeat' split) <;> omega
  · unfold fileMap firstFiles; rfl
  · exact ⟨.map [], ⟨#[], 0, h.marks, ⟨by simp, stamped_empty 0, by simp⟩, Nat.le_refl _, rfl⟩, rfl, fun kl _ => by rw [markMap_nil]; simp [DataW.atKey], fun kl => by rw [markMap_nil]; rfl⟩
  · unfold newLab; (repeat' split) <;> omega
  · show newLab lab id w.heap.size w.heap.size = _
    unfold newLab; (repeat' split) <;> omega
  · show newLab lab id w.heap.size (w.heap.size + 1) = _
    unfold newLab; (repeat' split) <;> omega
  · show newLab lab id w.heap.size (w.heap.size + 3 + f) = _
    unfold newLab; (repeat' split) <;> omega
  · unfold newLab; (repeat' split) <;> omega

theorem update_size {P : Program} {w w4 : World} {k : TypeId} {b c : Nat} {m : Lit → Option Value} {t e : TypeId} (h : MapIs P w k b c m) (K : Keyed P k) (ht : P.underlying t = some (.map k e)) (hn : c < maxLen) {key val : Value} {kl : Lit} (hkey : keyOf P k key = some kl)
    (hr : (Instr.mapUpdate t (.map (some b)) key val).run P w = .ok () w4) : w4.heap.size = w.heap.size := by
  obtain ⟨D, h, _⟩ := h
  obtain ⟨w', hr', _, ht'⟩ := h.store K ht hn hkey (val := val) (d := .held val) (ps := []) rfl
  rw [hr] at hr'
  obtain rfl : w4 = w' := by injection hr'
  obtain ⟨es, clock, es', clock', _, rfl⟩ := ht'
  simp [setBlock]
theorem newInv_start (w : World) : NewInv w 0 (((w.alloc (.map #[] 0)).alloc (.map #[] 0)).alloc (.cells #[.map (some w.heap.size), .slice none 0 0, .map (some (w.heap.size + 1)), .bool false, .int .i64 0, .int .i64 0, .slice none 0 0] 64)) where
  size := by simp
  below := (((Below.refl _ w).alloc (Nat.le_refl _) _).alloc (by simp) _).alloc (by simp; omega) _
  files := by
    have h := mapIs_made (P := Tryd.prog) (k := 3) w
    have h1 := h.kept (World.grownBy_alloc _ (.map #[] 0) none) (by simp)
    have h2 := h1.kept (World.grownBy_alloc _ (.cells #[.map (some w.heap.size), .slice none 0 0, .map (some (w.heap.size + 1)), .bool false, .int .i64 0, .int .i64 0, .slice none 0 0] 64) none) (by simp)
    refine h2.congr (fun kl => ?_) rfl
    unfold firstFiles
    split
    · rw [if_neg (by omega)]
    · rfl
  marks := by
    have h1 : ((w.alloc (.map #[] 0)).alloc (.map #[] 0)).heap[w.heap.size + 1]? = some (.map #[] 0) := by
      have := (MapKept.heap_alloc (w.alloc (.map #[] 0)) (.map #[] 0)).1
      simpa using this
    exact ((World.grownBy_alloc _ _ none).block _ (by simp) (by simp)).trans h1
  disk := by
    have := (MapKept.heap_alloc ((w.alloc (.map #[] 0)).alloc (.map #[] 0)) (.cells #[.map (some w.heap.size), .slice none 0 0, .map (some (w.heap.size + 1)), .bool false, .int .i64 0, .int .i64 0, .slice none 0 0] 64)).1
    simpa using this
  file := fun f hf => absurd hf (Nat.not_lt_zero f)
theorem newInv_next {w wr : World} {k : Nat} (h : NewInv w k wr) (hk : k < 16) :
    ∃ w4, (Instr.mapUpdate 60 (.map (some w.heap.size)) (.int .i64 (k : Int)) (.pointer (some ⟨wr.heap.size, 0, none⟩))).run Tryd.prog (wr.alloc (.cells #[.slice none 0 0, .slice none 0 0] 67)) = .ok () w4 ∧ NewInv w (k + 1) w4 := by
  have hA := h.files.kept (World.grownBy_alloc wr (.cells #[.slice none 0 0, .slice none 0 0] 67) none) (by simp)
  obtain ⟨w4, hr, m4, g4⟩ := hA.store (val := .pointer (some ⟨wr.heap.size, 0, none⟩)) lawI Tryd.underlying60 (by unfold maxLen; omega) (keyI (x := (k : Int)) ⟨by omega, by omega⟩) (by show (if 0 ≤ (k : Int) ∧ (k : Int) < (k : Int) then _ else none) = _; rw [if_neg (by omega)])
  have hs := h.size
  have hz4 : w4.heap.size = wr.heap.size + 1 := by
    have := update_size hA lawI Tryd.underlying60 (by unfold maxLen; omega) (keyI (x := (k : Int)) ⟨by omega, by omega⟩) hr
    simpa using this
  have hb : Below wr.heap.size wr (wr.alloc (.cells #[.slice none 0 0, .slice none 0 0] 67)) := below_alloc _ _
  have hblk : ∀ x, x < wr.heap.size → x ≠ w.heap.size → w4.heap[x]? = wr.heap[x]? := fun x hx hne => (g4.block x (by simp; omega) (by simp; exact hne)).trans (hb.block x hx)
  refine ⟨w4, hr, ⟨by omega, ?_, m4.congr (fun kl => ?_) rfl, (hblk _ (by omega) (by omega)).trans h.marks, (hblk _ (by omega) (by omega)).trans h.disk, fun f hf => ?_⟩⟩
  · exact ⟨(g4.os.trans hb.os).trans h.below.os, (g4.tape.trans hb.tape).trans h.below.tape, (g4.output.trans hb.output).trans h.below.output, by omega, fun x hx => (hblk x (by omega) (by omega)).trans (h.below.block x hx)⟩
  · unfold firstFiles
    split
    · rename_i f
      by_cases he : f = (k : Int)
      · subst he
        rw [if_pos (show 0 ≤ (k : Int) ∧ (k : Int) < ((k + 1 : Nat) : Int) by omega), if_pos rfl, hs]
        simp
      · rw [if_neg (show ¬ (Lit.int .i64 f = Lit.int .i64 (k : Int)) by simpa using he)]
        by_cases h2 : 0 ≤ f ∧ f < (k : Int)
        · rw [if_pos (show 0 ≤ f ∧ f < ((k + 1 : Nat) : Int) by omega)]
          show _ = (if 0 ≤ f ∧ f < (k : Int) then _ else none)
          rw [if_pos h2]
        · rw [if_neg (show ¬ (0 ≤ f ∧ f < ((k + 1 : Nat) : Int)) by omega)]
          show _ = (if 0 ≤ f ∧ f < (k : Int) then _ else none)
          rw [if_neg h2]
    · rename_i hx
      rw [if_neg (by rintro rfl; exact hx _ rfl)]
  · by_cases he : f = k
    · subst he
      rw [← hs, g4.block _ (by simp) (by simp; omega)]
      exact (MapKept.heap_alloc wr _).1
    · rw [hblk _ (by omega) (by omega)]
      exact h.file f (by omega)
/-- What a call that makes a disk leaves. -/
def NewPost (lab : Nat → Nat) (id : Nat) (D : Dk) (w : World) (e : Ending) (w' : World) : Prop :=
  ∃ b, e = .returned (.pointer (some ⟨b, 0, none⟩)) ∧ ∃ lab' L', DiskIn w' lab' id b D D.pend L' ∧ Chg id lab lab' w w'

set_option maxHeartbeats 2000000 in
set_option maxRecDepth 100000 in
theorem new_any (w : World) (lab : Nat → Nat) (id : Nat) (h64 : 64 ≤ id) :
    Calls Tryd.prog 9 #[] w (NewPost lab id new w) := by
  have hmm := @run_makeMap Tryd.prog
  go_enter Tryd.func9, Tryd.ntmps9
  go_wp2
  have HST := Lib.hid (newInv_start w)
  generalize (((w.alloc (.map #[] 0)).alloc (.map #[] 0)).alloc (.cells #[.map (some w.heap.size), .slice none 0 0, .map (some (w.heap.size + 1)), .bool false, .int .i64 0, .int .i64 0, .slice none 0 0] 64)) = w1 at HST ⊢
  go_loopw [7] (fun i wr => ∃ k : Nat, k ≤ 16 ∧ i = .int .i64 (k : Int) ∧ NewInv w k wr) (fun i _ => 16 - (intOf i).toNat)
  case atStart => exact ⟨0, by omega, rfl, HST.out⟩
  case round =>
    obtain ⟨k, hk, rfl, hinv⟩ := hrel
    have HINV := Lib.hid hinv
    clear hinv
    by_cases hlt : k < 16
    · obtain ⟨w4, hup, h4⟩ := newInv_next HINV.out hlt
      have c0 : wr.cell? ⟨w.heap.size + 2, 0, none⟩ = some (.map (some w.heap.size)) := by rw [Lib.cell_of_heap HINV.out.disk]; rfl
      have c0' := alloc_cell c0 (.cells #[.slice none 0 0, .slice none 0 0] 67)
      have H4 := Lib.hid h4
      clear h4
      go_wp2
      go_roundw
      case rel => exact ⟨k + 1, by omega, by go_num, H4.out⟩
      case measure => simp [intOf]; omega
    · obtain rfl : k = 16 := by omega
      go_wp2
      go_ret
      obtain ⟨h1, k1⟩ := newInv_disk (lab := lab) HINV.out h64
      exact ⟨_, rfl, _, _, h1, k1⟩
end Go.Proofs.YtjbcgahdiolhhaaDoor.D2
