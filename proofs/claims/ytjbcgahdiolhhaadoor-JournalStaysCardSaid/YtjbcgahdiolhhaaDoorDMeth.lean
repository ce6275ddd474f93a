/- The methods of a disk that write nothing but its own fields. -/
import Derived.Test.YtjbcgahdiolhhaaDoorBase
import Derived.Test.YtjbcgahdiolhhaaDoorDLift
import Derived.Laws.IdiomStrings
import Derived.Lib.BufferRead
namespace Go.Proofs.YtjbcgahdiolhhaaDoor.D2
open Go.RowKit Go.Maps Go.ChangeMaps Go.MapKept
open Dp
attribute [local go_sem ↓] Go.wp_at_zero Go.wp_at_succ

theorem set_comm {w : World} {b o p : Nat} (u v : Value) (h : o ≠ p) : ((w.setCell ⟨b, o, none⟩ u).setCell ⟨b, p, none⟩ v).heap = ((w.setCell ⟨b, p, none⟩ v).setCell ⟨b, o, none⟩ u).heap := by
  apply Array.ext_getElem?
  intro i
  by_cases hb : b = i
  · subst hb
    cases hh : w.heap[b]? with
    | none => simp [World.setCell, Array.getElem?_modify, hh]
    | some ob => cases ob <;> simp [World.setCell, Array.getElem?_modify, hh, Array.setIfInBounds_comm _ _ h]
  · simp [World.setCell, Array.getElem?_modify, hb]
section
variable {w : World} {lab : Nat → Nat} {id b : Nat} {D : Dk} {mk : List (Nat × Nat)} {L : Loc}

/-- A field has been stored. -/
def FieldPost (lab : Nat → Nat) (id b : Nat) (D' : Dk) (mk : List (Nat × Nat)) (L : Loc) (w : World) (e : Ending) (w' : World) : Prop :=
  e = .returned (.tuple #[]) ∧ DiskIn w' lab id b D' mk L ∧ Chg id lab lab w w'

set_option maxRecDepth 100000 in
theorem start_any (h : DiskIn w lab id b D mk L) : Calls Tryd.prog 19 #[.pointer (some ⟨b, 0, none⟩)] w (FieldPost lab id b D.start mk L w) := by
  have c3 := h.c 3
  have f3 := h.fz 3
  have H := Lib.hid h
  simp only [List.getElem?_toArray, List.getElem?_cons_zero, List.getElem?_cons_succ] at c3
  clear h
  go_enter Tryd.func19, Tryd.ntmps19
  go_wp2
  go_end0
  have h := H.out
  exact ⟨rfl, h.setField (Hp.refl _) ⟨h.ok.now, h.ok.dur, h.ok.pend, h.ok.few, h.ok.lost, h.ok.calls, h.ok.keep, h.ok.size⟩ rfl rfl rfl rfl rfl⟩

set_option maxRecDepth 100000 in
theorem lose_any (h : DiskIn w lab id b D mk L) (n : Int) (hn : I64 n) : Calls Tryd.prog 11 #[.pointer (some ⟨b, 0, none⟩), .int .i64 n] w (FieldPost lab id b (D.lose n) mk L w) := by
  have c4 := h.c 4
  have f4 := h.fz 4
  have H := Lib.hid h
  have hok : (D.lose n).Ok := ⟨h.ok.now, h.ok.dur, h.ok.pend, h.ok.few, by have h1 : n ≤ 9223372036854775807 := hn.2; have h2 : (D.lose n).lost = n.toNat := rfl; rw [h2]; omega, h.ok.calls, h.ok.keep, h.ok.size⟩
  have HO := Lib.hid hok
  simp only [List.getElem?_toArray, List.getElem?_cons_zero, List.getElem?_cons_succ] at c4
  obtain ⟨m, hm, hmn⟩ : ∃ m : Nat, max n 0 = (m : Int) ∧ n.toNat = m := ⟨n.toNat, by omega, rfl⟩
  have HM := Lib.hid hmn
  clear h hn hok hmn
  go_enter Tryd.func11, Tryd.ntmps11
  go_wp2
  go_end0
  have h := H.out
  exact ⟨rfl, h.setField (Hp.refl _) HO.out rfl rfl rfl rfl (by show _ = #[.map (some L.fm), L.pv, .map (some L.mm), .bool D.down, .int .i64 (n.toNat : Int), .int .i64 (D.calls : Int), L.kv]; rw [HM.out]; rfl)⟩

theorem isFile_true {f : Int} (h : isFile f = true) : 0 ≤ f ∧ f < 16 := by simpa [isFile] using h
theorem isFile_false {f : Int} (h : isFile f = false) : ¬ (0 ≤ f ∧ f < 16) := by simpa [isFile] using h

set_option maxRecDepth 100000 in
theorem size_any (h : DiskIn w lab id b D mk L) (f : Int) (hf : I64 f) : Calls Tryd.prog 31 #[.pointer (some ⟨b, 0, none⟩), .int .i64 f] w fun e w' => e = .returned (.int .i64 (D.size f : Int)) ∧ w = w' := by
  have c0 := h.c 0
  simp only [List.getElem?_toArray, List.getElem?_cons_zero] at c0
  have hl := h.lookF hf
  cases hi : isFile f with
  | false =>
    rw [if_neg (isFile_false hi)] at hl
    have hs : D.size f = 0 := by simp [Dk.size, hi]
    rw [hs]
    clear h hi hs
    go_enter Tryd.func31, Tryd.ntmps31
    go_wp2
    go_ret
    exact ⟨rfl, rfl⟩
  | true =>
    rw [if_pos (isFile_true hi)] at hl
    have hs : D.size f = (D.now f.toNat).length := by simp [Dk.size, hi]
    rw [hs]
    have hf := isFile_true hi
    have c1 := h.fc (f := f.toNat) (by omega) 0
    simp only [List.getElem?_toArray, List.getElem?_cons_zero] at c1
    obtain ⟨a, c, hv⟩ := own_form (h.now f.toNat (by omega))
    rw [hv] at c1
    clear h hi hs hv
    go_enter Tryd.func31, Tryd.ntmps31
    go_wp2
    go_ret
    exact ⟨rfl, rfl⟩

/-! ### Arm -/
set_option maxHeartbeats 1000000 in
set_option maxRecDepth 100000 in
theorem arm_any (h : DiskIn w lab id b D mk L) (n : Int) (hn : I64 n) (v : Value) (ks : List Int) (hs : SrcIs w 1 v ks.length (intVs ks)) (hk : ∀ z ∈ ks, I64 z) (hl : ks.length ≤ 1000000) :
    Calls Tryd.prog 12 #[.pointer (some ⟨b, 0, none⟩), .int .i64 n, v] w fun e w' => e = .returned (.tuple #[]) ∧ ∃ lab' L', DiskIn w' lab' id b (D.arm n ks) mk L' ∧ Chg id lab lab' w w' := by
  obtain ⟨m, hm, hmn⟩ : ∃ m : Nat, max n 0 = (m : Int) ∧ n.toNat = m := ⟨n.toNat, by omega, rfl⟩
  have hok : ({ D with calls := m } : Dk).Ok := ⟨h.ok.now, h.ok.dur, h.ok.pend, h.ok.few, h.ok.lost, by have h1 : n ≤ 9223372036854775807 := hn.2; have h2 : ({ D with calls := m } : Dk).calls = m := rfl; rw [h2]; omega, h.ok.keep, h.ok.size⟩
  have HM := Lib.hid hmn
  have HO := Lib.hid hok
  have H := Lib.hid h
  have HS := Lib.hid hs
  have HK := Lib.hid hk
  clear h hn hok hs hk hmn
  go_enter Tryd.func12, Tryd.ntmps12
  go_wp2_with (go_at_call 37; refine (cloneI v ks.length (intVs ks) _ HS.out (by omega)).mono ?_; rintro e w1 ⟨v', rfl, fr, b1⟩; refine Hid.out ?_)
  refine Lib.hid ?_
  have h1 := H.out.fresh b1
  have c5 := h1.c 5
  have f5 := h1.fz 5
  have f6 := h1.fz 6
  simp only [List.getElem?_toArray, List.getElem?_cons_zero, List.getElem?_cons_succ] at c5
  obtain ⟨h2, k2⟩ := h1.setField (i := 5) (v := .int .i64 (m : Int)) (Hp.refl _) HO.out rfl rfl rfl rfl rfl
  have c6 := h2.c 6
  simp only [List.getElem?_toArray, List.getElem?_cons_zero, List.getElem?_cons_succ] at c6
  have H2 := Lib.hid h2
  have K2 := Lib.hid k2
  have FR := Lib.hid fr
  have B1 := Lib.hid b1
  obtain ⟨va, vc, rfl⟩ := own_form fr.1
  clear h1 h2 k2 fr b1
  go_wp2
  go_end0
  have h := H.out
  obtain ⟨h2, k2⟩ := h.setKeep (w1 := w1) (v' := .slice va ks.length vc) HK.out (by omega) ⟨B1.out.os, B1.out.tape, B1.out.output, B1.out.size, fun k hk _ => B1.out.block k hk⟩ FR.out.1 (.inr FR.out.2) (Hp.refl _)
  obtain ⟨h3, k3⟩ := h2.setField (D' := D.arm n ks) (i := 5) (v := .int .i64 (m : Int)) (w' := (w1.setCell ⟨b, 5, none⟩ (.int .i64 (m : Int))).setCell ⟨b, 6, none⟩ (.slice va ks.length vc)) ⟨set_comm (o := 5) (p := 6) _ _ (by omega), rfl, rfl, rfl⟩
    ⟨h2.ok.now, h2.ok.dur, h2.ok.pend, h2.ok.few, h2.ok.lost, by show ((n.toNat : Nat) : Int) ≤ _; rw [HM.out]; exact HO.out.calls, h2.ok.keep, h2.ok.size⟩ rfl rfl rfl rfl (by show _ = #[.map (some L.fm), L.pv, .map (some L.mm), .bool D.down, .int .i64 (D.lost : Int), .int .i64 (n.toNat : Int), .slice va ks.length vc]; rw [HM.out]; rfl)
  exact ⟨rfl, _, _, h3, k2.trans k3⟩
end
end Go.Proofs.YtjbcgahdiolhhaaDoor.D2
