/- The reference's Sync, Truncate, Read. -/
import Derived.Test.YtadnmoaemnajgaaROps2
namespace Go.Proofs.Ytadnmoaemnajgaa
open Go.RowKit Go.Maps Go.ChangeMaps Go.MapKept
open Dp
attribute [local go_sem ↓] Go.wp_at_zero Go.wp_at_succ
section
variable {w : World} {lab : Nat → Nat} {id r : Nat} {R : Rf} {L : RLoc}
set_option maxHeartbeats 1500000 in
set_option maxRecDepth 100000 in
theorem rsync_any (h : RIn w lab id r R L) (hin : R.In) (f : Int) (hf : I64 f) :
    Calls Try.prog 32 #[.pointer (some ⟨r, 0, none⟩), .int .i64 f] w (RPost lab id r (.int .i64 ((R.comes 0 0 []).sy f).1) ((R.comes 0 0 []).sy f).2 w) := by
  have HC := Lib.hid (rcomes_any h hin 0 0 [] ⟨by omega, by omega⟩ ⟨by omega, by omega⟩ (by simp))
  rw [show bs [] = (⟨#[]⟩ : ByteArray) from rfl] at HC
  generalize R.comes 0 0 [] = R1 at HC ⊢
  have HF := Lib.hid hf
  clear h hin hf
  by_cases hm : R1.may f = 0
  · obtain ⟨f0, f1⟩ := may_file hm
    by_cases hl : 0 < R1.lost
    · have hwr : R1.sy f = (9, { R1 with lost := R1.lost - 1 }) := by unfold Rf.sy; rw [if_neg (by simp [hm]), if_pos hl]
      rw [hwr]
      clear hwr
      obtain ⟨n, hn⟩ : ∃ n, R1.lost = n + 1 := ⟨R1.lost - 1, by omega⟩
      have HNN := Lib.hid hn
      clear hl hn
      go_enter Try.func32, Try.ntmps32
      go_wp2_with (go_at_call 49; refine HC.out.mono ?_; rintro e w1 ⟨rfl, lab1, ⟨L1, h1⟩, k1⟩; refine Hid.out ?_)
      refine Lib.hid ?_
      have c2 := h1.c 2
      have fz := h1.fz 2
      have hlo := h1.ok.lost
      simp only [List.getElem?_toArray, List.getElem?_cons_zero, List.getElem?_cons_succ] at c2
      rw [HNN.out, show ((n + 1 : Nat) : Int) = (n : Int) + 1 by omega] at c2 hlo
      obtain ⟨h2, k2⟩ := h1.setField (i := 2) (v := .int .i64 (n : Int)) (R' := { R1 with lost := n }) (Hp.refl _) (h1.ok.lost' (by omega)) rfl rfl rfl (by simp)
      have hnb : (n : Int) ≤ 9223372036854775807 := by omega
      have hw64 : wrap64 (n : Int) = (n : Int) := by unfold wrap64; omega
      have HR := Lib.hid (show RPost lab id r (.int .i64 9) { R1 with lost := R1.lost - 1 } w (.returned (.int .i64 9)) _ from ⟨rfl, lab1, ⟨L1, by rw [HNN.out, show n + 1 - 1 = n by omega]; exact h2⟩, k1.trans k2⟩)
      have H1 := Lib.hid h1
      clear h1 k1 h2 k2 HC
      go_wp2_with (first | (go_at_call 46; refine (may_any H1.out f).mono ?_; rintro e w2 ⟨rfl, rfl⟩))
      go_ret
      exact HR.out
    · have hl0 : R1.lost = 0 := by omega
      have hwr : R1.sy f = (0, R1.settle f.toNat (R1.now f)) := by unfold Rf.sy; rw [if_neg (by simp [hm]), if_neg hl]
      rw [hwr]
      clear hwr hl
      have HL0 := Lib.hid hl0
      clear hl0
      go_enter Try.func32, Try.ntmps32
      go_wp2_with (go_at_call 49; refine HC.out.mono ?_; rintro e w1 ⟨rfl, lab1, ⟨L1, h1⟩, k1⟩; refine Hid.out ?_)
      refine Lib.hid ?_
      have c2 := h1.c 2
      simp only [List.getElem?_toArray, List.getElem?_cons_zero, List.getElem?_cons_succ] at c2
      rw [HL0.out] at c2
      have hfd := field1 f (bs (R1.now f)) (bs (R1.dur f))
      have H1 := Lib.hid h1
      have K1 := Lib.hid k1
      have HNL := Lib.hid (rnow_len h1.ok f).1
      clear h1 k1 HC
      go_wp2_with (first | (go_at_call 46; refine (may_any H1.out f).mono ?_; rintro e w2 ⟨rfl, rfl⟩) | (go_at_call 39; refine (get_any H1.out f HF.out).mono ?_; rintro e w3 ⟨rfl, b3⟩; refine Hid.out ?_))
      refine Lib.hid ?_
      have HS := Lib.hid (rsettle_any (H1.out.fresh b3) f.toNat (R1.now f) (by omega) HNL.out)
      rw [show ((f.toNat : Nat) : Int) = f by omega] at HS
      have K3 := Lib.hid (K1.out.trans (H1.out.chg0 b3))
      clear b3
      go_wp2_with (go_at_call 50; refine HS.out.mono ?_; rintro e w4 ⟨rfl, lab4, g4, k4⟩; have G4 := Lib.hid g4; have K4 := Lib.hid k4; clear g4 k4)
      go_ret
      exact ⟨rfl, lab4, G4.out, K3.out.trans K4.out⟩
  · have hwr : R1.sy f = (R1.may f, R1) := by unfold Rf.sy; rw [if_pos hm]
    rw [hwr]
    have hm' : (R1.may f == 0) = false := by simpa using hm
    clear hwr
    go_enter Try.func32, Try.ntmps32
    go_wp2_with (first | (go_at_call 49; refine HC.out.mono ?_; rintro e w1 ⟨rfl, lab1, ⟨L1, h1⟩, k1⟩; have H1 := Lib.hid h1; have K1 := Lib.hid k1; clear h1 k1) | (go_at_call 46; refine (may_any H1.out f).mono ?_; rintro e w2 ⟨rfl, rfl⟩))
    go_ret
    exact ⟨rfl, lab1, ⟨L1, H1.out⟩, K1.out⟩
end
end Go.Proofs.Ytadnmoaemnajgaa
