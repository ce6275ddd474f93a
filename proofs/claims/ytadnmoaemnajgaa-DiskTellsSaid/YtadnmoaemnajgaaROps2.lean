/- The reference's Write, Sync. -/
import Derived.Test.YtadnmoaemnajgaaROps
namespace Go.Proofs.Ytadnmoaemnajgaa
open Go.RowKit Go.Maps Go.ChangeMaps Go.MapKept
open Dp
attribute [local go_sem ↓] Go.wp_at_zero Go.wp_at_succ

def Rf.wr (R : Rf) (f a : Int) (s : List UInt8) : Int × Rf :=
  if R.may f ≠ 0 then (R.may f, R) else if a < 0 then (1, R) else if fitsB a s = false then (6, R) else (0, R.add f.toNat a.toNat s)
def Rf.sy (R : Rf) (f : Int) : Int × Rf :=
  if R.may f ≠ 0 then (R.may f, R) else if 0 < R.lost then (9, { R with lost := R.lost - 1 }) else (0, R.settle f.toNat (R.now f))
def Rf.tr (R : Rf) (f n : Int) : Int × Rf :=
  if R.may f ≠ 0 then (R.may f, R) else if n < 0 ∨ ((R.now f).length : Int) < n then (1, R) else (0, R.settle f.toNat ((R.now f).take n.toNat))
theorem may_file {R : Rf} {f : Int} (h : R.may f = 0) : 0 ≤ f ∧ f ≤ 15 := by
  unfold Rf.may at h
  split at h
  · cases h
  · split at h
    · cases h
    · omega
section
variable {w : World} {lab : Nat → Nat} {id r : Nat} {R : Rf} {L : RLoc}
set_option maxHeartbeats 1500000 in
set_option maxRecDepth 100000 in
theorem rwrite_any (h : RIn w lab id r R L) (hin : R.In) (f a : Int) (s : List UInt8) (hf : I64 f) (ha : I64 a) (hs : s.length ≤ 140737488355327) :
    Calls Try.prog 38 #[.pointer (some ⟨r, 0, none⟩), .int .i64 f, .int .i64 a, .string (bs s)] w (RPost lab id r (.int .i64 ((R.comes f a s).wr f a s).1) ((R.comes f a s).wr f a s).2 w) := by
  have HC := Lib.hid (rcomes_any h hin f a s hf ha hs)
  generalize R.comes f a s = R1 at HC ⊢
  have HFT := Lib.hid (fun w => fits_any a s ha hs w)
  clear h hin hf ha
  by_cases hm : R1.may f = 0
  · obtain ⟨f0, f1⟩ := may_file hm
    by_cases ha0 : a < 0
    · have hwr : R1.wr f a s = (1, R1) := by unfold Rf.wr; rw [if_neg (by simp [hm]), if_pos ha0]
      rw [hwr]
      clear hwr
      go_enter Try.func38, Try.ntmps38
      go_wp2_with (first | (go_at_call 49; refine HC.out.mono ?_; rintro e w1 ⟨rfl, lab1, ⟨L1, h1⟩, k1⟩; have H1 := Lib.hid h1; have K1 := Lib.hid k1; clear h1 k1) | (go_at_call 46; refine (may_any H1.out f).mono ?_; rintro e w2 ⟨rfl, rfl⟩))
      go_ret
      exact ⟨rfl, lab1, ⟨L1, H1.out⟩, K1.out⟩
    · have ha1 : 0 ≤ a := by omega
      by_cases hfits : fitsB a s = true
      · have hwr : R1.wr f a s = (0, R1.add f.toNat a.toNat s) := by unfold Rf.wr; rw [if_neg (by simp [hm]), if_neg ha0, if_neg (by simp [hfits])]
        rw [hwr]
        have hfb : 0 ≤ a ∧ a + s.length ≤ 16777216 := by simpa [fitsB] using hfits
        obtain ⟨_, hfb⟩ := hfb
        rw [hfits] at HFT
        clear hwr hfits
        go_enter Try.func38, Try.ntmps38
        go_wp2_with (go_at_call 49; refine HC.out.mono ?_; rintro e w1 ⟨rfl, lab1, ⟨L1, h1⟩, k1⟩; refine Hid.out ?_)
        refine Lib.hid ?_
        have H1 := Lib.hid h1
        have K1 := Lib.hid k1
        have HAD := Lib.hid (radd_any H1.out f.toNat a.toNat s (by omega) (by omega))
        rw [show ((f.toNat : Nat) : Int) = f by omega, show ((a.toNat : Nat) : Int) = a by omega] at HAD
        clear h1 k1 HC
        go_wp2_with (first | (go_at_call 46; refine (may_any H1.out f).mono ?_; rintro e w2 ⟨rfl, rfl⟩) | (go_at_call 52; refine (HFT.out _).mono ?_; rintro e w2 ⟨rfl, rfl⟩) | (go_at_call 53; refine HAD.out.mono ?_; rintro e w2 ⟨rfl, lab2, g2, k2⟩; have G2 := Lib.hid g2; have K2 := Lib.hid k2; clear g2 k2))
        go_ret
        exact ⟨rfl, lab2, G2.out, K1.out.trans K2.out⟩
      · have hf' : fitsB a s = false := by simpa using hfits
        have hwr : R1.wr f a s = (6, R1) := by unfold Rf.wr; rw [if_neg (by simp [hm]), if_neg ha0, if_pos hf']
        rw [hwr]
        rw [hf'] at HFT
        clear hwr hfits hf'
        go_enter Try.func38, Try.ntmps38
        go_wp2_with (first | (go_at_call 49; refine HC.out.mono ?_; rintro e w1 ⟨rfl, lab1, ⟨L1, h1⟩, k1⟩; have H1 := Lib.hid h1; have K1 := Lib.hid k1; clear h1 k1) | (go_at_call 46; refine (may_any H1.out f).mono ?_; rintro e w2 ⟨rfl, rfl⟩) | (go_at_call 52; refine (HFT.out _).mono ?_; rintro e w2 ⟨rfl, rfl⟩))
        go_ret
        exact ⟨rfl, lab1, ⟨L1, H1.out⟩, K1.out⟩
  · have hwr : R1.wr f a s = (R1.may f, R1) := by unfold Rf.wr; rw [if_pos hm]
    rw [hwr]
    have hm' : (R1.may f == 0) = false := by simpa using hm
    clear hwr
    go_enter Try.func38, Try.ntmps38
    go_wp2_with (first | (go_at_call 49; refine HC.out.mono ?_; rintro e w1 ⟨rfl, lab1, ⟨L1, h1⟩, k1⟩; have H1 := Lib.hid h1; have K1 := Lib.hid k1; clear h1 k1) | (go_at_call 46; refine (may_any H1.out f).mono ?_; rintro e w2 ⟨rfl, rfl⟩))
    go_ret
    exact ⟨rfl, lab1, ⟨L1, H1.out⟩, K1.out⟩
end
end Go.Proofs.Ytadnmoaemnajgaa
