/- The reference's Truncate, Read. -/
import Derived.Test.YtadnmoaemnajgaaROps3
namespace Go.Proofs.Ytadnmoaemnajgaa
open Go.RowKit Go.Maps Go.ChangeMaps Go.MapKept
open Dp
attribute [local go_sem ↓] Go.wp_at_zero Go.wp_at_succ
theorem str_pre (w : World) {s : List UInt8} (j : Nat) (h2 : j ≤ (bs s).size) : (Instr.slice 9 (.string (bs s)) none (some (.int .i64 (j : Int))) none).run Try.prog w = .ok (.string ((bs s).extract 0 j)) w := by
  simp [Instr.slice, Instr.sliceBounds, Instr.sliceBound, asIntOf, run_underlying Try.underlying9, h2, Result.andThen, go_sem]
def Rf.read (R : Rf) (f a n : Int) : List UInt8 × Int :=
  if R.may f ≠ 0 then ([], R.may f) else if a < 0 ∨ n < 0 then ([], 1) else (((R.now f).drop a.toNat).take n.toNat, 0)
section
variable {w : World} {lab : Nat → Nat} {id r : Nat} {R : Rf} {L : RLoc}
set_option maxHeartbeats 1500000 in
set_option maxRecDepth 100000 in
theorem rtruncate_any (h : RIn w lab id r R L) (hin : R.In) (f n : Int) (hf : I64 f) :
    Calls Try.prog 33 #[.pointer (some ⟨r, 0, none⟩), .int .i64 f, .int .i64 n] w (RPost lab id r (.int .i64 ((R.comes 0 0 []).tr f n).1) ((R.comes 0 0 []).tr f n).2 w) := by
  have HC := Lib.hid (rcomes_any h hin 0 0 [] ⟨by omega, by omega⟩ ⟨by omega, by omega⟩ (by simp))
  rw [show bs [] = (⟨#[]⟩ : ByteArray) from rfl] at HC
  generalize R.comes 0 0 [] = R1 at HC ⊢
  have HF := Lib.hid hf
  clear h hin hf
  by_cases hm : R1.may f = 0
  · obtain ⟨f0, f1⟩ := may_file hm
    have hz := bs_size (R1.now f)
    by_cases hbad : n < 0 ∨ ((R1.now f).length : Int) < n
    · have hwr : R1.tr f n = (1, R1) := by unfold Rf.tr; rw [if_neg (by simp [hm]), if_pos hbad]
      rw [hwr]
      have hbad' : n < 0 ∨ (0 ≤ n ∧ ((bs (R1.now f)).size : Int) < n) := by omega
      clear hwr hbad
      have hfd := field1 f (bs (R1.now f)) (bs (R1.dur f))
      have HZ := Lib.hid hz
      clear hz
      rcases hbad' with hb | ⟨hb0, hb⟩
      all_goals
        go_enter Try.func33, Try.ntmps33
        go_wp2_with (first | (go_at_call 49; refine HC.out.mono ?_; rintro e w1 ⟨rfl, lab1, ⟨L1, h1⟩, k1⟩; have H1 := Lib.hid h1; have K1 := Lib.hid k1; clear h1 k1) | (go_at_call 46; refine (may_any H1.out f).mono ?_; rintro e w2 ⟨rfl, rfl⟩) | (go_at_call 39; refine (get_any H1.out f HF.out).mono ?_; rintro e w3 ⟨rfl, b3⟩; have B3 := Lib.hid b3; clear b3))
        go_ret
        exact ⟨rfl, lab1, ⟨L1, H1.out.fresh B3.out⟩, K1.out.trans (H1.out.chg0 B3.out)⟩
    · have hwr : R1.tr f n = (0, R1.settle f.toNat ((R1.now f).take n.toNat)) := by unfold Rf.tr; rw [if_neg (by simp [hm]), if_neg hbad]
      rw [hwr]
      obtain ⟨m, rfl⟩ : ∃ m : Nat, n = (m : Int) := ⟨n.toNat, by omega⟩
      rw [Int.toNat_natCast]
      have hml : m ≤ (bs (R1.now f)).size := by omega
      have hml2 : (m : Int) ≤ ((bs (R1.now f)).size : Int) := by omega
      have hsl := fun w => str_pre w (s := R1.now f) m hml
      have hex : (bs (R1.now f)).extract 0 m = bs ((R1.now f).take m) := by rw [bs_extract]; simp
      rw [hex] at hsl
      have hfd := field1 f (bs (R1.now f)) (bs (R1.dur f))
      have HZ := Lib.hid hz
      clear hwr hbad hz hex
      go_enter Try.func33, Try.ntmps33
      go_wp2_with (go_at_call 49; refine HC.out.mono ?_; rintro e w1 ⟨rfl, lab1, ⟨L1, h1⟩, k1⟩; refine Hid.out ?_)
      refine Lib.hid ?_
      have H1 := Lib.hid h1
      have K1 := Lib.hid k1
      have HNL := Lib.hid (rnow_len h1.ok f).1
      clear h1 k1 HC
      go_wp2_with (first | (go_at_call 46; refine (may_any H1.out f).mono ?_; rintro e w2 ⟨rfl, rfl⟩) | (go_at_call 39; refine (get_any H1.out f HF.out).mono ?_; rintro e w3 ⟨rfl, b3⟩; refine Hid.out ?_))
      refine Lib.hid ?_
      have HS := Lib.hid (rsettle_any (H1.out.fresh b3) f.toNat ((R1.now f).take m) (by omega) (by have := HNL.out; rw [List.length_take]; omega))
      rw [show ((f.toNat : Nat) : Int) = f by omega] at HS
      have K3 := Lib.hid (K1.out.trans (H1.out.chg0 b3))
      clear b3
      go_wp2_with (go_at_call 50; refine HS.out.mono ?_; rintro e w4 ⟨rfl, lab4, g4, k4⟩; have G4 := Lib.hid g4; have K4 := Lib.hid k4; clear g4 k4)
      go_ret
      exact ⟨rfl, lab4, G4.out, K3.out.trans K4.out⟩
  · have hwr : R1.tr f n = (R1.may f, R1) := by unfold Rf.tr; rw [if_pos hm]
    rw [hwr]
    have hm' : (R1.may f == 0) = false := by simpa using hm
    clear hwr
    go_enter Try.func33, Try.ntmps33
    go_wp2_with (first | (go_at_call 49; refine HC.out.mono ?_; rintro e w1 ⟨rfl, lab1, ⟨L1, h1⟩, k1⟩; have H1 := Lib.hid h1; have K1 := Lib.hid k1; clear h1 k1) | (go_at_call 46; refine (may_any H1.out f).mono ?_; rintro e w2 ⟨rfl, rfl⟩))
    go_ret
    exact ⟨rfl, lab1, ⟨L1, H1.out⟩, K1.out⟩
set_option maxHeartbeats 1500000 in
set_option maxRecDepth 100000 in
theorem rread_any (h : RIn w lab id r R L) (f a n : Int) (hf : I64 f) :
    Calls Try.prog 21 #[.pointer (some ⟨r, 0, none⟩), .int .i64 f, .int .i64 a, .int .i64 n] w fun e w' => e = .returned (.tuple #[.string (bs (R.read f a n).1), .int .i64 (R.read f a n).2]) ∧ Below w.heap.size w w' := by
  have H := Lib.hid h
  have HF := Lib.hid hf
  have HNL := Lib.hid (rnow_len h.ok f).1
  clear h hf
  by_cases hm : R.may f = 0
  · obtain ⟨f0, f1⟩ := may_file hm
    have hz := bs_size (R.now f)
    have hfd := field1 f (bs (R.now f)) (bs (R.dur f))
    by_cases hbad : a < 0 ∨ n < 0
    · have hwr : R.read f a n = ([], 1) := by unfold Rf.read; rw [if_neg (by simp [hm]), if_pos hbad]
      rw [hwr]
      have hbad' : a < 0 ∨ (0 ≤ a ∧ n < 0) := by omega
      clear hwr hbad hz
      rcases hbad' with hb | ⟨hb0, hb⟩
      all_goals
        go_enter Try.func21, Try.ntmps21
        go_wp2_with (first | (go_at_call 46; refine (may_any H.out f).mono ?_; rintro e w2 ⟨rfl, rfl⟩))
        go_ret2
        exact ⟨rfl, Below.refl _ _⟩
    · have hwr : R.read f a n = (((R.now f).drop a.toNat).take n.toNat, 0) := by unfold Rf.read; rw [if_neg (by simp [hm]), if_neg hbad]
      rw [hwr]
      obtain ⟨i, rfl⟩ : ∃ i : Nat, a = (i : Int) := ⟨a.toNat, by omega⟩
      obtain ⟨k, rfl⟩ : ∃ k : Nat, n = (k : Int) := ⟨n.toNat, by omega⟩
      simp only [Int.toNat_natCast]
      clear hwr hbad
      by_cases hlen : (bs (R.now f)).size ≤ i
      · have hdr : ((R.now f).drop i).take k = [] := by rw [List.drop_of_length_le (by omega), List.take_nil]
        rw [hdr]
        have hli : ((bs (R.now f)).size : Int) ≤ (i : Int) := by omega
        clear hdr hz
        go_enter Try.func21, Try.ntmps21
        go_wp2_with (first | (go_at_call 46; refine (may_any H.out f).mono ?_; rintro e w2 ⟨rfl, rfl⟩) | (go_at_call 39; refine (get_any H.out f HF.out).mono ?_; rintro e w3 ⟨rfl, b3⟩; have B3 := Lib.hid b3; clear b3))
        go_ret2
        exact ⟨rfl, B3.out⟩
      · have hzz : (bs (R.now f)).size ≤ 16777216 := by have := HNL.out; omega
        obtain ⟨m, hmm⟩ : ∃ m : Nat, m = min k ((bs (R.now f)).size - i) := ⟨_, rfl⟩
        have hmin : min (k : Int) (((bs (R.now f)).size : Int) - (i : Int)) = (m : Int) := by omega
        have him : i + m ≤ (bs (R.now f)).size := by omega
        have hsl := fun w => str_slice w (s := R.now f) i (i + m) (by omega) him
        have hex : (bs (R.now f)).extract i (i + m) = bs (((R.now f).drop i).take k) := by
          rw [bs_extract]; congr 1
          apply List.ext_getElem?
          intro j
          rw [List.getElem?_take, List.getElem?_take]
          by_cases hj : j < k
          · rw [if_pos hj]
            split
            · rfl
            · exact (List.getElem?_eq_none (by simp; omega)).symm
          · rw [if_neg hj, if_neg (by omega)]
        rw [show ((i + m : Nat) : Int) = (i : Int) + (m : Int) by omega] at hsl
        have HEX := Lib.hid hex
        have hlt : (i : Int) < ((bs (R.now f)).size : Int) := by omega
        have hi1 : (i : Int) + (m : Int) ≤ ((bs (R.now f)).size : Int) := by omega
        clear hex hmm hz hlen
        go_enter Try.func21, Try.ntmps21
        go_wp2_with (first | (go_at_call 46; refine (may_any H.out f).mono ?_; rintro e w2 ⟨rfl, rfl⟩) | (go_at_call 39; refine (get_any H.out f HF.out).mono ?_; rintro e w3 ⟨rfl, b3⟩; have B3 := Lib.hid b3; clear b3))
        go_ret2
        exact ⟨by rw [← HEX.out]; rfl, B3.out⟩
  · have hwr : R.read f a n = ([], R.may f) := by unfold Rf.read; rw [if_pos hm]
    rw [hwr]
    have hm' : (R.may f == 0) = false := by simpa using hm
    clear hwr
    go_enter Try.func21, Try.ntmps21
    go_wp2_with (first | (go_at_call 46; refine (may_any H.out f).mono ?_; rintro e w2 ⟨rfl, rfl⟩))
    go_ret2
    exact ⟨rfl, Below.refl _ _⟩
end
end Go.Proofs.Ytadnmoaemnajgaa
