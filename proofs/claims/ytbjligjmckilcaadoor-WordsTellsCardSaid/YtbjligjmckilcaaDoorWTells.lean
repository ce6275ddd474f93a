/- The walk of WordsTells. -/
import Derived.Test.YtbjligjmckilcaaDoorWSmall
namespace Go.Proofs.YtbjligjmckilcaaDoor
open Go.RowKit Go.Maps Go.ChangeMaps Go.MapKept
open Wd
attribute [local go_sem ↓] Go.wp_at_zero Go.wp_at_succ
theorem pts_count {z : Nat} (hz : 1 ≤ z) : ∀ (m : Nat) (s : S), (pts z m s).length ≤ s.length + 1
  | 0, s => by simp [pts]
  | m + 1, s => by
    by_cases h : s.length ≤ z
    · rw [pts_fit h]; simp
    · by_cases hm : m = 0
      · subst hm; rw [pts_cut (by omega)]; simp
      · rw [pts_more (by omega) (by omega)]
        have := pts_count hz m (s.drop z)
        rw [List.length_drop] at this
        simp; omega
theorem find_len' (l : List S) (w : S) : (find l w).length ≤ l.length := by
  unfold find
  split
  · exact fnd_len _ _ _
  · exact Nat.zero_le _
theorem parts_count (s : S) (a b : Int) : (parts s a b).length ≤ s.length + 1 := by
  unfold parts
  split
  · simp
  · exact pts_count (by omega) _ _
set_option maxHeartbeats 8000000 in
set_option maxRecDepth 100000 in
theorem tells_walk {E : World → Prop} (A : WApi E) {w : World} {v : Value} {s : S} {l : List S} {a b : Int} (hE : E w) (hv : TxAt w v l) (ha : I64 a) (hb : I64 b) :
    Calls Tryd.prog 3 #[.string (bs s), v, .int .i64 a, .int .i64 b] w fun e w' => e = .returned (.bool true) ∧ Below w.heap.size w w' := by
  have HE := Lib.hid hE
  have HV := Lib.hid hv
  have HI := Lib.hid (And.intro ha hb)
  have hz := bs_size s
  obtain ⟨va, vc, rfl⟩ := hv.slice
  clear hE hv ha hb
  by_cases h1 : 400 < s.length
  · have h1' : (400 : Int) < (s.length : Int) := by omega
    go_enter Tryd.func3, Tryd.ntmps3
    go_wp2_with (go_at_call 7; refine (small_any A HE.out).mono ?_; rintro e w1 ⟨rfl, m1⟩; refine Hid.out ?_)
    refine Lib.hid ?_
    have HE := Lib.hid (A.keep HE.out m1)
    have HV := Lib.hid (HV.out.keep m1)
    have B := Lib.hid m1
    have HQ := Lib.hid (q_few HV.out)
    clear m1
    go_wp2
    go_ret
    exact ⟨rfl, B.out⟩
  · have h1' : ¬ (400 : Int) < (s.length : Int) := by omega
    go_enter Tryd.func3, Tryd.ntmps3
    go_wp2_with (go_at_call 7; refine (small_any A HE.out).mono ?_; rintro e w1 ⟨rfl, m1⟩; refine Hid.out ?_)
    refine Lib.hid ?_
    have HE := Lib.hid (A.keep HE.out m1)
    have HV := Lib.hid (HV.out.keep m1)
    have B := Lib.hid m1
    have HQ := Lib.hid (q_few HV.out)
    clear m1
    cases hfw : few l 20 with
    | false =>
      rw [hfw] at HQ
      clear hfw
      go_wp2_with (go_at_call 8; refine (HQ.out).mono ?_; rintro e w2 ⟨rfl, rfl⟩; refine Hid.out ?_)
      refine Lib.hid ?_
      go_wp2
      go_ret
      exact ⟨rfl, B.out⟩
    | true =>
      rw [hfw] at HQ
      have HFW := Lib.hid hfw
      have hl20 := (of_decide_eq_true hfw).1
      have hwc := words_count s
      have hpc := parts_count s a b
      have hfl := find_len' l s
      clear hfw
      go_wp2_with (go_at_call 8; refine (HQ.out).mono ?_; rintro e w2 ⟨rfl, rfl⟩; refine Hid.out ?_)
      refine Lib.hid ?_
      clear HQ
      go_wp2_with (go_at_call 10; refine (A.words_ (s := s) HE.out (by omega)).mono ?_; rintro e wa ⟨va1, rfl, ha1, bb⟩; refine Hid.out ?_)
      refine Lib.hid ?_
      have HE := Lib.hid (A.keep HE.out bb)
      have HV := Lib.hid (HV.out.keep bb)
      have B := Lib.hid (B.out.trans (bb.mono B.out.size))
      clear bb
      go_wp2_with (go_at_call 11; refine (q_words (s := s) (by omega)).mono ?_; rintro e wb ⟨vb1, rfl, hb1, bb⟩; refine Hid.out ?_)
      refine Lib.hid ?_
      have HE := Lib.hid (A.keep HE.out bb)
      have HV := Lib.hid (HV.out.keep bb)
      have B := Lib.hid (B.out.trans (bb.mono B.out.size))
      have H3 := Lib.hid (same_yes (ha1.keep bb) hb1 (by omega))
      clear bb ha1 hb1
      go_wp2_with (go_at_call 9; refine (H3.out).mono ?_; rintro e wc ⟨rfl, bb⟩; refine Hid.out ?_)
      refine Lib.hid ?_
      have HE := Lib.hid (A.keep HE.out bb)
      have HV := Lib.hid (HV.out.keep bb)
      have B := Lib.hid (B.out.trans (bb.mono B.out.size))
      clear bb H3
      go_wp2_with (go_at_call 12; refine (A.parts_ (s := s) HE.out (by omega) HI.out.1 HI.out.2).mono ?_; rintro e wa ⟨va1, rfl, ha1, bb⟩; refine Hid.out ?_)
      refine Lib.hid ?_
      have HE := Lib.hid (A.keep HE.out bb)
      have HV := Lib.hid (HV.out.keep bb)
      have B := Lib.hid (B.out.trans (bb.mono B.out.size))
      clear bb
      go_wp2_with (go_at_call 13; refine (q_parts (s := s) (by omega) HI.out.1 HI.out.2).mono ?_; rintro e wb ⟨vb1, rfl, hb1, bb⟩; refine Hid.out ?_)
      refine Lib.hid ?_
      have HE := Lib.hid (A.keep HE.out bb)
      have HV := Lib.hid (HV.out.keep bb)
      have B := Lib.hid (B.out.trans (bb.mono B.out.size))
      have H3 := Lib.hid (same_yes (ha1.keep bb) hb1 (by omega))
      clear bb ha1 hb1
      go_wp2_with (go_at_call 9; refine (H3.out).mono ?_; rintro e wc ⟨rfl, bb⟩; refine Hid.out ?_)
      refine Lib.hid ?_
      have HE := Lib.hid (A.keep HE.out bb)
      have HV := Lib.hid (HV.out.keep bb)
      have B := Lib.hid (B.out.trans (bb.mono B.out.size))
      clear bb H3
      go_wp2_with (go_at_call 14; refine (A.line_ (s := s) HE.out (by omega) HI.out.2).mono ?_; rintro e wa ⟨rfl, bb⟩; refine Hid.out ?_)
      refine Lib.hid ?_
      have HE := Lib.hid (A.keep HE.out bb)
      have HV := Lib.hid (HV.out.keep bb)
      have B := Lib.hid (B.out.trans (bb.mono B.out.size))
      clear bb
      go_wp2_with (go_at_call 15; refine (q_line (s := s) (by omega)).mono ?_; rintro e wb ⟨rfl, rfl⟩; refine Hid.out ?_)
      refine Lib.hid ?_
      go_wp2_with (go_at_call 17; refine (A.find_ (s := s) HE.out HV.out (few_fit HFW.out) (by omega)).mono ?_; rintro e wa ⟨va1, rfl, ha1, bb⟩; refine Hid.out ?_)
      refine Lib.hid ?_
      have HE := Lib.hid (A.keep HE.out bb)
      have HV := Lib.hid (HV.out.keep bb)
      have B := Lib.hid (B.out.trans (bb.mono B.out.size))
      clear bb
      go_wp2_with (go_at_call 18; refine (q_find (s := s) HV.out HFW.out (by omega)).mono ?_; rintro e wb ⟨vb1, rfl, hb1, bb⟩; refine Hid.out ?_)
      refine Lib.hid ?_
      have HE := Lib.hid (A.keep HE.out bb)
      have HV := Lib.hid (HV.out.keep bb)
      have B := Lib.hid (B.out.trans (bb.mono B.out.size))
      have H3 := Lib.hid (ints_yes (ha1.keep bb) hb1 (by omega))
      clear bb ha1 hb1
      go_wp2_with (go_at_call 16; refine (H3.out).mono ?_; rintro e wc ⟨rfl, bb⟩; refine Hid.out ?_)
      refine Lib.hid ?_
      have HE := Lib.hid (A.keep HE.out bb)
      have HV := Lib.hid (HV.out.keep bb)
      have B := Lib.hid (B.out.trans (bb.mono B.out.size))
      clear bb H3
      go_wp2_with (go_at_call 19; refine (A.digest_ HE.out HV.out (few_fit HFW.out)).mono ?_; rintro e wa ⟨rfl, bb⟩; refine Hid.out ?_)
      refine Lib.hid ?_
      have HE := Lib.hid (A.keep HE.out bb)
      have HV := Lib.hid (HV.out.keep bb)
      have B := Lib.hid (B.out.trans (bb.mono B.out.size))
      clear bb
      go_wp2_with (go_at_call 20; refine (q_digest HV.out HFW.out).mono ?_; rintro e wb ⟨rfl, bb⟩; refine Hid.out ?_)
      refine Lib.hid ?_
      have HE := Lib.hid (A.keep HE.out bb)
      have HV := Lib.hid (HV.out.keep bb)
      have B := Lib.hid (B.out.trans (bb.mono B.out.size))
      go_wp2
      go_ret
      exact ⟨rfl, B.out⟩
end Go.Proofs.YtbjligjmckilcaaDoor
