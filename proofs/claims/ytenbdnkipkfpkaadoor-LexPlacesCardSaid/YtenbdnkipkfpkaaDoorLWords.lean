/- The walk of LexWords. -/
import Derived.Test.YtenbdnkipkfpkaaDoorLTells
namespace Go.Proofs.YtenbdnkipkfpkaaDoor
open Go.RowKit Go.Maps Go.ChangeMaps Go.MapKept
open Lx
attribute [local go_sem ↓] Go.wp_at_zero Go.wp_at_succ
theorem not_both {s : S} (h : wordOk s = true) : numOk s = false := by
  cases hn : numOk s with
  | false => rfl
  | true =>
    have := word_tok h
    rw [num_tok hn] at this
    simp at this
theorem word_lex {s : S} (h : wordOk s = true) : lex s 0 = .ok [⟨0, s, 0, 0⟩, ⟨3, [], 0, (s.length : Int)⟩] := by
  have := lex_self (word_tok h) 0
  rw [this]; simp
theorem num_lex {s : S} (h : numOk s = true) : lex s 0 = .ok [⟨1, s, (val s : Int), 0⟩, ⟨3, [], 0, (s.length : Int)⟩] := by
  have := lex_self (num_tok h) 0
  rw [this]; simp
theorem word_short {s : S} (h : wordOk s = true) : s.length ≤ 20 := by
  unfold wordOk at h; rw [Bool.and_eq_true] at h; exact of_decide_eq_true h.1
theorem num_small {s : S} (h : numOk s = true) : val s ≤ 1099511627776 := by
  unfold numOk at h; rw [Bool.and_eq_true] at h; exact of_decide_eq_true h.2
/-- Two tokens, and neither a word nor a number. -/
theorem two_toks {s : S} {ts : List Tk} (h : lex s 0 = .ok ts) (h2 : ts.length = 2) (hw : wordOk s = false) (hn : numOk s = false) :
    ∃ a b, ts = [a, b] ∧ (a.text ≠ s ∨ (a.text = s ∧ a.kind ≠ 0 ∧ a.kind ≠ 1)) := by
  obtain ⟨us, h1, h3⟩ := lex_toks h
  cases us with
  | nil => rw [h1] at h2; simp at h2
  | cons a us =>
    cases us with
    | cons b us => rw [h1] at h2; simp at h2
    | nil =>
      refine ⟨a, _, h1, ?_⟩
      by_cases e : a.text = s
      · refine .inr ⟨e, fun k => ?_, fun k => ?_⟩
        · have := h3 a (by simp)
          rw [k] at this
          rw [e] at this
          have q := Lx.tok_word this
          rw [hw] at q; cases q
        · have := h3 a (by simp)
          rw [k] at this
          rw [e] at this
          have q := (Lx.tok_num this).1
          rw [hn] at q; cases q
      · exact .inl e
set_option maxHeartbeats 8000000 in
set_option maxRecDepth 100000 in
theorem words_walk {E : World → Prop} (A : LApi E) {w : World} {s : S} (hE : E w) :
    Calls Tryd.prog 8 #[.string (bs s)] w fun e w' => e = .returned (.bool true) ∧ Below w.heap.size w w' := by
  have HE := Lib.hid hE
  clear hE
  obtain ⟨x, hx⟩ : ∃ x, s.take 900 = x := ⟨_, rfl⟩
  have HC := fun w1 => @cut_any w1 s
  rw [hx] at HC
  have hxl : x.length ≤ 900 := by rw [← hx, List.length_take]; omega
  have HC := Lib.hid HC
  have zx := bs_size x
  clear hx
  cases hw : wordOk x with
  | true =>
    have HN := Lib.hid (numRes_no (not_both hw))
    have HW := Lib.hid hw
    have hl := word_short hw
    have HR := Lib.hid (lexRes_ok (by omega) (word_lex hw))
    clear hw
    go_enter Tryd.func8, Tryd.ntmps8
    go_wp2_with (go_at_call 9; refine (small_any A HE.out).mono ?_; rintro e w1 ⟨rfl, b1⟩; refine Hid.out ?_)
    refine Lib.hid ?_
    have HE := Lib.hid (A.keep HE.out b1)
    have B := Lib.hid b1
    clear b1
    go_wp2_with (go_at_call 10; refine (HC.out _).mono ?_; rintro e w2 ⟨rfl, rfl⟩; refine Hid.out ?_)
    refine Lib.hid ?_
    have H := Lib.hid (A.lex_ok HR.out HE.out (by omega))
    go_wp2_with (go_at_call 11; refine (H.out).mono ?_; rintro e w3 ⟨a3, c3, rfl, h3, b1⟩; refine Hid.out ?_)
    refine Lib.hid ?_
    have H3 := Lib.hid h3
    clear h3
    have HE := Lib.hid (A.keep HE.out b1)
    have B := Lib.hid (B.out.trans (b1.mono B.out.size))
    have H := Lib.hid (A.number_eq HN.out HE.out (by omega))
    clear b1
    go_wp2_with (go_at_call 13; refine (H.out).mono ?_; rintro e w4 ⟨rfl, b1⟩; refine Hid.out ?_)
    refine Lib.hid ?_
    have HE := Lib.hid (A.keep HE.out b1)
    have B := Lib.hid (B.out.trans (b1.mono B.out.size))
    have H := Lib.hid (A.word_eq HW.out HE.out (by omega))
    have H3 := Lib.hid (H3.out.keep b1)
    clear b1
    go_wp2_with (go_at_call 16; refine (H.out).mono ?_; rintro e w5 ⟨rfl, b1⟩; refine Hid.out ?_)
    refine Lib.hid ?_
    have HE := Lib.hid (A.keep HE.out b1)
    have B := Lib.hid (B.out.trans (b1.mono B.out.size))
    obtain ⟨g, off, cap, h1, _, hc⟩ := (H3.out.keep b1).form (by simp)
    cases h1
    obtain ⟨c0, c1, c2, -⟩ := hc 0 _ rfl
    simp only [Nat.zero_mul, Nat.add_zero] at c0 c1 c2
    clear hc b1
    go_wp2
    go_ret
    exact ⟨rfl, B.out⟩
  | false =>
    have HW := Lib.hid hw
    cases hn : numOk x with
    | true =>
      have HN := Lib.hid (numRes_yes hn)
      have hl := num_small hn
      have HR := Lib.hid (lexRes_ok (by omega) (num_lex hn))
      clear hn hw
      go_enter Tryd.func8, Tryd.ntmps8
      go_wp2_with (go_at_call 9; refine (small_any A HE.out).mono ?_; rintro e w1 ⟨rfl, b1⟩; refine Hid.out ?_)
      refine Lib.hid ?_
      have HE := Lib.hid (A.keep HE.out b1)
      have B := Lib.hid b1
      clear b1
      go_wp2_with (go_at_call 10; refine (HC.out _).mono ?_; rintro e w2 ⟨rfl, rfl⟩; refine Hid.out ?_)
      refine Lib.hid ?_
      have H := Lib.hid (A.lex_ok HR.out HE.out (by omega))
      go_wp2_with (go_at_call 11; refine (H.out).mono ?_; rintro e w3 ⟨a3, c3, rfl, h3, b1⟩; refine Hid.out ?_)
      refine Lib.hid ?_
      have H3 := Lib.hid h3
      clear h3
      have HE := Lib.hid (A.keep HE.out b1)
      have B := Lib.hid (B.out.trans (b1.mono B.out.size))
      have H := Lib.hid (A.number_eq HN.out HE.out (by omega))
      clear b1
      go_wp2_with (go_at_call 13; refine (H.out).mono ?_; rintro e w4 ⟨rfl, b1⟩; refine Hid.out ?_)
      refine Lib.hid ?_
      have HE := Lib.hid (A.keep HE.out b1)
      have B := Lib.hid (B.out.trans (b1.mono B.out.size))
      have H := Lib.hid (A.word_eq HW.out HE.out (by omega))
      have H3 := Lib.hid (H3.out.keep b1)
      clear b1
      go_wp2_with (go_at_call 16; refine (H.out).mono ?_; rintro e w5 ⟨rfl, b1⟩; refine Hid.out ?_)
      refine Lib.hid ?_
      have HE := Lib.hid (A.keep HE.out b1)
      have B := Lib.hid (B.out.trans (b1.mono B.out.size))
      obtain ⟨g, off, cap, h1, _, hc⟩ := (H3.out.keep b1).form (by simp)
      cases h1
      obtain ⟨c0, c1, c2, -⟩ := hc 0 _ rfl
      simp only [Nat.zero_mul, Nat.add_zero] at c0 c1 c2
      clear hc b1
      have hv1 : (0 : Int) ≤ (val x : Int) := by omega
      have hv2 : (val x : Int) ≤ 1099511627776 := by omega
      go_wp2
      go_ret
      exact ⟨rfl, B.out⟩
    | false =>
      have HN := Lib.hid (numRes_no hn)
      rcases lexRes_cases x (by omega) with ⟨ts, hr, hr2⟩ | ⟨p, er, hr, hr2⟩
      · by_cases h2 : ts.length = 2
        · obtain ⟨a, b, rfl, hab⟩ := two_toks hr h2 hw hn
          have HR := Lib.hid hr2
          clear hr hr2 h2 hw hn
          go_enter Tryd.func8, Tryd.ntmps8
          go_wp2_with (go_at_call 9; refine (small_any A HE.out).mono ?_; rintro e w1 ⟨rfl, b1⟩; refine Hid.out ?_)
          refine Lib.hid ?_
          have HE := Lib.hid (A.keep HE.out b1)
          have B := Lib.hid b1
          clear b1
          go_wp2_with (go_at_call 10; refine (HC.out _).mono ?_; rintro e w2 ⟨rfl, rfl⟩; refine Hid.out ?_)
          refine Lib.hid ?_
          have H := Lib.hid (A.lex_ok HR.out HE.out (by omega))
          go_wp2_with (go_at_call 11; refine (H.out).mono ?_; rintro e w3 ⟨a3, c3, rfl, h3, b1⟩; refine Hid.out ?_)
          refine Lib.hid ?_
          have H3 := Lib.hid h3
          clear h3
          have HE := Lib.hid (A.keep HE.out b1)
          have B := Lib.hid (B.out.trans (b1.mono B.out.size))
          have H := Lib.hid (A.number_eq HN.out HE.out (by omega))
          clear b1
          go_wp2_with (go_at_call 13; refine (H.out).mono ?_; rintro e w4 ⟨rfl, b1⟩; refine Hid.out ?_)
          refine Lib.hid ?_
          have HE := Lib.hid (A.keep HE.out b1)
          have B := Lib.hid (B.out.trans (b1.mono B.out.size))
          have H := Lib.hid (A.word_eq HW.out HE.out (by omega))
          have H3 := Lib.hid (H3.out.keep b1)
          clear b1
          go_wp2_with (go_at_call 16; refine (H.out).mono ?_; rintro e w5 ⟨rfl, b1⟩; refine Hid.out ?_)
          refine Lib.hid ?_
          have HE := Lib.hid (A.keep HE.out b1)
          have B := Lib.hid (B.out.trans (b1.mono B.out.size))
          obtain ⟨g, off, cap, h1, _, hc⟩ := (H3.out.keep b1).form (by simp)
          cases h1
          obtain ⟨c0, c1, c2, -⟩ := hc 0 _ rfl
          simp only [Nat.zero_mul, Nat.add_zero] at c0 c1 c2
          clear hc b1
          rcases hab with hab | ⟨hab, k0, k1⟩
          · have hst := str_ne hab
            clear hab
            go_wp2
            go_ret
            exact ⟨rfl, B.out⟩
          · rw [hab] at c1
            have k0 : (a.kind == 0) = false := beq_eq_false_iff_ne.2 k0
            have k1 : (a.kind == 1) = false := beq_eq_false_iff_ne.2 k1
            clear hab
            go_wp2
            go_ret
            exact ⟨rfl, B.out⟩
        · have h2' : (((ts.length : Nat) : Int) != 2) = true := by simp; omega
          have HR := Lib.hid hr2
          have hl1 := (lex_len hr).1
          clear hr hr2 hw hn h2
          go_enter Tryd.func8, Tryd.ntmps8
          go_wp2_with (go_at_call 9; refine (small_any A HE.out).mono ?_; rintro e w1 ⟨rfl, b1⟩; refine Hid.out ?_)
          refine Lib.hid ?_
          have HE := Lib.hid (A.keep HE.out b1)
          have B := Lib.hid b1
          clear b1
          go_wp2_with (go_at_call 10; refine (HC.out _).mono ?_; rintro e w2 ⟨rfl, rfl⟩; refine Hid.out ?_)
          refine Lib.hid ?_
          have H := Lib.hid (A.lex_ok HR.out HE.out (by omega))
          go_wp2_with (go_at_call 11; refine (H.out).mono ?_; rintro e w3 ⟨a3, c3, rfl, h3, b1⟩; refine Hid.out ?_)
          refine Lib.hid ?_
          clear h3
          have HE := Lib.hid (A.keep HE.out b1)
          have B := Lib.hid (B.out.trans (b1.mono B.out.size))
          have H := Lib.hid (A.number_eq HN.out HE.out (by omega))
          clear b1
          go_wp2_with (go_at_call 13; refine (H.out).mono ?_; rintro e w4 ⟨rfl, b1⟩; refine Hid.out ?_)
          refine Lib.hid ?_
          have HE := Lib.hid (A.keep HE.out b1)
          have B := Lib.hid (B.out.trans (b1.mono B.out.size))
          have H := Lib.hid (A.word_eq HW.out HE.out (by omega))
          clear b1
          go_wp2_with (go_at_call 16; refine (H.out).mono ?_; rintro e w5 ⟨rfl, b1⟩; refine Hid.out ?_)
          refine Lib.hid ?_
          have HE := Lib.hid (A.keep HE.out b1)
          have B := Lib.hid (B.out.trans (b1.mono B.out.size))
          clear b1
          go_wp2
          go_ret
          exact ⟨rfl, B.out⟩
      · have HR := Lib.hid hr2
        have hne := err_ne hr
        clear hr hr2 hw hn
        go_enter Tryd.func8, Tryd.ntmps8
        go_wp2_with (go_at_call 9; refine (small_any A HE.out).mono ?_; rintro e w1 ⟨rfl, b1⟩; refine Hid.out ?_)
        refine Lib.hid ?_
        have HE := Lib.hid (A.keep HE.out b1)
        have B := Lib.hid b1
        clear b1
        go_wp2_with (go_at_call 10; refine (HC.out _).mono ?_; rintro e w2 ⟨rfl, rfl⟩; refine Hid.out ?_)
        refine Lib.hid ?_
        have H := Lib.hid (A.lex_err HR.out HE.out (by omega))
        go_wp2_with (go_at_call 11; refine (H.out).mono ?_; rintro e w3 ⟨a3, c3, rfl, b1⟩; refine Hid.out ?_)
        refine Lib.hid ?_
        have HE := Lib.hid (A.keep HE.out b1)
        have B := Lib.hid (B.out.trans (b1.mono B.out.size))
        have H := Lib.hid (A.number_eq HN.out HE.out (by omega))
        clear b1
        go_wp2_with (go_at_call 13; refine (H.out).mono ?_; rintro e w4 ⟨rfl, b1⟩; refine Hid.out ?_)
        refine Lib.hid ?_
        have HE := Lib.hid (A.keep HE.out b1)
        have B := Lib.hid (B.out.trans (b1.mono B.out.size))
        have H := Lib.hid (A.word_eq HW.out HE.out (by omega))
        clear b1
        go_wp2_with (go_at_call 16; refine (H.out).mono ?_; rintro e w5 ⟨rfl, b1⟩; refine Hid.out ?_)
        refine Lib.hid ?_
        have HE := Lib.hid (A.keep HE.out b1)
        have B := Lib.hid (B.out.trans (b1.mono B.out.size))
        clear b1
        go_wp2
        go_ret
        exact ⟨rfl, B.out⟩
end Go.Proofs.YtenbdnkipkfpkaaDoor
