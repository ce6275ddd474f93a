/- The walks of LexTells and LexBack. -/
import Derived.Test.YtenbdnkipkfpkaaDoorLSmall
namespace Go.Proofs.YtenbdnkipkfpkaaDoor
open Go.RowKit Go.Maps Go.ChangeMaps Go.MapKept
open Lx
attribute [local go_sem ↓] Go.wp_at_zero Go.wp_at_succ
set_option maxHeartbeats 8000000 in
set_option maxRecDepth 100000 in
theorem tells_walk {E : World → Prop} (A : LApi E) {w : World} {s : S} {v : Value} {l : List Tk} (hE : E w) (hv : TkAt w v l) :
    Calls Tryd.prog 3 #[.string (bs s), v] w fun e w' => e = .returned (.bool true) ∧ Below w.heap.size w w' := by
  have HE := Lib.hid hE
  have HV := Lib.hid hv
  obtain ⟨la, lc, rfl⟩ := hv.slice
  clear hE hv
  go_enter Tryd.func3, Tryd.ntmps3
  go_wp2_with (go_at_call 9; refine (small_any A HE.out).mono ?_; rintro e w1 ⟨rfl, b1⟩; refine Hid.out ?_)
  refine Lib.hid ?_
  have HE := Lib.hid (A.keep HE.out b1)
  have B := Lib.hid b1
  have HV := Lib.hid (HV.out.keep b1)
  clear b1
  by_cases hl : 100 < l.length
  · have hl' : (100 : Int) < (l.length : Int) := by omega
    go_wp2
    go_ret
    exact ⟨rfl, B.out⟩
  · have hl' : ¬ (100 : Int) < (l.length : Int) := by omega
    go_wp2
    go_loopw [6] (fun i wr => ∃ k : Nat, k ≤ l.length ∧ i = .int .i64 k ∧ Hid (∀ t ∈ l.take k, t.text.length ≤ 100) ∧ w1 = wr) (fun i _ => l.length - (intOf i).toNat)
    case atStart => exact ⟨0, Nat.zero_le _, rfl, Lib.hid (by simp), rfl⟩
    case round =>
      obtain ⟨k, hk, rfl, HT, rfl⟩ := hrel
      by_cases hlt : k < l.length
      · obtain ⟨t, ht⟩ : ∃ t, l[k]? = some t := ⟨_, List.getElem?_eq_getElem hlt⟩
        obtain ⟨g, off, cap, h1, _, hc⟩ := HV.out.form (by omega)
        cases h1
        obtain ⟨c0, c1, -, -⟩ := hc k t ht
        have zt := bs_size t.text
        have HN := Lib.hid (show t.text.length ≤ 100 → ∀ x ∈ l.take (k + 1), x.text.length ≤ 100 by
          intro h x hx
          rw [List.take_add_one, ht] at hx
          rcases List.mem_append.1 hx with q | q
          · exact HT.out x q
          · simp at q; subst q; exact h)
        clear hc ht
        by_cases hb : 100 < t.text.length
        · have hb' : (100 : Int) < (t.text.length : Int) := by omega
          go_wp2
          go_ret
          exact ⟨rfl, B.out⟩
        · have hb' : ¬ (100 : Int) < (t.text.length : Int) := by omega
          go_wp2
          go_roundw
          case rel => exact ⟨k + 1, by omega, by go_num, Lib.hid (HN.out (by omega)), by trivial⟩
          case measure => simp [intOf]; omega
      · obtain rfl : k = l.length := by omega
        have HT := Lib.hid (show ∀ t ∈ l, t.text.length ≤ 100 by have := HT.out; rwa [List.take_length] at this)
        have HTX := Lib.hid (show (textOf l).length ≤ 100000 by
          have := text_bound HT.out
          have : l.length * (100 + 1) ≤ 100 * (100 + 1) := Nat.mul_le_mul_right _ (by omega)
          omega)
        obtain ⟨x, hx⟩ : ∃ x, s.take 900 = x := ⟨_, rfl⟩
        have H := @cut_any w1 s
        rw [hx] at H
        have hxl : x.length ≤ 900 := by rw [← hx, List.length_take]; omega
        have H := Lib.hid H
        clear hx
        go_wp2_with (go_at_call 10; refine (H.out).mono ?_; rintro e w2 ⟨rfl, rfl⟩; refine Hid.out ?_)
        refine Lib.hid ?_
        obtain ⟨ts, p, er, hr⟩ : ∃ ts p er, lexRes x = (ts, p, er) := ⟨_, _, _, rfl⟩
        have HL := Lib.hid (show ts.length ≤ 1000 by have := lexRes_len x; rw [hr] at this; simp at this; omega)
        have HR := Lib.hid hr
        have H := Lib.hid (A.lex_gen hr HE.out (by omega))
        clear hr
        go_wp2_with (go_at_call 11; refine (H.out).mono ?_; rintro e w3 ⟨a3, c3, rfl, h3, b1⟩; refine Hid.out ?_)
        refine Lib.hid ?_
        have HE := Lib.hid (A.keep HE.out b1)
        have B := Lib.hid (B.out.trans (b1.mono B.out.size))
        have HV := Lib.hid (HV.out.keep b1)
        have H3 := Lib.hid h3
        have H := Lib.hid (q_lex_gen (w := w3) HR.out (by omega))
        clear b1 h3
        go_wp2_with (go_at_call 12; refine (H.out).mono ?_; rintro e w4 ⟨a4, c4, rfl, h4, b1⟩; refine Hid.out ?_)
        refine Lib.hid ?_
        have HE := Lib.hid (A.keep HE.out b1)
        have B := Lib.hid (B.out.trans (b1.mono B.out.size))
        have HV := Lib.hid (HV.out.keep b1)
        have H3 := Lib.hid (H3.out.keep b1)
        have H4 := Lib.hid h4
        clear b1 h4
        obtain ⟨n, ok, hn⟩ : ∃ n ok, numRes x = (n, ok) := ⟨_, _, rfl⟩
        have H := Lib.hid (A.number_eq hn HE.out (by omega))
        go_wp2_with (go_at_call 13; refine (H.out).mono ?_; rintro e w5 ⟨rfl, b1⟩; refine Hid.out ?_)
        refine Lib.hid ?_
        have HE := Lib.hid (A.keep HE.out b1)
        have B := Lib.hid (B.out.trans (b1.mono B.out.size))
        have HV := Lib.hid (HV.out.keep b1)
        have H3 := Lib.hid (H3.out.keep b1)
        have H4 := Lib.hid (H4.out.keep b1)
        have H := q_number (w := w5) (s := x) (by omega)
        rw [hn] at H
        have H := Lib.hid H
        clear b1 hn
        go_wp2_with (go_at_call 14; refine (H.out).mono ?_; rintro e w6 ⟨rfl, rfl⟩; refine Hid.out ?_)
        refine Lib.hid ?_
        have H := Lib.hid (same_yes H3.out H4.out (by have := HL.out; omega))
        clear H3 H4
        go_wp2_with (go_at_call 15; refine (H.out).mono ?_; rintro e w7 ⟨rfl, b1⟩; refine Hid.out ?_)
        refine Lib.hid ?_
        have HE := Lib.hid (A.keep HE.out b1)
        have B := Lib.hid (B.out.trans (b1.mono B.out.size))
        have HV := Lib.hid (HV.out.keep b1)
        obtain ⟨wd, hwd⟩ : ∃ wd, wordOk x = wd := ⟨_, rfl⟩
        have H := Lib.hid (A.word_eq hwd HE.out (by omega))
        clear b1
        go_wp2_with (go_at_call 16; refine (H.out).mono ?_; rintro e w8 ⟨rfl, b1⟩; refine Hid.out ?_)
        refine Lib.hid ?_
        have HE := Lib.hid (A.keep HE.out b1)
        have B := Lib.hid (B.out.trans (b1.mono B.out.size))
        have HV := Lib.hid (HV.out.keep b1)
        have H := q_word (w := w8) (s := x) (by omega)
        rw [hwd] at H
        have H := Lib.hid H
        clear b1 hwd
        go_wp2_with (go_at_call 17; refine (H.out).mono ?_; rintro e w9 ⟨rfl, rfl⟩; refine Hid.out ?_)
        refine Lib.hid ?_
        have H := Lib.hid (A.text_ HE.out HV.out HTX.out (by omega) (fun t ht => by have := HT.out t ht; omega))
        go_wp2_with (go_at_call 18; refine (H.out).mono ?_; rintro e w10 ⟨rfl, b1⟩; refine Hid.out ?_)
        refine Lib.hid ?_
        have HE := Lib.hid (A.keep HE.out b1)
        have B := Lib.hid (B.out.trans (b1.mono B.out.size))
        have HV := Lib.hid (HV.out.keep b1)
        have H := Lib.hid (q_text HV.out (by have := HTX.out; omega) (by omega))
        clear b1
        go_wp2_with (go_at_call 19; refine (H.out).mono ?_; rintro e w11 ⟨rfl, rfl⟩; refine Hid.out ?_)
        refine Lib.hid ?_
        go_wp2
        go_ret
        exact ⟨rfl, B.out⟩
theorem err_ne {s : S} {p e : Int} (h : lex s 0 = .error (p, e)) : (e != 0) = true := by
  obtain ⟨m, _, _, _, _, h5⟩ := lex_error h
  rcases h5 with rfl | rfl | rfl <;> rfl
set_option maxHeartbeats 8000000 in
set_option maxRecDepth 100000 in
theorem back_walk {E : World → Prop} (A : LApi E) {w : World} {s : S} (hE : E w) :
    Calls Tryd.prog 4 #[.string (bs s)] w fun e w' => e = .returned (.bool true) ∧ Below w.heap.size w w' := by
  have HE := Lib.hid hE
  clear hE
  go_enter Tryd.func4, Tryd.ntmps4
  go_wp2_with (go_at_call 9; refine (small_any A HE.out).mono ?_; rintro e w1 ⟨rfl, b1⟩; refine Hid.out ?_)
  refine Lib.hid ?_
  have HE := Lib.hid (A.keep HE.out b1)
  have B := Lib.hid b1
  obtain ⟨x, hx⟩ : ∃ x, s.take 900 = x := ⟨_, rfl⟩
  have H := @cut_any w1 s
  rw [hx] at H
  have hxl : x.length ≤ 900 := by rw [← hx, List.length_take]; omega
  have H := Lib.hid H
  clear hx b1
  go_wp2_with (go_at_call 10; refine (H.out).mono ?_; rintro e w2 ⟨rfl, rfl⟩; refine Hid.out ?_)
  refine Lib.hid ?_
  rcases lexRes_cases x (by omega) with ⟨ts, hr, hr2⟩ | ⟨p, er, hr, hr2⟩
  · obtain ⟨us, h1, h2, h3, h4, h5⟩ := lexRes_back hr (by omega)
    obtain ⟨l1, l2, l3⟩ := lex_len hr
    have H := Lib.hid (A.lex_ok hr2 HE.out (by omega))
    have L2 := Lib.hid l2
    have H1 := Lib.hid h1
    have H2 := Lib.hid h2
    have H3 := Lib.hid h3
    have H4 := Lib.hid h4
    have H5 := Lib.hid h5
    obtain ⟨X, hX⟩ : ∃ X, textOf ts = X := ⟨_, rfl⟩
    rw [hX] at l3
    have HX := Lib.hid hX
    clear hr hr2 h1 h2 h3 h4 h5 l2 hX
    go_wp2_with (go_at_call 11; refine (H.out).mono ?_; rintro e w3 ⟨a3, c3, rfl, k3, b1⟩; refine Hid.out ?_)
    refine Lib.hid ?_
    have HE := Lib.hid (A.keep HE.out b1)
    have B := Lib.hid (B.out.trans (b1.mono B.out.size))
    have K3 := Lib.hid k3
    have H := Lib.hid (A.text_eq HX.out HE.out k3 (by omega) (by omega) (fun t ht => by have := L2.out t ht; omega))
    clear b1 k3
    go_wp2_with (go_at_call 18; refine (H.out).mono ?_; rintro e w4 ⟨rfl, b1⟩; refine Hid.out ?_)
    refine Lib.hid ?_
    have HE := Lib.hid (A.keep HE.out b1)
    have B := Lib.hid (B.out.trans (b1.mono B.out.size))
    have K3 := Lib.hid (K3.out.keep b1)
    have H := Lib.hid (A.lex_ok (s := X) (by rw [← HX.out]; exact H1.out) HE.out (by omega))
    clear b1
    go_wp2_with (go_at_call 11; refine (H.out).mono ?_; rintro e w5 ⟨a5, c5, rfl, k5, b1⟩; refine Hid.out ?_)
    refine Lib.hid ?_
    have HE := Lib.hid (A.keep HE.out b1)
    have B := Lib.hid (B.out.trans (b1.mono B.out.size))
    have K3 := Lib.hid (K3.out.keep b1)
    have K5 := Lib.hid k5
    have H := Lib.hid (like_yes K3.out K5.out H2.out (by omega))
    clear b1 k5
    go_wp2_with (go_at_call 20; refine (H.out).mono ?_; rintro e w6 ⟨rfl, b1⟩; refine Hid.out ?_)
    refine Lib.hid ?_
    have HE := Lib.hid (A.keep HE.out b1)
    have B := Lib.hid (B.out.trans (b1.mono B.out.size))
    have H := Lib.hid (A.text_eq (H3.out.trans HX.out) HE.out (K5.out.keep b1) (by omega) (by have := H4.out; omega) (fun t ht => by have := H5.out t ht; omega))
    clear b1
    go_wp2_with (go_at_call 18; refine (H.out).mono ?_; rintro e w7 ⟨rfl, b1⟩; refine Hid.out ?_)
    refine Lib.hid ?_
    have HE := Lib.hid (A.keep HE.out b1)
    have B := Lib.hid (B.out.trans (b1.mono B.out.size))
    go_wp2
    go_ret
    exact ⟨rfl, B.out⟩
  · have hne := err_ne hr
    have H := Lib.hid (A.lex_err hr2 HE.out (by omega))
    clear hr hr2
    go_wp2_with (go_at_call 11; refine (H.out).mono ?_; rintro e w3 ⟨a3, c3, rfl, b1⟩; refine Hid.out ?_)
    refine Lib.hid ?_
    have HE := Lib.hid (A.keep HE.out b1)
    have B := Lib.hid (B.out.trans (b1.mono B.out.size))
    go_wp2
    go_ret
    exact ⟨rfl, B.out⟩
end Go.Proofs.YtenbdnkipkfpkaaDoor
