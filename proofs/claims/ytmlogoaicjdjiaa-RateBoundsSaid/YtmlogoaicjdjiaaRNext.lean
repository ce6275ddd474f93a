/- The walk of RateNext. -/
import Derived.Test.YtmlogoaicjdjiaaRSmall
namespace Go.Proofs.Ytmlogoaicjdjiaa
open Go.RowKit Go.Maps Go.ChangeMaps Go.MapKept
open Rt
attribute [local go_sem ↓] Go.wp_at_zero Go.wp_at_succ
theorem i64_1 : I64 1073741824 := by unfold I64; omega
theorem right_i64 {L S r b : Int} (h : right L S r b = true) : I64 L ∧ I64 S ∧ I64 r ∧ I64 b := by
  have := right_iff.1 h
  unfold I64
  omega
set_option maxHeartbeats 8000000 in
set_option maxRecDepth 100000 in
theorem next_walk (A : RApi) {w : World} {L S r b n t : Int} (hL : I64 L) (hS : I64 S) (hr : I64 r) (hb : I64 b) (hn : I64 n) (ht : I64 t) :
    Calls Try.prog 6 #[.int .i64 L, .int .i64 S, .int .i64 r, .int .i64 b, .int .i64 n, .int .i64 t] w fun e w' => e = .returned (.bool true) ∧ Below w.heap.size w w' := by
  have HH := Lib.hid (And.intro hL (And.intro hS (And.intro hr (And.intro hb (And.intro hn ht)))))
  clear hL hS hr hb hn ht
  cases hrt : right L S r b with
  | false =>
    have H1 := Lib.hid (fun w => A.right_eq (w := w) hrt HH.out.1 HH.out.2.1 HH.out.2.2.1 HH.out.2.2.2.1)
    clear hrt
    go_enter Try.func6, Try.ntmps6
    go_wp2_with (go_at_call 7; refine (small_any A _).mono ?_; rintro e w1 ⟨rfl, m1⟩; refine Hid.out ?_)
    refine Lib.hid ?_
    have B := Lib.hid m1
    clear m1
    obtain ⟨c0, c1⟩ := buck_new w1 (L) (S)
    have ba := (Below.refl w1.heap.size w1).alloc (Nat.le_refl _) (.cells #[.int .i64 (L), .int .i64 (S)] 24)
    have B := Lib.hid (B.out.trans (ba.mono B.out.size))
    clear ba
    go_wp2_with (go_at_call 14; refine (H1.out _).mono ?_; rintro e w2 ⟨rfl, bb⟩; refine Hid.out ?_)
    refine Lib.hid ?_
    have c0 := below_cell c0 bb
    have c1 := below_cell c1 bb
    have B := Lib.hid (B.out.trans (bb.mono B.out.size))
    clear bb
    go_wp2
    go_ret
    exact ⟨rfl, B.out⟩
  | true =>
    have H1 := Lib.hid (fun w => A.right_eq (w := w) hrt HH.out.1 HH.out.2.1 HH.out.2.2.1 HH.out.2.2.2.1)
    have HR := Lib.hid hrt
    have hin := right_iff.1 hrt
    clear hrt
    by_cases hn0 : n < 0
    · go_enter Try.func6, Try.ntmps6
      go_wp2_with (go_at_call 7; refine (small_any A _).mono ?_; rintro e w1 ⟨rfl, m1⟩; refine Hid.out ?_)
      refine Lib.hid ?_
      have B := Lib.hid m1
      clear m1
      obtain ⟨c0, c1⟩ := buck_new w1 (L) (S)
      have ba := (Below.refl w1.heap.size w1).alloc (Nat.le_refl _) (.cells #[.int .i64 (L), .int .i64 (S)] 24)
      have B := Lib.hid (B.out.trans (ba.mono B.out.size))
      clear ba
      go_wp2_with (go_at_call 14; refine (H1.out _).mono ?_; rintro e w2 ⟨rfl, bb⟩; refine Hid.out ?_)
      refine Lib.hid ?_
      have c0 := below_cell c0 bb
      have c1 := below_cell c1 bb
      have B := Lib.hid (B.out.trans (bb.mono B.out.size))
      clear bb
      go_wp2
      go_ret
      exact ⟨rfl, B.out⟩
    · have hT := free_ok HR.out (Int.le_refl 1073741824) (by omega)
      by_cases hfull : places L S r b 1073741824 < n
      · have H2 := Lib.hid (fun w => A.next_eq (w := w) (next_full HR.out (by omega) hfull) HH.out.1 HH.out.2.1 HH.out.2.2.1 HH.out.2.2.2.1 HH.out.2.2.2.2.1)
        have H3 := Lib.hid (fun w => A.take_eq (w := w) (take_full hn0 hT hfull) HH.out.1 HH.out.2.1 HH.out.2.2.1 HH.out.2.2.2.1 i64_1 HH.out.2.2.2.2.1)
        clear hT
        go_enter Try.func6, Try.ntmps6
        go_wp2_with (go_at_call 7; refine (small_any A _).mono ?_; rintro e w1 ⟨rfl, m1⟩; refine Hid.out ?_)
        refine Lib.hid ?_
        have B := Lib.hid m1
        clear m1
        obtain ⟨c0, c1⟩ := buck_new w1 (L) (S)
        have ba := (Below.refl w1.heap.size w1).alloc (Nat.le_refl _) (.cells #[.int .i64 (L), .int .i64 (S)] 24)
        have B := Lib.hid (B.out.trans (ba.mono B.out.size))
        clear ba
        go_wp2_with (go_at_call 14; refine (H1.out _).mono ?_; rintro e w2 ⟨rfl, bb⟩; refine Hid.out ?_)
        refine Lib.hid ?_
        have c0 := below_cell c0 bb
        have c1 := below_cell c1 bb
        have B := Lib.hid (B.out.trans (bb.mono B.out.size))
        clear bb
        go_wp2_with (go_at_call 12; refine (H2.out _).mono ?_; rintro e w3 ⟨rfl, bb⟩; refine Hid.out ?_)
        refine Lib.hid ?_
        have c0 := below_cell c0 bb
        have c1 := below_cell c1 bb
        have B := Lib.hid (B.out.trans (bb.mono B.out.size))
        clear bb
        go_wp2_with (go_at_call 8; refine (H3.out _).mono ?_; rintro e w4 ⟨rfl, bb⟩; refine Hid.out ?_)
        refine Lib.hid ?_
        have c0 := below_cell c0 bb
        have c1 := below_cell c1 bb
        have B := Lib.hid (B.out.trans (bb.mono B.out.size))
        clear bb
        obtain ⟨d0, d1⟩ := buck_new w4 (L) (S)
        have ba := (Below.refl w4.heap.size w4).alloc (Nat.le_refl _) (.cells #[.int .i64 (L), .int .i64 (S)] 24)
        have c0 := below_cell c0 ba
        have c1 := below_cell c1 ba
        have B := Lib.hid (B.out.trans (ba.mono B.out.size))
        clear ba
        go_wp2
        go_ret
        exact ⟨rfl, B.out⟩
      · have hq : n ≤ places L S r b 1073741824 := by omega
        have H2 := Lib.hid (fun w => A.next_eq (w := w) (next_ok HR.out (by omega) hq) HH.out.1 HH.out.2.1 HH.out.2.2.1 HH.out.2.2.2.1 HH.out.2.2.2.2.1)
        have hli := least_in HR.out hq
        have HLI := Lib.hid (fun (t : Int) (hs : S ≤ t) => least_iff (t := t) HR.out hq hs)
        obtain ⟨m, hm⟩ : ∃ m, least L S r n = m := ⟨_, rfl⟩
        rw [hm] at H2 HLI hli
        clear hm hT
        obtain ⟨p, hp⟩ : ∃ p, places L S r b m = p := ⟨_, rfl⟩
        have hpm := (HLI.out m (by omega)).2 (Int.le_refl _)
        have him : I64 m := by unfold I64; omega
        have H3 := Lib.hid (fun w => A.take_eq (w := w) (take_ok hn0 (free_ok HR.out (show m ≤ 1073741824 by omega) (show S ≤ m by omega)) hpm) HH.out.1 HH.out.2.1 HH.out.2.2.1 HH.out.2.2.2.1 him HH.out.2.2.2.2.1)
        rw [hp] at H3
        clear hp hpm him
        by_cases hms : m = S
        · subst hms
          have H4 := H3
          by_cases hs1 : t < m
          · go_enter Try.func6, Try.ntmps6
            go_wp2_with (go_at_call 7; refine (small_any A _).mono ?_; rintro e w1 ⟨rfl, m1⟩; refine Hid.out ?_)
            refine Lib.hid ?_
            have B := Lib.hid m1
            clear m1
            obtain ⟨c0, c1⟩ := buck_new w1 (L) (m)
            have ba := (Below.refl w1.heap.size w1).alloc (Nat.le_refl _) (.cells #[.int .i64 (L), .int .i64 (m)] 24)
            have B := Lib.hid (B.out.trans (ba.mono B.out.size))
            clear ba
            go_wp2_with (go_at_call 14; refine (H1.out _).mono ?_; rintro e w2 ⟨rfl, bb⟩; refine Hid.out ?_)
            refine Lib.hid ?_
            have c0 := below_cell c0 bb
            have c1 := below_cell c1 bb
            have B := Lib.hid (B.out.trans (bb.mono B.out.size))
            clear bb
            go_wp2_with (go_at_call 12; refine (H2.out _).mono ?_; rintro e w3 ⟨rfl, bb⟩; refine Hid.out ?_)
            refine Lib.hid ?_
            have c0 := below_cell c0 bb
            have c1 := below_cell c1 bb
            have B := Lib.hid (B.out.trans (bb.mono B.out.size))
            clear bb
            go_wp2_with (go_at_call 8; refine (H3.out _).mono ?_; rintro e w4 ⟨rfl, bb⟩; refine Hid.out ?_)
            refine Lib.hid ?_
            have c0 := below_cell c0 bb
            have c1 := below_cell c1 bb
            have B := Lib.hid (B.out.trans (bb.mono B.out.size))
            clear bb
            obtain ⟨d0, d1⟩ := buck_new w4 (p - n) (m)
            have ba := (Below.refl w4.heap.size w4).alloc (Nat.le_refl _) (.cells #[.int .i64 (p - n), .int .i64 (m)] 24)
            have c0 := below_cell c0 ba
            have c1 := below_cell c1 ba
            have B := Lib.hid (B.out.trans (ba.mono B.out.size))
            clear ba
            go_wp2_with (go_at_call 8; refine (H4.out _).mono ?_; rintro e w5 ⟨rfl, bb⟩; refine Hid.out ?_)
            refine Lib.hid ?_
            have c0 := below_cell c0 bb
            have c1 := below_cell c1 bb
            have d0 := below_cell d0 bb
            have d1 := below_cell d1 bb
            have B := Lib.hid (B.out.trans (bb.mono B.out.size))
            clear bb
            obtain ⟨f0, f1⟩ := buck_new w5 (p - n) (m)
            have ba := (Below.refl w5.heap.size w5).alloc (Nat.le_refl _) (.cells #[.int .i64 (p - n), .int .i64 (m)] 24)
            have c0 := below_cell c0 ba
            have c1 := below_cell c1 ba
            have d0 := below_cell d0 ba
            have d1 := below_cell d1 ba
            have B := Lib.hid (B.out.trans (ba.mono B.out.size))
            clear ba
            go_wp2
            go_ret
            exact ⟨rfl, B.out⟩
          · by_cases hs2 : 1073741824 < t
            · go_enter Try.func6, Try.ntmps6
              go_wp2_with (go_at_call 7; refine (small_any A _).mono ?_; rintro e w1 ⟨rfl, m1⟩; refine Hid.out ?_)
              refine Lib.hid ?_
              have B := Lib.hid m1
              clear m1
              obtain ⟨c0, c1⟩ := buck_new w1 (L) (m)
              have ba := (Below.refl w1.heap.size w1).alloc (Nat.le_refl _) (.cells #[.int .i64 (L), .int .i64 (m)] 24)
              have B := Lib.hid (B.out.trans (ba.mono B.out.size))
              clear ba
              go_wp2_with (go_at_call 14; refine (H1.out _).mono ?_; rintro e w2 ⟨rfl, bb⟩; refine Hid.out ?_)
              refine Lib.hid ?_
              have c0 := below_cell c0 bb
              have c1 := below_cell c1 bb
              have B := Lib.hid (B.out.trans (bb.mono B.out.size))
              clear bb
              go_wp2_with (go_at_call 12; refine (H2.out _).mono ?_; rintro e w3 ⟨rfl, bb⟩; refine Hid.out ?_)
              refine Lib.hid ?_
              have c0 := below_cell c0 bb
              have c1 := below_cell c1 bb
              have B := Lib.hid (B.out.trans (bb.mono B.out.size))
              clear bb
              go_wp2_with (go_at_call 8; refine (H3.out _).mono ?_; rintro e w4 ⟨rfl, bb⟩; refine Hid.out ?_)
              refine Lib.hid ?_
              have c0 := below_cell c0 bb
              have c1 := below_cell c1 bb
              have B := Lib.hid (B.out.trans (bb.mono B.out.size))
              clear bb
              obtain ⟨d0, d1⟩ := buck_new w4 (p - n) (m)
              have ba := (Below.refl w4.heap.size w4).alloc (Nat.le_refl _) (.cells #[.int .i64 (p - n), .int .i64 (m)] 24)
              have c0 := below_cell c0 ba
              have c1 := below_cell c1 ba
              have B := Lib.hid (B.out.trans (ba.mono B.out.size))
              clear ba
              go_wp2_with (go_at_call 8; refine (H4.out _).mono ?_; rintro e w5 ⟨rfl, bb⟩; refine Hid.out ?_)
              refine Lib.hid ?_
              have c0 := below_cell c0 bb
              have c1 := below_cell c1 bb
              have d0 := below_cell d0 bb
              have d1 := below_cell d1 bb
              have B := Lib.hid (B.out.trans (bb.mono B.out.size))
              clear bb
              obtain ⟨f0, f1⟩ := buck_new w5 (p - n) (m)
              have ba := (Below.refl w5.heap.size w5).alloc (Nat.le_refl _) (.cells #[.int .i64 (p - n), .int .i64 (m)] 24)
              have c0 := below_cell c0 ba
              have c1 := below_cell c1 ba
              have d0 := below_cell d0 ba
              have d1 := below_cell d1 ba
              have B := Lib.hid (B.out.trans (ba.mono B.out.size))
              clear ba
              go_wp2
              go_ret
              exact ⟨rfl, B.out⟩
            · by_cases hmt : m ≤ t
              · have H5 := Lib.hid (fun w => A.take_eq (w := w) (take_ok hn0 (free_ok HR.out (show t ≤ 1073741824 by omega) (show m ≤ t by omega)) ((HLI.out t (by omega)).2 hmt)) HH.out.1 HH.out.2.1 HH.out.2.2.1 HH.out.2.2.2.1 HH.out.2.2.2.2.2 HH.out.2.2.2.2.1)
                obtain ⟨q, hq2⟩ : ∃ q, places L m r b t = q := ⟨_, rfl⟩
                rw [hq2] at H5
                clear hq2
                go_enter Try.func6, Try.ntmps6
                go_wp2_with (go_at_call 7; refine (small_any A _).mono ?_; rintro e w1 ⟨rfl, m1⟩; refine Hid.out ?_)
                refine Lib.hid ?_
                have B := Lib.hid m1
                clear m1
                obtain ⟨c0, c1⟩ := buck_new w1 (L) (m)
                have ba := (Below.refl w1.heap.size w1).alloc (Nat.le_refl _) (.cells #[.int .i64 (L), .int .i64 (m)] 24)
                have B := Lib.hid (B.out.trans (ba.mono B.out.size))
                clear ba
                go_wp2_with (go_at_call 14; refine (H1.out _).mono ?_; rintro e w2 ⟨rfl, bb⟩; refine Hid.out ?_)
                refine Lib.hid ?_
                have c0 := below_cell c0 bb
                have c1 := below_cell c1 bb
                have B := Lib.hid (B.out.trans (bb.mono B.out.size))
                clear bb
                go_wp2_with (go_at_call 12; refine (H2.out _).mono ?_; rintro e w3 ⟨rfl, bb⟩; refine Hid.out ?_)
                refine Lib.hid ?_
                have c0 := below_cell c0 bb
                have c1 := below_cell c1 bb
                have B := Lib.hid (B.out.trans (bb.mono B.out.size))
                clear bb
                go_wp2_with (go_at_call 8; refine (H3.out _).mono ?_; rintro e w4 ⟨rfl, bb⟩; refine Hid.out ?_)
                refine Lib.hid ?_
                have c0 := below_cell c0 bb
                have c1 := below_cell c1 bb
                have B := Lib.hid (B.out.trans (bb.mono B.out.size))
                clear bb
                obtain ⟨d0, d1⟩ := buck_new w4 (p - n) (m)
                have ba := (Below.refl w4.heap.size w4).alloc (Nat.le_refl _) (.cells #[.int .i64 (p - n), .int .i64 (m)] 24)
                have c0 := below_cell c0 ba
                have c1 := below_cell c1 ba
                have B := Lib.hid (B.out.trans (ba.mono B.out.size))
                clear ba
                go_wp2_with (go_at_call 8; refine (H4.out _).mono ?_; rintro e w5 ⟨rfl, bb⟩; refine Hid.out ?_)
                refine Lib.hid ?_
                have c0 := below_cell c0 bb
                have c1 := below_cell c1 bb
                have d0 := below_cell d0 bb
                have d1 := below_cell d1 bb
                have B := Lib.hid (B.out.trans (bb.mono B.out.size))
                clear bb
                obtain ⟨f0, f1⟩ := buck_new w5 (p - n) (m)
                have ba := (Below.refl w5.heap.size w5).alloc (Nat.le_refl _) (.cells #[.int .i64 (p - n), .int .i64 (m)] 24)
                have c0 := below_cell c0 ba
                have c1 := below_cell c1 ba
                have d0 := below_cell d0 ba
                have d1 := below_cell d1 ba
                have B := Lib.hid (B.out.trans (ba.mono B.out.size))
                clear ba
                go_wp2_with (go_at_call 8; refine (H5.out _).mono ?_; rintro e w6 ⟨rfl, bb⟩; refine Hid.out ?_)
                refine Lib.hid ?_
                have c0 := below_cell c0 bb
                have c1 := below_cell c1 bb
                have d0 := below_cell d0 bb
                have d1 := below_cell d1 bb
                have f0 := below_cell f0 bb
                have f1 := below_cell f1 bb
                have B := Lib.hid (B.out.trans (bb.mono B.out.size))
                clear bb
                obtain ⟨g0, g1⟩ := buck_new w6 (q - n) (t)
                have ba := (Below.refl w6.heap.size w6).alloc (Nat.le_refl _) (.cells #[.int .i64 (q - n), .int .i64 (t)] 24)
                have c0 := below_cell c0 ba
                have c1 := below_cell c1 ba
                have d0 := below_cell d0 ba
                have d1 := below_cell d1 ba
                have f0 := below_cell f0 ba
                have f1 := below_cell f1 ba
                have B := Lib.hid (B.out.trans (ba.mono B.out.size))
                clear ba
                go_wp2
                go_ret
                exact ⟨rfl, B.out⟩
              · exact (hmt (by omega)).elim
        · have hlt : S ≤ m - 1 := by omega
          have H4 := Lib.hid (fun w => A.take_eq (w := w) (take_full hn0 (free_ok HR.out (show m - 1 ≤ 1073741824 by omega) hlt) (by have := mt (HLI.out (m - 1) hlt).1 (by omega); omega)) HH.out.1 HH.out.2.1 HH.out.2.2.1 HH.out.2.2.2.1 (show I64 (m - 1) by unfold I64; omega) HH.out.2.2.2.2.1)
          by_cases hs1 : t < S
          · go_enter Try.func6, Try.ntmps6
            go_wp2_with (go_at_call 7; refine (small_any A _).mono ?_; rintro e w1 ⟨rfl, m1⟩; refine Hid.out ?_)
            refine Lib.hid ?_
            have B := Lib.hid m1
            clear m1
            obtain ⟨c0, c1⟩ := buck_new w1 (L) (S)
            have ba := (Below.refl w1.heap.size w1).alloc (Nat.le_refl _) (.cells #[.int .i64 (L), .int .i64 (S)] 24)
            have B := Lib.hid (B.out.trans (ba.mono B.out.size))
            clear ba
            go_wp2_with (go_at_call 14; refine (H1.out _).mono ?_; rintro e w2 ⟨rfl, bb⟩; refine Hid.out ?_)
            refine Lib.hid ?_
            have c0 := below_cell c0 bb
            have c1 := below_cell c1 bb
            have B := Lib.hid (B.out.trans (bb.mono B.out.size))
            clear bb
            go_wp2_with (go_at_call 12; refine (H2.out _).mono ?_; rintro e w3 ⟨rfl, bb⟩; refine Hid.out ?_)
            refine Lib.hid ?_
            have c0 := below_cell c0 bb
            have c1 := below_cell c1 bb
            have B := Lib.hid (B.out.trans (bb.mono B.out.size))
            clear bb
            go_wp2_with (go_at_call 8; refine (H3.out _).mono ?_; rintro e w4 ⟨rfl, bb⟩; refine Hid.out ?_)
            refine Lib.hid ?_
            have c0 := below_cell c0 bb
            have c1 := below_cell c1 bb
            have B := Lib.hid (B.out.trans (bb.mono B.out.size))
            clear bb
            obtain ⟨d0, d1⟩ := buck_new w4 (p - n) (m)
            have ba := (Below.refl w4.heap.size w4).alloc (Nat.le_refl _) (.cells #[.int .i64 (p - n), .int .i64 (m)] 24)
            have c0 := below_cell c0 ba
            have c1 := below_cell c1 ba
            have B := Lib.hid (B.out.trans (ba.mono B.out.size))
            clear ba
            go_wp2_with (go_at_call 8; refine (H4.out _).mono ?_; rintro e w5 ⟨rfl, bb⟩; refine Hid.out ?_)
            refine Lib.hid ?_
            have c0 := below_cell c0 bb
            have c1 := below_cell c1 bb
            have d0 := below_cell d0 bb
            have d1 := below_cell d1 bb
            have B := Lib.hid (B.out.trans (bb.mono B.out.size))
            clear bb
            obtain ⟨f0, f1⟩ := buck_new w5 (L) (S)
            have ba := (Below.refl w5.heap.size w5).alloc (Nat.le_refl _) (.cells #[.int .i64 (L), .int .i64 (S)] 24)
            have c0 := below_cell c0 ba
            have c1 := below_cell c1 ba
            have d0 := below_cell d0 ba
            have d1 := below_cell d1 ba
            have B := Lib.hid (B.out.trans (ba.mono B.out.size))
            clear ba
            go_wp2
            go_ret
            exact ⟨rfl, B.out⟩
          · by_cases hs2 : 1073741824 < t
            · go_enter Try.func6, Try.ntmps6
              go_wp2_with (go_at_call 7; refine (small_any A _).mono ?_; rintro e w1 ⟨rfl, m1⟩; refine Hid.out ?_)
              refine Lib.hid ?_
              have B := Lib.hid m1
              clear m1
              obtain ⟨c0, c1⟩ := buck_new w1 (L) (S)
              have ba := (Below.refl w1.heap.size w1).alloc (Nat.le_refl _) (.cells #[.int .i64 (L), .int .i64 (S)] 24)
              have B := Lib.hid (B.out.trans (ba.mono B.out.size))
              clear ba
              go_wp2_with (go_at_call 14; refine (H1.out _).mono ?_; rintro e w2 ⟨rfl, bb⟩; refine Hid.out ?_)
              refine Lib.hid ?_
              have c0 := below_cell c0 bb
              have c1 := below_cell c1 bb
              have B := Lib.hid (B.out.trans (bb.mono B.out.size))
              clear bb
              go_wp2_with (go_at_call 12; refine (H2.out _).mono ?_; rintro e w3 ⟨rfl, bb⟩; refine Hid.out ?_)
              refine Lib.hid ?_
              have c0 := below_cell c0 bb
              have c1 := below_cell c1 bb
              have B := Lib.hid (B.out.trans (bb.mono B.out.size))
              clear bb
              go_wp2_with (go_at_call 8; refine (H3.out _).mono ?_; rintro e w4 ⟨rfl, bb⟩; refine Hid.out ?_)
              refine Lib.hid ?_
              have c0 := below_cell c0 bb
              have c1 := below_cell c1 bb
              have B := Lib.hid (B.out.trans (bb.mono B.out.size))
              clear bb
              obtain ⟨d0, d1⟩ := buck_new w4 (p - n) (m)
              have ba := (Below.refl w4.heap.size w4).alloc (Nat.le_refl _) (.cells #[.int .i64 (p - n), .int .i64 (m)] 24)
              have c0 := below_cell c0 ba
              have c1 := below_cell c1 ba
              have B := Lib.hid (B.out.trans (ba.mono B.out.size))
              clear ba
              go_wp2_with (go_at_call 8; refine (H4.out _).mono ?_; rintro e w5 ⟨rfl, bb⟩; refine Hid.out ?_)
              refine Lib.hid ?_
              have c0 := below_cell c0 bb
              have c1 := below_cell c1 bb
              have d0 := below_cell d0 bb
              have d1 := below_cell d1 bb
              have B := Lib.hid (B.out.trans (bb.mono B.out.size))
              clear bb
              obtain ⟨f0, f1⟩ := buck_new w5 (L) (S)
              have ba := (Below.refl w5.heap.size w5).alloc (Nat.le_refl _) (.cells #[.int .i64 (L), .int .i64 (S)] 24)
              have c0 := below_cell c0 ba
              have c1 := below_cell c1 ba
              have d0 := below_cell d0 ba
              have d1 := below_cell d1 ba
              have B := Lib.hid (B.out.trans (ba.mono B.out.size))
              clear ba
              go_wp2
              go_ret
              exact ⟨rfl, B.out⟩
            · by_cases hmt : m ≤ t
              · have H5 := Lib.hid (fun w => A.take_eq (w := w) (take_ok hn0 (free_ok HR.out (show t ≤ 1073741824 by omega) (show S ≤ t by omega)) ((HLI.out t (by omega)).2 hmt)) HH.out.1 HH.out.2.1 HH.out.2.2.1 HH.out.2.2.2.1 HH.out.2.2.2.2.2 HH.out.2.2.2.2.1)
                obtain ⟨q, hq2⟩ : ∃ q, places L S r b t = q := ⟨_, rfl⟩
                rw [hq2] at H5
                clear hq2
                go_enter Try.func6, Try.ntmps6
                go_wp2_with (go_at_call 7; refine (small_any A _).mono ?_; rintro e w1 ⟨rfl, m1⟩; refine Hid.out ?_)
                refine Lib.hid ?_
                have B := Lib.hid m1
                clear m1
                obtain ⟨c0, c1⟩ := buck_new w1 (L) (S)
                have ba := (Below.refl w1.heap.size w1).alloc (Nat.le_refl _) (.cells #[.int .i64 (L), .int .i64 (S)] 24)
                have B := Lib.hid (B.out.trans (ba.mono B.out.size))
                clear ba
                go_wp2_with (go_at_call 14; refine (H1.out _).mono ?_; rintro e w2 ⟨rfl, bb⟩; refine Hid.out ?_)
                refine Lib.hid ?_
                have c0 := below_cell c0 bb
                have c1 := below_cell c1 bb
                have B := Lib.hid (B.out.trans (bb.mono B.out.size))
                clear bb
                go_wp2_with (go_at_call 12; refine (H2.out _).mono ?_; rintro e w3 ⟨rfl, bb⟩; refine Hid.out ?_)
                refine Lib.hid ?_
                have c0 := below_cell c0 bb
                have c1 := below_cell c1 bb
                have B := Lib.hid (B.out.trans (bb.mono B.out.size))
                clear bb
                go_wp2_with (go_at_call 8; refine (H3.out _).mono ?_; rintro e w4 ⟨rfl, bb⟩; refine Hid.out ?_)
                refine Lib.hid ?_
                have c0 := below_cell c0 bb
                have c1 := below_cell c1 bb
                have B := Lib.hid (B.out.trans (bb.mono B.out.size))
                clear bb
                obtain ⟨d0, d1⟩ := buck_new w4 (p - n) (m)
                have ba := (Below.refl w4.heap.size w4).alloc (Nat.le_refl _) (.cells #[.int .i64 (p - n), .int .i64 (m)] 24)
                have c0 := below_cell c0 ba
                have c1 := below_cell c1 ba
                have B := Lib.hid (B.out.trans (ba.mono B.out.size))
                clear ba
                go_wp2_with (go_at_call 8; refine (H4.out _).mono ?_; rintro e w5 ⟨rfl, bb⟩; refine Hid.out ?_)
                refine Lib.hid ?_
                have c0 := below_cell c0 bb
                have c1 := below_cell c1 bb
                have d0 := below_cell d0 bb
                have d1 := below_cell d1 bb
                have B := Lib.hid (B.out.trans (bb.mono B.out.size))
                clear bb
                obtain ⟨f0, f1⟩ := buck_new w5 (L) (S)
                have ba := (Below.refl w5.heap.size w5).alloc (Nat.le_refl _) (.cells #[.int .i64 (L), .int .i64 (S)] 24)
                have c0 := below_cell c0 ba
                have c1 := below_cell c1 ba
                have d0 := below_cell d0 ba
                have d1 := below_cell d1 ba
                have B := Lib.hid (B.out.trans (ba.mono B.out.size))
                clear ba
                go_wp2_with (go_at_call 8; refine (H5.out _).mono ?_; rintro e w6 ⟨rfl, bb⟩; refine Hid.out ?_)
                refine Lib.hid ?_
                have c0 := below_cell c0 bb
                have c1 := below_cell c1 bb
                have d0 := below_cell d0 bb
                have d1 := below_cell d1 bb
                have f0 := below_cell f0 bb
                have f1 := below_cell f1 bb
                have B := Lib.hid (B.out.trans (bb.mono B.out.size))
                clear bb
                obtain ⟨g0, g1⟩ := buck_new w6 (q - n) (t)
                have ba := (Below.refl w6.heap.size w6).alloc (Nat.le_refl _) (.cells #[.int .i64 (q - n), .int .i64 (t)] 24)
                have c0 := below_cell c0 ba
                have c1 := below_cell c1 ba
                have d0 := below_cell d0 ba
                have d1 := below_cell d1 ba
                have f0 := below_cell f0 ba
                have f1 := below_cell f1 ba
                have B := Lib.hid (B.out.trans (ba.mono B.out.size))
                clear ba
                go_wp2
                go_ret
                exact ⟨rfl, B.out⟩
              · have H5 := Lib.hid (fun w => A.take_eq (w := w) (take_full hn0 (free_ok HR.out (show t ≤ 1073741824 by omega) (show S ≤ t by omega)) (by have := mt (HLI.out t (by omega)).1 hmt; omega)) HH.out.1 HH.out.2.1 HH.out.2.2.1 HH.out.2.2.2.1 HH.out.2.2.2.2.2 HH.out.2.2.2.2.1)
                have hmt2 : decide (m ≤ t) = false := decide_eq_false hmt
                go_enter Try.func6, Try.ntmps6
                go_wp2_with (go_at_call 7; refine (small_any A _).mono ?_; rintro e w1 ⟨rfl, m1⟩; refine Hid.out ?_)
                refine Lib.hid ?_
                have B := Lib.hid m1
                clear m1
                obtain ⟨c0, c1⟩ := buck_new w1 (L) (S)
                have ba := (Below.refl w1.heap.size w1).alloc (Nat.le_refl _) (.cells #[.int .i64 (L), .int .i64 (S)] 24)
                have B := Lib.hid (B.out.trans (ba.mono B.out.size))
                clear ba
                go_wp2_with (go_at_call 14; refine (H1.out _).mono ?_; rintro e w2 ⟨rfl, bb⟩; refine Hid.out ?_)
                refine Lib.hid ?_
                have c0 := below_cell c0 bb
                have c1 := below_cell c1 bb
                have B := Lib.hid (B.out.trans (bb.mono B.out.size))
                clear bb
                go_wp2_with (go_at_call 12; refine (H2.out _).mono ?_; rintro e w3 ⟨rfl, bb⟩; refine Hid.out ?_)
                refine Lib.hid ?_
                have c0 := below_cell c0 bb
                have c1 := below_cell c1 bb
                have B := Lib.hid (B.out.trans (bb.mono B.out.size))
                clear bb
                go_wp2_with (go_at_call 8; refine (H3.out _).mono ?_; rintro e w4 ⟨rfl, bb⟩; refine Hid.out ?_)
                refine Lib.hid ?_
                have c0 := below_cell c0 bb
                have c1 := below_cell c1 bb
                have B := Lib.hid (B.out.trans (bb.mono B.out.size))
                clear bb
                obtain ⟨d0, d1⟩ := buck_new w4 (p - n) (m)
                have ba := (Below.refl w4.heap.size w4).alloc (Nat.le_refl _) (.cells #[.int .i64 (p - n), .int .i64 (m)] 24)
                have c0 := below_cell c0 ba
                have c1 := below_cell c1 ba
                have B := Lib.hid (B.out.trans (ba.mono B.out.size))
                clear ba
                go_wp2_with (go_at_call 8; refine (H4.out _).mono ?_; rintro e w5 ⟨rfl, bb⟩; refine Hid.out ?_)
                refine Lib.hid ?_
                have c0 := below_cell c0 bb
                have c1 := below_cell c1 bb
                have d0 := below_cell d0 bb
                have d1 := below_cell d1 bb
                have B := Lib.hid (B.out.trans (bb.mono B.out.size))
                clear bb
                obtain ⟨f0, f1⟩ := buck_new w5 (L) (S)
                have ba := (Below.refl w5.heap.size w5).alloc (Nat.le_refl _) (.cells #[.int .i64 (L), .int .i64 (S)] 24)
                have c0 := below_cell c0 ba
                have c1 := below_cell c1 ba
                have d0 := below_cell d0 ba
                have d1 := below_cell d1 ba
                have B := Lib.hid (B.out.trans (ba.mono B.out.size))
                clear ba
                go_wp2_with (go_at_call 8; refine (H5.out _).mono ?_; rintro e w6 ⟨rfl, bb⟩; refine Hid.out ?_)
                refine Lib.hid ?_
                have c0 := below_cell c0 bb
                have c1 := below_cell c1 bb
                have d0 := below_cell d0 bb
                have d1 := below_cell d1 bb
                have f0 := below_cell f0 bb
                have f1 := below_cell f1 bb
                have B := Lib.hid (B.out.trans (bb.mono B.out.size))
                clear bb
                obtain ⟨g0, g1⟩ := buck_new w6 (L) (S)
                have ba := (Below.refl w6.heap.size w6).alloc (Nat.le_refl _) (.cells #[.int .i64 (L), .int .i64 (S)] 24)
                have c0 := below_cell c0 ba
                have c1 := below_cell c1 ba
                have d0 := below_cell d0 ba
                have d1 := below_cell d1 ba
                have f0 := below_cell f0 ba
                have f1 := below_cell f1 ba
                have B := Lib.hid (B.out.trans (ba.mono B.out.size))
                clear ba
                go_wp2
                go_ret
                exact ⟨rfl, B.out⟩
end Go.Proofs.Ytmlogoaicjdjiaa
