/- The walk of RateParts. -/
import Derived.Test.YtmlogoaicjdjiaaRNext
namespace Go.Proofs.Ytmlogoaicjdjiaa
open Go.RowKit Go.Maps Go.ChangeMaps Go.MapKept
open Rt
attribute [local go_sem ↓] Go.wp_at_zero Go.wp_at_succ
theorem right_after {L S r b t n : Int} (h : right L S r b = true) (hs : S ≤ t) (ht : t ≤ 1073741824) (h0 : 0 ≤ n) (hn : n ≤ places L S r b t) : right (places L S r b t - n) t r b = true := by
  have h1 := right_iff.1 h
  have h2 := places_in h hs
  exact right_iff.2 (by omega)
theorem right_mid {L S r b t : Int} (h : right L S r b = true) (hs : S ≤ t) (ht : t ≤ 1073741824) : right (places L S r b t) t r b = true := by
  have := right_after h hs ht (Int.le_refl 0) (by have := places_in h hs; have := right_iff.1 h; omega)
  rwa [Int.sub_zero] at this
theorem places_mid {L S r b m t : Int} (h : right L S r b = true) (ht : m ≤ t) : places (places L S r b m) m r b t = places L S r b t := by
  have h1 := right_iff.1 h
  have p1 : 0 ≤ (t - m) * r := mul_nn (by omega) (by omega)
  have e : (t - S) * r = (t - m) * r + (m - S) * r := by grind
  unfold places
  rw [e]
  generalize (t - m) * r = x at p1
  generalize (m - S) * r = y
  unfold mn
  split <;> split <;> split <;> omega
theorem places_same {L S r b : Int} (h : right L S r b = true) : places L S r b S = L := by
  have h1 := right_iff.1 h
  unfold places mn
  rw [Int.sub_self, Int.zero_mul, Int.add_zero, if_pos h1.2.1.2]
theorem places_mono {L S r b t u : Int} (h : right L S r b = true) (hs : S ≤ t) (ht : t ≤ u) : places L S r b t ≤ places L S r b u := by
  rw [← places_mid h ht]
  have h1 := right_iff.1 h
  have h2 := places_in h hs
  have p1 : 0 ≤ (u - t) * r := mul_nn (by omega) (by omega)
  unfold places mn at *
  generalize (u - t) * r = x at *
  generalize (t - S) * r = y at *
  split <;> split <;> omega
set_option maxHeartbeats 8000000 in
set_option maxRecDepth 100000 in
theorem parts_walk (A : RApi) {w : World} {L r b s t n k : Int} (hL : I64 L) (hr : I64 r) (hb : I64 b) (hs : 0 ≤ s ∧ s ≤ 65535) (ht : 0 ≤ t ∧ t ≤ 65535) (hn : I64 n) (hk : I64 k) :
    Calls Try.prog 5 #[.int .i64 L, .int .i64 r, .int .i64 b, .int .u16 s, .int .u16 t, .int .i64 n, .int .i64 k] w fun e w' => e = .returned (.bool true) ∧ Below w.heap.size w w' := by
  have h0 : I64 0 := by unfold I64; omega
  have HH := Lib.hid (And.intro hL (And.intro h0 (And.intro hr (And.intro hb (And.intro hn hk)))))
  clear hL hr hb hn hk h0
  cases hrt : right L 0 r b with
  | false =>
    have H1 := Lib.hid (fun w => A.right_eq (w := w) hrt HH.out.1 HH.out.2.1 HH.out.2.2.1 HH.out.2.2.2.1)
    clear hrt
    go_enter Try.func5, Try.ntmps5
    go_wp2_with (go_at_call 7; refine (small_any A _).mono ?_; rintro e w1 ⟨rfl, m1⟩; refine Hid.out ?_)
    refine Lib.hid ?_
    have B := Lib.hid m1
    clear m1
    obtain ⟨c0, c1⟩ := buck_new w1 (L) (0)
    have ba := (Below.refl w1.heap.size w1).alloc (Nat.le_refl _) (.cells #[.int .i64 (L), .int .i64 (0)] 24)
    have B := Lib.hid (B.out.trans (ba.mono B.out.size))
    clear ba
    go_wp2_with (go_at_call 14; refine (H1.out _).mono ?_; rintro e w2 ⟨rfl, bb⟩; refine Hid.out ?_)
    refine Lib.hid ?_
    have c0 := below_cell c0 bb
    have c1 := below_cell c1 bb
    have B := Lib.hid (B.out.trans (bb.mono B.out.size))
    clear bb
    go_wp2
    go_ret
    exact ⟨rfl, B.out⟩
  | true =>
    have H1 := Lib.hid (fun w => A.right_eq (w := w) hrt HH.out.1 HH.out.2.1 HH.out.2.2.1 HH.out.2.2.2.1)
    have HR := Lib.hid hrt
    have HST := Lib.hid (And.intro hs ht)
    have his : I64 s := by unfold I64; omega
    have hit : I64 (s + t) := by unfold I64; omega
    have hiu : I64 (s + t + t) := by unfold I64; omega
    have f1 := free_ok hrt (show s ≤ 1073741824 by omega) hs.1
    have f2 := free_ok hrt (show s + t ≤ 1073741824 by omega) (by omega)
    have f3 := free_ok (right_mid hrt hs.1 (by omega)) (show s + t ≤ 1073741824 by omega) (show s ≤ s + t by omega)
    have f4 := free_ok hrt (show s + t + t ≤ 1073741824 by omega) (by omega)
    rw [places_mid hrt (by omega)] at f3
    have q1 := places_in hrt hs.1
    have q2 := places_mono hrt (show 0 ≤ s + t by omega) (show s + t ≤ s + t + t by omega)
    have q3 := places_in hrt (show 0 ≤ s + t by omega)
    have r2 := fun n h0 hn => right_after (n := n) hrt (show 0 ≤ s + t by omega) (by omega) h0 hn
    obtain ⟨q, hq⟩ : ∃ q, places L 0 r b s = q := ⟨_, rfl⟩
    obtain ⟨p, hp⟩ : ∃ p, places L 0 r b (s + t) = p := ⟨_, rfl⟩
    obtain ⟨o, ho⟩ : ∃ o, places L 0 r b (s + t + t) = o := ⟨_, rfl⟩
    rw [hq] at f1 f3 q1
    rw [hp] at f2 f3 q2 q3 r2
    rw [ho] at f4 q2
    have hin := right_iff.1 hrt
    have hiq : I64 q := by unfold I64; omega
    have H2 := Lib.hid (fun w => A.take_eq (w := w) (show take L 0 r b s 0 = ((q, s), 0) by have := take_ok (n := 0) (by omega) f1 (by omega); rwa [Int.sub_zero] at this) HH.out.1 HH.out.2.1 HH.out.2.2.1 HH.out.2.2.2.1 his HH.out.2.1)
    have HHR := HH.out.2.2.1
    have HHB := HH.out.2.2.2.1
    have HHN := HH.out.2.2.2.2.1
    by_cases hn0 : n < 0
    · have H3 := Lib.hid (fun w => A.take_eq (w := w) (take_neg (L := L) (S := 0) (r := r) (b := b) (t := s + t) hn0) HH.out.1 HH.out.2.1 HHR HHB hit HHN)
      have H4 := Lib.hid (fun w => A.take_eq (w := w) (take_neg (L := q) (S := s) (r := r) (b := b) (t := s + t) hn0) hiq his HHR HHB hit HHN)
      clear f1 f2 f3 f4 q1 q2 q3 r2 hq hp ho hin hrt his hit hiu hiq HHR HHB HHN
      go_enter Try.func5, Try.ntmps5
      go_wp2_with (go_at_call 7; refine (small_any A _).mono ?_; rintro e w1 ⟨rfl, m1⟩; refine Hid.out ?_)
      refine Lib.hid ?_
      have B := Lib.hid m1
      clear m1
      obtain ⟨c0, c1⟩ := buck_new w1 (L) (0)
      have ba := (Below.refl w1.heap.size w1).alloc (Nat.le_refl _) (.cells #[.int .i64 (L), .int .i64 (0)] 24)
      have B := Lib.hid (B.out.trans (ba.mono B.out.size))
      clear ba
      go_wp2_with (go_at_call 14; refine (H1.out _).mono ?_; rintro e w2 ⟨rfl, bb⟩; refine Hid.out ?_)
      refine Lib.hid ?_
      have c0 := below_cell c0 bb
      have c1 := below_cell c1 bb
      have B := Lib.hid (B.out.trans (bb.mono B.out.size))
      clear bb
      go_wp2_with (go_at_call 8; refine (H2.out _).mono ?_; rintro e w3 ⟨rfl, bb⟩; refine Hid.out ?_)
      refine Lib.hid ?_
      have c0 := below_cell c0 bb
      have c1 := below_cell c1 bb
      have B := Lib.hid (B.out.trans (bb.mono B.out.size))
      clear bb
      obtain ⟨d0, d1⟩ := buck_new w3 (q) (s)
      have ba := (Below.refl w3.heap.size w3).alloc (Nat.le_refl _) (.cells #[.int .i64 (q), .int .i64 (s)] 24)
      have c0 := below_cell c0 ba
      have c1 := below_cell c1 ba
      have B := Lib.hid (B.out.trans (ba.mono B.out.size))
      clear ba
      go_wp2_with (go_at_call 8; refine (H3.out _).mono ?_; rintro e w4 ⟨rfl, bb⟩; refine Hid.out ?_)
      refine Lib.hid ?_
      have c0 := below_cell c0 bb
      have c1 := below_cell c1 bb
      have d0 := below_cell d0 bb
      have d1 := below_cell d1 bb
      have B := Lib.hid (B.out.trans (bb.mono B.out.size))
      clear bb
      obtain ⟨f0, f1⟩ := buck_new w4 (L) (0)
      have ba := (Below.refl w4.heap.size w4).alloc (Nat.le_refl _) (.cells #[.int .i64 (L), .int .i64 (0)] 24)
      have c0 := below_cell c0 ba
      have c1 := below_cell c1 ba
      have d0 := below_cell d0 ba
      have d1 := below_cell d1 ba
      have B := Lib.hid (B.out.trans (ba.mono B.out.size))
      clear ba
      go_wp2_with (go_at_call 8; refine (H4.out _).mono ?_; rintro e w5 ⟨rfl, bb⟩; refine Hid.out ?_)
      refine Lib.hid ?_
      have c0 := below_cell c0 bb
      have c1 := below_cell c1 bb
      have d0 := below_cell d0 bb
      have d1 := below_cell d1 bb
      have f0 := below_cell f0 bb
      have f1 := below_cell f1 bb
      have B := Lib.hid (B.out.trans (bb.mono B.out.size))
      clear bb
      obtain ⟨g0, g1⟩ := buck_new w5 (q) (s)
      have ba := (Below.refl w5.heap.size w5).alloc (Nat.le_refl _) (.cells #[.int .i64 (q), .int .i64 (s)] 24)
      have c0 := below_cell c0 ba
      have c1 := below_cell c1 ba
      have d0 := below_cell d0 ba
      have d1 := below_cell d1 ba
      have f0 := below_cell f0 ba
      have f1 := below_cell f1 ba
      have B := Lib.hid (B.out.trans (ba.mono B.out.size))
      clear ba
      go_wp2
      go_ret
      exact ⟨rfl, B.out⟩
    · by_cases hnp : p < n
      · have H3 := Lib.hid (fun w => A.take_eq (w := w) (take_full hn0 f2 hnp) HH.out.1 HH.out.2.1 HHR HHB hit HHN)
        have H4 := Lib.hid (fun w => A.take_eq (w := w) (take_full hn0 f3 hnp) hiq his HHR HHB hit HHN)
        clear f1 f2 f3 f4 q1 q2 q3 r2 hq hp ho hin hrt his hit hiu hiq HHR HHB HHN
        go_enter Try.func5, Try.ntmps5
        go_wp2_with (go_at_call 7; refine (small_any A _).mono ?_; rintro e w1 ⟨rfl, m1⟩; refine Hid.out ?_)
        refine Lib.hid ?_
        have B := Lib.hid m1
        clear m1
        obtain ⟨c0, c1⟩ := buck_new w1 (L) (0)
        have ba := (Below.refl w1.heap.size w1).alloc (Nat.le_refl _) (.cells #[.int .i64 (L), .int .i64 (0)] 24)
        have B := Lib.hid (B.out.trans (ba.mono B.out.size))
        clear ba
        go_wp2_with (go_at_call 14; refine (H1.out _).mono ?_; rintro e w2 ⟨rfl, bb⟩; refine Hid.out ?_)
        refine Lib.hid ?_
        have c0 := below_cell c0 bb
        have c1 := below_cell c1 bb
        have B := Lib.hid (B.out.trans (bb.mono B.out.size))
        clear bb
        go_wp2_with (go_at_call 8; refine (H2.out _).mono ?_; rintro e w3 ⟨rfl, bb⟩; refine Hid.out ?_)
        refine Lib.hid ?_
        have c0 := below_cell c0 bb
        have c1 := below_cell c1 bb
        have B := Lib.hid (B.out.trans (bb.mono B.out.size))
        clear bb
        obtain ⟨d0, d1⟩ := buck_new w3 (q) (s)
        have ba := (Below.refl w3.heap.size w3).alloc (Nat.le_refl _) (.cells #[.int .i64 (q), .int .i64 (s)] 24)
        have c0 := below_cell c0 ba
        have c1 := below_cell c1 ba
        have B := Lib.hid (B.out.trans (ba.mono B.out.size))
        clear ba
        go_wp2_with (go_at_call 8; refine (H3.out _).mono ?_; rintro e w4 ⟨rfl, bb⟩; refine Hid.out ?_)
        refine Lib.hid ?_
        have c0 := below_cell c0 bb
        have c1 := below_cell c1 bb
        have d0 := below_cell d0 bb
        have d1 := below_cell d1 bb
        have B := Lib.hid (B.out.trans (bb.mono B.out.size))
        clear bb
        obtain ⟨f0, f1⟩ := buck_new w4 (L) (0)
        have ba := (Below.refl w4.heap.size w4).alloc (Nat.le_refl _) (.cells #[.int .i64 (L), .int .i64 (0)] 24)
        have c0 := below_cell c0 ba
        have c1 := below_cell c1 ba
        have d0 := below_cell d0 ba
        have d1 := below_cell d1 ba
        have B := Lib.hid (B.out.trans (ba.mono B.out.size))
        clear ba
        go_wp2_with (go_at_call 8; refine (H4.out _).mono ?_; rintro e w5 ⟨rfl, bb⟩; refine Hid.out ?_)
        refine Lib.hid ?_
        have c0 := below_cell c0 bb
        have c1 := below_cell c1 bb
        have d0 := below_cell d0 bb
        have d1 := below_cell d1 bb
        have f0 := below_cell f0 bb
        have f1 := below_cell f1 bb
        have B := Lib.hid (B.out.trans (bb.mono B.out.size))
        clear bb
        obtain ⟨g0, g1⟩ := buck_new w5 (q) (s)
        have ba := (Below.refl w5.heap.size w5).alloc (Nat.le_refl _) (.cells #[.int .i64 (q), .int .i64 (s)] 24)
        have c0 := below_cell c0 ba
        have c1 := below_cell c1 ba
        have d0 := below_cell d0 ba
        have d1 := below_cell d1 ba
        have f0 := below_cell f0 ba
        have f1 := below_cell f1 ba
        have B := Lib.hid (B.out.trans (ba.mono B.out.size))
        clear ba
        go_wp2
        go_ret
        exact ⟨rfl, B.out⟩
      · have H3 := Lib.hid (fun w => A.take_eq (w := w) (take_ok hn0 f2 (by omega)) HH.out.1 HH.out.2.1 HHR HHB hit HHN)
        have H4 := Lib.hid (fun w => A.take_eq (w := w) (take_ok hn0 f3 (by omega)) hiq his HHR HHB hit HHN)
        by_cases hk0 : k < 0
        · clear f1 f2 f3 f4 q1 q2 q3 r2 hq hp ho hin hrt his hit hiu hiq HHR HHB HHN
          go_enter Try.func5, Try.ntmps5
          go_wp2_with (go_at_call 7; refine (small_any A _).mono ?_; rintro e w1 ⟨rfl, m1⟩; refine Hid.out ?_)
          refine Lib.hid ?_
          have B := Lib.hid m1
          clear m1
          obtain ⟨c0, c1⟩ := buck_new w1 (L) (0)
          have ba := (Below.refl w1.heap.size w1).alloc (Nat.le_refl _) (.cells #[.int .i64 (L), .int .i64 (0)] 24)
          have B := Lib.hid (B.out.trans (ba.mono B.out.size))
          clear ba
          go_wp2_with (go_at_call 14; refine (H1.out _).mono ?_; rintro e w2 ⟨rfl, bb⟩; refine Hid.out ?_)
          refine Lib.hid ?_
          have c0 := below_cell c0 bb
          have c1 := below_cell c1 bb
          have B := Lib.hid (B.out.trans (bb.mono B.out.size))
          clear bb
          go_wp2_with (go_at_call 8; refine (H2.out _).mono ?_; rintro e w3 ⟨rfl, bb⟩; refine Hid.out ?_)
          refine Lib.hid ?_
          have c0 := below_cell c0 bb
          have c1 := below_cell c1 bb
          have B := Lib.hid (B.out.trans (bb.mono B.out.size))
          clear bb
          obtain ⟨d0, d1⟩ := buck_new w3 (q) (s)
          have ba := (Below.refl w3.heap.size w3).alloc (Nat.le_refl _) (.cells #[.int .i64 (q), .int .i64 (s)] 24)
          have c0 := below_cell c0 ba
          have c1 := below_cell c1 ba
          have B := Lib.hid (B.out.trans (ba.mono B.out.size))
          clear ba
          go_wp2_with (go_at_call 8; refine (H3.out _).mono ?_; rintro e w4 ⟨rfl, bb⟩; refine Hid.out ?_)
          refine Lib.hid ?_
          have c0 := below_cell c0 bb
          have c1 := below_cell c1 bb
          have d0 := below_cell d0 bb
          have d1 := below_cell d1 bb
          have B := Lib.hid (B.out.trans (bb.mono B.out.size))
          clear bb
          obtain ⟨f0, f1⟩ := buck_new w4 (p - n) (s + t)
          have ba := (Below.refl w4.heap.size w4).alloc (Nat.le_refl _) (.cells #[.int .i64 (p - n), .int .i64 (s + t)] 24)
          have c0 := below_cell c0 ba
          have c1 := below_cell c1 ba
          have d0 := below_cell d0 ba
          have d1 := below_cell d1 ba
          have B := Lib.hid (B.out.trans (ba.mono B.out.size))
          clear ba
          go_wp2_with (go_at_call 8; refine (H4.out _).mono ?_; rintro e w5 ⟨rfl, bb⟩; refine Hid.out ?_)
          refine Lib.hid ?_
          have c0 := below_cell c0 bb
          have c1 := below_cell c1 bb
          have d0 := below_cell d0 bb
          have d1 := below_cell d1 bb
          have f0 := below_cell f0 bb
          have f1 := below_cell f1 bb
          have B := Lib.hid (B.out.trans (bb.mono B.out.size))
          clear bb
          obtain ⟨g0, g1⟩ := buck_new w5 (p - n) (s + t)
          have ba := (Below.refl w5.heap.size w5).alloc (Nat.le_refl _) (.cells #[.int .i64 (p - n), .int .i64 (s + t)] 24)
          have c0 := below_cell c0 ba
          have c1 := below_cell c1 ba
          have d0 := below_cell d0 ba
          have d1 := below_cell d1 ba
          have f0 := below_cell f0 ba
          have f1 := below_cell f1 ba
          have B := Lib.hid (B.out.trans (ba.mono B.out.size))
          clear ba
          go_wp2
          go_ret
          exact ⟨rfl, B.out⟩
        · by_cases hkn : n < k
          · clear f1 f2 f3 f4 q1 q2 q3 r2 hq hp ho hin hrt his hit hiu hiq HHR HHB HHN
            go_enter Try.func5, Try.ntmps5
            go_wp2_with (go_at_call 7; refine (small_any A _).mono ?_; rintro e w1 ⟨rfl, m1⟩; refine Hid.out ?_)
            refine Lib.hid ?_
            have B := Lib.hid m1
            clear m1
            obtain ⟨c0, c1⟩ := buck_new w1 (L) (0)
            have ba := (Below.refl w1.heap.size w1).alloc (Nat.le_refl _) (.cells #[.int .i64 (L), .int .i64 (0)] 24)
            have B := Lib.hid (B.out.trans (ba.mono B.out.size))
            clear ba
            go_wp2_with (go_at_call 14; refine (H1.out _).mono ?_; rintro e w2 ⟨rfl, bb⟩; refine Hid.out ?_)
            refine Lib.hid ?_
            have c0 := below_cell c0 bb
            have c1 := below_cell c1 bb
            have B := Lib.hid (B.out.trans (bb.mono B.out.size))
            clear bb
            go_wp2_with (go_at_call 8; refine (H2.out _).mono ?_; rintro e w3 ⟨rfl, bb⟩; refine Hid.out ?_)
            refine Lib.hid ?_
            have c0 := below_cell c0 bb
            have c1 := below_cell c1 bb
            have B := Lib.hid (B.out.trans (bb.mono B.out.size))
            clear bb
            obtain ⟨d0, d1⟩ := buck_new w3 (q) (s)
            have ba := (Below.refl w3.heap.size w3).alloc (Nat.le_refl _) (.cells #[.int .i64 (q), .int .i64 (s)] 24)
            have c0 := below_cell c0 ba
            have c1 := below_cell c1 ba
            have B := Lib.hid (B.out.trans (ba.mono B.out.size))
            clear ba
            go_wp2_with (go_at_call 8; refine (H3.out _).mono ?_; rintro e w4 ⟨rfl, bb⟩; refine Hid.out ?_)
            refine Lib.hid ?_
            have c0 := below_cell c0 bb
            have c1 := below_cell c1 bb
            have d0 := below_cell d0 bb
            have d1 := below_cell d1 bb
            have B := Lib.hid (B.out.trans (bb.mono B.out.size))
            clear bb
            obtain ⟨f0, f1⟩ := buck_new w4 (p - n) (s + t)
            have ba := (Below.refl w4.heap.size w4).alloc (Nat.le_refl _) (.cells #[.int .i64 (p - n), .int .i64 (s + t)] 24)
            have c0 := below_cell c0 ba
            have c1 := below_cell c1 ba
            have d0 := below_cell d0 ba
            have d1 := below_cell d1 ba
            have B := Lib.hid (B.out.trans (ba.mono B.out.size))
            clear ba
            go_wp2_with (go_at_call 8; refine (H4.out _).mono ?_; rintro e w5 ⟨rfl, bb⟩; refine Hid.out ?_)
            refine Lib.hid ?_
            have c0 := below_cell c0 bb
            have c1 := below_cell c1 bb
            have d0 := below_cell d0 bb
            have d1 := below_cell d1 bb
            have f0 := below_cell f0 bb
            have f1 := below_cell f1 bb
            have B := Lib.hid (B.out.trans (bb.mono B.out.size))
            clear bb
            obtain ⟨g0, g1⟩ := buck_new w5 (p - n) (s + t)
            have ba := (Below.refl w5.heap.size w5).alloc (Nat.le_refl _) (.cells #[.int .i64 (p - n), .int .i64 (s + t)] 24)
            have c0 := below_cell c0 ba
            have c1 := below_cell c1 ba
            have d0 := below_cell d0 ba
            have d1 := below_cell d1 ba
            have f0 := below_cell f0 ba
            have f1 := below_cell f1 ba
            have B := Lib.hid (B.out.trans (ba.mono B.out.size))
            clear ba
            go_wp2
            go_ret
            exact ⟨rfl, B.out⟩
          · have HHK := HH.out.2.2.2.2.2
            have hpk : right (p - k) (s + t) r b = true := r2 k (by omega) (by omega)
            have f5 := free_ok hpk (show s + t ≤ 1073741824 by omega) (Int.le_refl _)
            rw [places_same hpk] at f5
            have H5 := Lib.hid (fun w => A.take_eq (w := w) (take_ok hk0 f2 (show k ≤ p by omega)) HH.out.1 HH.out.2.1 HHR HHB hit HHK)
            have H6 := Lib.hid (fun w => A.take_eq (w := w) (show take (p - k) (s + t) r b (s + t) (n - k) = ((p - n, s + t), 0) by
              rw [take_ok (show ¬ n - k < 0 by omega) f5 (by omega)]; congr 2; omega) (show I64 (p - k) by unfold I64; omega) hit HHR HHB hit (show I64 (n - k) by unfold I64; omega))
            have H7 := Lib.hid (fun w => A.take_eq (w := w) (take_ok hn0 f4 (by omega)) HH.out.1 HH.out.2.1 HHR HHB hiu HHN)
            have hnk : 0 ≤ n - k ∧ n - k ≤ 1099511627776 := by omega
            clear f1 f2 f3 f4 f5 q1 q2 q3 r2 hq hp ho hin hrt his hit hiu hiq HHR HHB HHN HHK hpk
            go_enter Try.func5, Try.ntmps5
            go_wp2_with (go_at_call 7; refine (small_any A _).mono ?_; rintro e w1 ⟨rfl, m1⟩; refine Hid.out ?_)
            refine Lib.hid ?_
            have B := Lib.hid m1
            clear m1
            obtain ⟨c0, c1⟩ := buck_new w1 (L) (0)
            have ba := (Below.refl w1.heap.size w1).alloc (Nat.le_refl _) (.cells #[.int .i64 (L), .int .i64 (0)] 24)
            have B := Lib.hid (B.out.trans (ba.mono B.out.size))
            clear ba
            go_wp2_with (go_at_call 14; refine (H1.out _).mono ?_; rintro e w2 ⟨rfl, bb⟩; refine Hid.out ?_)
            refine Lib.hid ?_
            have c0 := below_cell c0 bb
            have c1 := below_cell c1 bb
            have B := Lib.hid (B.out.trans (bb.mono B.out.size))
            clear bb
            go_wp2_with (go_at_call 8; refine (H2.out _).mono ?_; rintro e w3 ⟨rfl, bb⟩; refine Hid.out ?_)
            refine Lib.hid ?_
            have c0 := below_cell c0 bb
            have c1 := below_cell c1 bb
            have B := Lib.hid (B.out.trans (bb.mono B.out.size))
            clear bb
            obtain ⟨d0, d1⟩ := buck_new w3 (q) (s)
            have ba := (Below.refl w3.heap.size w3).alloc (Nat.le_refl _) (.cells #[.int .i64 (q), .int .i64 (s)] 24)
            have c0 := below_cell c0 ba
            have c1 := below_cell c1 ba
            have B := Lib.hid (B.out.trans (ba.mono B.out.size))
            clear ba
            go_wp2_with (go_at_call 8; refine (H3.out _).mono ?_; rintro e w4 ⟨rfl, bb⟩; refine Hid.out ?_)
            refine Lib.hid ?_
            have c0 := below_cell c0 bb
            have c1 := below_cell c1 bb
            have d0 := below_cell d0 bb
            have d1 := below_cell d1 bb
            have B := Lib.hid (B.out.trans (bb.mono B.out.size))
            clear bb
            obtain ⟨f0, f1⟩ := buck_new w4 (p - n) (s + t)
            have ba := (Below.refl w4.heap.size w4).alloc (Nat.le_refl _) (.cells #[.int .i64 (p - n), .int .i64 (s + t)] 24)
            have c0 := below_cell c0 ba
            have c1 := below_cell c1 ba
            have d0 := below_cell d0 ba
            have d1 := below_cell d1 ba
            have B := Lib.hid (B.out.trans (ba.mono B.out.size))
            clear ba
            go_wp2_with (go_at_call 8; refine (H4.out _).mono ?_; rintro e w5 ⟨rfl, bb⟩; refine Hid.out ?_)
            refine Lib.hid ?_
            have c0 := below_cell c0 bb
            have c1 := below_cell c1 bb
            have d0 := below_cell d0 bb
            have d1 := below_cell d1 bb
            have f0 := below_cell f0 bb
            have f1 := below_cell f1 bb
            have B := Lib.hid (B.out.trans (bb.mono B.out.size))
            clear bb
            obtain ⟨g0, g1⟩ := buck_new w5 (p - n) (s + t)
            have ba := (Below.refl w5.heap.size w5).alloc (Nat.le_refl _) (.cells #[.int .i64 (p - n), .int .i64 (s + t)] 24)
            have c0 := below_cell c0 ba
            have c1 := below_cell c1 ba
            have d0 := below_cell d0 ba
            have d1 := below_cell d1 ba
            have f0 := below_cell f0 ba
            have f1 := below_cell f1 ba
            have B := Lib.hid (B.out.trans (ba.mono B.out.size))
            clear ba
            go_wp2_with (go_at_call 8; refine (H5.out _).mono ?_; rintro e w6 ⟨rfl, bb⟩; refine Hid.out ?_)
            refine Lib.hid ?_
            have c0 := below_cell c0 bb
            have c1 := below_cell c1 bb
            have d0 := below_cell d0 bb
            have d1 := below_cell d1 bb
            have f0 := below_cell f0 bb
            have f1 := below_cell f1 bb
            have g0 := below_cell g0 bb
            have g1 := below_cell g1 bb
            have B := Lib.hid (B.out.trans (bb.mono B.out.size))
            clear bb
            obtain ⟨h0, h1⟩ := buck_new w6 (p - k) (s + t)
            have ba := (Below.refl w6.heap.size w6).alloc (Nat.le_refl _) (.cells #[.int .i64 (p - k), .int .i64 (s + t)] 24)
            have c0 := below_cell c0 ba
            have c1 := below_cell c1 ba
            have d0 := below_cell d0 ba
            have d1 := below_cell d1 ba
            have f0 := below_cell f0 ba
            have f1 := below_cell f1 ba
            have g0 := below_cell g0 ba
            have g1 := below_cell g1 ba
            have B := Lib.hid (B.out.trans (ba.mono B.out.size))
            clear ba
            go_wp2_with (go_at_call 8; refine (H6.out _).mono ?_; rintro e w7 ⟨rfl, bb⟩; refine Hid.out ?_)
            refine Lib.hid ?_
            have c0 := below_cell c0 bb
            have c1 := below_cell c1 bb
            have d0 := below_cell d0 bb
            have d1 := below_cell d1 bb
            have f0 := below_cell f0 bb
            have f1 := below_cell f1 bb
            have g0 := below_cell g0 bb
            have g1 := below_cell g1 bb
            have h0 := below_cell h0 bb
            have h1 := below_cell h1 bb
            have B := Lib.hid (B.out.trans (bb.mono B.out.size))
            clear bb
            obtain ⟨i0, i1⟩ := buck_new w7 (p - n) (s + t)
            have ba := (Below.refl w7.heap.size w7).alloc (Nat.le_refl _) (.cells #[.int .i64 (p - n), .int .i64 (s + t)] 24)
            have c0 := below_cell c0 ba
            have c1 := below_cell c1 ba
            have d0 := below_cell d0 ba
            have d1 := below_cell d1 ba
            have f0 := below_cell f0 ba
            have f1 := below_cell f1 ba
            have g0 := below_cell g0 ba
            have g1 := below_cell g1 ba
            have h0 := below_cell h0 ba
            have h1 := below_cell h1 ba
            have B := Lib.hid (B.out.trans (ba.mono B.out.size))
            clear ba
            go_wp2_with (go_at_call 8; refine (H7.out _).mono ?_; rintro e w8 ⟨rfl, bb⟩; refine Hid.out ?_)
            refine Lib.hid ?_
            have c0 := below_cell c0 bb
            have c1 := below_cell c1 bb
            have d0 := below_cell d0 bb
            have d1 := below_cell d1 bb
            have f0 := below_cell f0 bb
            have f1 := below_cell f1 bb
            have g0 := below_cell g0 bb
            have g1 := below_cell g1 bb
            have h0 := below_cell h0 bb
            have h1 := below_cell h1 bb
            have i0 := below_cell i0 bb
            have i1 := below_cell i1 bb
            have B := Lib.hid (B.out.trans (bb.mono B.out.size))
            clear bb
            obtain ⟨j0, j1⟩ := buck_new w8 (o - n) (s + t + t)
            have ba := (Below.refl w8.heap.size w8).alloc (Nat.le_refl _) (.cells #[.int .i64 (o - n), .int .i64 (s + t + t)] 24)
            have c0 := below_cell c0 ba
            have c1 := below_cell c1 ba
            have d0 := below_cell d0 ba
            have d1 := below_cell d1 ba
            have f0 := below_cell f0 ba
            have f1 := below_cell f1 ba
            have g0 := below_cell g0 ba
            have g1 := below_cell g1 ba
            have h0 := below_cell h0 ba
            have h1 := below_cell h1 ba
            have i0 := below_cell i0 ba
            have i1 := below_cell i1 ba
            have B := Lib.hid (B.out.trans (ba.mono B.out.size))
            clear ba
            go_wp2
            go_ret
            exact ⟨rfl, B.out⟩
end Go.Proofs.Ytmlogoaicjdjiaa
