/- Package rate keeps the contracts. -/
import Derived.Test.YtmlogoaicjdjiaaRApi
namespace Go.Proofs.Ytmlogoaicjdjiaa
open Go.RowKit Go.Maps Go.ChangeMaps Go.MapKept
open Rt
attribute [local go_sem ↓] Go.wp_at_zero Go.wp_at_succ
section
variable {w : World} {L S r b t n : Int}
theorem below_dn {B : Nat} {w w' : World} (h : Below B w w') (n : Nat) : Below B w (w'.drewN n) := ⟨h.os, h.tape, h.output, h.size, h.block⟩
theorem results_cell_tmp {P : Program} {fn : Func} {p u : Tmp} {ty : TypeId} (h : fn.results = #[.cell p ty, .tmp u]) (tmps : Array Value) (w : World) (g : Nat) (t : TypeId) (cs : Array Value) (fr : Nat × Nat) (d : TypeDesc)
    (hp : tmps.getD p undef = .pointer (some ⟨g, 0, none⟩)) (hg : w.heap[g]? = some (.cells cs t fr))
    (hu : P.underlying ty = some d) (hd : (match d with | .struct _ | .array _ _ => true | _ => false) = true) (hi : (P.info? ty).map (·.size) = some cs.size) :
    (results fn tmps).run P w = .ok (.tuple #[.agg cs, tmps.getD u undef]) w := by
  have hp' : tmps[p]?.getD undef = .pointer (some ⟨g, 0, none⟩) := by simpa using hp
  simp [results, h, hp', asAddr, run_loadVar_row w g t ty cs fr d hg hu hd hi]
theorem p_step {x : Int} (w : World) : Calls Try.prog 16 #[.int .i64 x] w fun e w' => e = .returned (.bool (decide (0 ≤ x ∧ x ≤ 1073741824))) ∧ w' = w := by
  go_enter Try.func16, Try.ntmps16
  by_cases h0 : 0 ≤ x
  · by_cases h1 : x ≤ 1073741824
    · have HR := Lib.hid (decide_eq_true (show 0 ≤ x ∧ x ≤ 1073741824 from ⟨h0, h1⟩))
      go_wp2
      go_ret
      exact ⟨ret_bool HR.out.symm, rfl⟩
    · go_wp2
      go_ret
      exact ⟨ret_bool (by simp; omega), rfl⟩
  · go_wp2
    go_ret
    exact ⟨ret_bool (by simp; omega), rfl⟩
theorem p_num {x : Int} (w : World) : Calls Try.prog 18 #[.int .i64 x] w fun e w' => e = .returned (.bool (decide (0 ≤ x ∧ x ≤ 1099511627776))) ∧ w' = w := by
  go_enter Try.func18, Try.ntmps18
  by_cases h0 : 0 ≤ x
  · by_cases h1 : x ≤ 1099511627776
    · have HR := Lib.hid (decide_eq_true (show 0 ≤ x ∧ x ≤ 1099511627776 from ⟨h0, h1⟩))
      go_wp2
      go_ret
      exact ⟨ret_bool HR.out.symm, rfl⟩
    · go_wp2
      go_ret
      exact ⟨ret_bool (by simp; omega), rfl⟩
  · go_wp2
    go_ret
    exact ⟨ret_bool (by simp; omega), rfl⟩
theorem p_step_eq {x : Int} {y : Bool} (h : decide (0 ≤ x ∧ x ≤ 1073741824) = y) (w : World) : Calls Try.prog 16 #[.int .i64 x] w fun e w' => e = .returned (.bool y) ∧ w' = w := by
  have := p_step (x := x) w; rwa [h] at this
theorem p_num_eq {x : Int} {y : Bool} (h : decide (0 ≤ x ∧ x ≤ 1099511627776) = y) (w : World) : Calls Try.prog 18 #[.int .i64 x] w fun e w' => e = .returned (.bool y) ∧ w' = w := by
  have := p_num (x := x) w; rwa [h] at this
theorem right_no (h : ¬ (((0 ≤ r ∧ r ≤ 1099511627776) ∧ (0 ≤ b ∧ b ≤ 1099511627776)) ∧ (0 ≤ L ∧ L ≤ b) ∧ (0 ≤ S ∧ S ≤ 1073741824))) : right L S r b = false := by unfold right; exact decide_eq_false h
set_option maxHeartbeats 1000000 in
set_option maxRecDepth 100000 in
theorem p_right : Calls Try.prog 14 #[.agg #[.int .i64 L, .int .i64 S], .int .i64 r, .int .i64 b] w (Reads w (.bool (right L S r b))) := by
  obtain ⟨c0, c1⟩ := buck_new w L S
  have HB := Lib.hid ((Below.refl w.heap.size w).alloc (Nat.le_refl _) (.cells #[.int .i64 L, .int .i64 S] 24))
  unfold Reads
  go_enter Try.func14, Try.ntmps14
  by_cases h0 : 0 ≤ r ∧ r ≤ 1099511627776
  · have H0 := Lib.hid (p_num_eq (decide_eq_true h0))
    by_cases h1 : 0 ≤ b ∧ b ≤ 1099511627776
    · have H1 := Lib.hid (p_num_eq (decide_eq_true h1))
      go_wp2_with (go_at_call 18; refine (H0.out _).mono ?_; rintro e w2 ⟨rfl, rfl⟩; refine Hid.out ?_)
      refine Lib.hid ?_
      go_wp2_with (go_at_call 18; refine (H1.out _).mono ?_; rintro e w2 ⟨rfl, rfl⟩; refine Hid.out ?_)
      refine Lib.hid ?_
      by_cases h2 : 0 ≤ L
      · by_cases h3 : L ≤ b
        · by_cases h4 : 0 ≤ S ∧ S ≤ 1073741824
          · have H4 := Lib.hid (p_step_eq (decide_eq_true h4))
            have HR := Lib.hid (right_iff.2 ⟨⟨h0, h1⟩, ⟨h2, h3⟩, h4⟩)
            go_wp2_with (go_at_call 16; refine (H4.out _).mono ?_; rintro e w2 ⟨rfl, rfl⟩; refine Hid.out ?_)
            refine Lib.hid ?_
            go_wp2
            go_ret
            exact ⟨ret_bool HR.out.symm, HB.out⟩
          · have H4 := Lib.hid (p_step_eq (decide_eq_false h4))
            have HR := Lib.hid (right_no (L := L) (S := S) (r := r) (b := b) (fun q => h4 q.2.2))
            go_wp2_with (go_at_call 16; refine (H4.out _).mono ?_; rintro e w2 ⟨rfl, rfl⟩; refine Hid.out ?_)
            refine Lib.hid ?_
            go_wp2
            go_ret
            exact ⟨ret_bool HR.out.symm, HB.out⟩
        · have HR := Lib.hid (right_no (L := L) (S := S) (r := r) (b := b) (fun q => h3 q.2.1.2))
          go_wp2
          go_ret
          exact ⟨ret_bool HR.out.symm, HB.out⟩
      · have HR := Lib.hid (right_no (L := L) (S := S) (r := r) (b := b) (fun q => h2 q.2.1.1))
        go_wp2
        go_ret
        exact ⟨ret_bool HR.out.symm, HB.out⟩
    · have H1 := Lib.hid (p_num_eq (decide_eq_false h1))
      have HR := Lib.hid (right_no (L := L) (S := S) (r := r) (b := b) (fun q => h1 q.1.2))
      go_wp2_with (go_at_call 18; refine (H0.out _).mono ?_; rintro e w2 ⟨rfl, rfl⟩; refine Hid.out ?_)
      refine Lib.hid ?_
      go_wp2_with (go_at_call 18; refine (H1.out _).mono ?_; rintro e w2 ⟨rfl, rfl⟩; refine Hid.out ?_)
      refine Lib.hid ?_
      go_wp2
      go_ret
      exact ⟨ret_bool HR.out.symm, HB.out⟩
  · have H0 := Lib.hid (p_num_eq (decide_eq_false h0))
    have HR := Lib.hid (right_no (L := L) (S := S) (r := r) (b := b) (fun q => h0 q.1.1))
    go_wp2_with (go_at_call 18; refine (H0.out _).mono ?_; rintro e w2 ⟨rfl, rfl⟩; refine Hid.out ?_)
    refine Lib.hid ?_
    go_wp2
    go_ret
    exact ⟨ret_bool HR.out.symm, HB.out⟩
theorem p_right_eq {x : Bool} (h : right L S r b = x) : Calls Try.prog 14 #[.agg #[.int .i64 L, .int .i64 S], .int .i64 r, .int .i64 b] w (Reads w (.bool x)) := by
  have := p_right (w := w) (L := L) (S := S) (r := r) (b := b); rwa [h] at this
set_option maxHeartbeats 1000000 in
set_option maxRecDepth 100000 in
theorem p_places (h : right L S r b = true) (hs : S ≤ t) (ht : t ≤ 1073741824) : Calls Try.prog 17 #[.agg #[.int .i64 L, .int .i64 S], .int .i64 r, .int .i64 b, .int .i64 t] w (Reads w (.int .i64 (places L S r b t))) := by
  have hin := right_iff.1 h
  obtain ⟨c0, c1⟩ := buck_new w L S
  have HB := Lib.hid ((Below.refl w.heap.size w).alloc (Nat.le_refl _) (.cells #[.int .i64 L, .int .i64 S] 24))
  unfold Reads
  go_enter Try.func17, Try.ntmps17
  by_cases h0 : 0 < r
  · obtain ⟨q, hq⟩ : ∃ q, q = (b - L) / r := ⟨_, rfl⟩
    have hd : (b - L).tdiv r = q := by rw [hq]; exact Int.tdiv_eq_ediv_of_nonneg (by omega)
    have h2 : (b - L) / r < t - S ↔ b - L < (t - S) * r := Int.ediv_lt_iff_lt_mul h0
    rw [← hq] at h2
    have hq0 : 0 ≤ q := by rw [hq]; exact Int.ediv_nonneg (by omega) (by omega)
    have hq1 : q ≤ b - L := by rw [hq]; exact Int.ediv_le_self _ (by omega)
    clear hq
    by_cases h3 : q < t - S
    · have HR := Lib.hid (show places L S r b t = b by
        have := h2.1 h3
        unfold places mn; split <;> omega)
      clear h2
      go_wp2
      go_ret
      exact ⟨ret_int HR.out.symm, HB.out⟩
    · have h4 : (t - S) * r ≤ b - L := by
        refine Int.not_lt.1 fun k => h3 (h2.2 k)
      have h5 : 0 ≤ (t - S) * r := mul_nn (by omega) (by omega)
      have HR := Lib.hid (show places L S r b t = L + (t - S) * r by
        unfold places mn; split <;> omega)
      clear h2
      go_wp2
      go_ret
      exact ⟨ret_int HR.out.symm, HB.out⟩
  · obtain rfl : r = 0 := by omega
    have HR := Lib.hid (show places L S 0 b t = L by
      unfold places mn; simp; omega)
    go_wp2
    go_ret
    exact ⟨ret_int HR.out.symm, HB.out⟩
set_option maxHeartbeats 1000000 in
set_option maxRecDepth 100000 in
theorem p_free : Calls Try.prog 10 #[.agg #[.int .i64 L, .int .i64 S], .int .i64 r, .int .i64 b, .int .i64 t] w (Reads w (.tuple #[.int .i64 (free L S r b t).1, .int .i64 (free L S r b t).2])) := by
  have HQ := p_right (w := w.alloc (.cells #[.int .i64 L, .int .i64 S] 24)) (L := L) (S := S) (r := r) (b := b)
  obtain ⟨c0, c1⟩ := buck_new w L S
  have HB := Lib.hid ((Below.refl w.heap.size w).alloc (Nat.le_refl _) (.cells #[.int .i64 L, .int .i64 S] 24))
  unfold Reads
  go_enter Try.func10, Try.ntmps10
  cases hr : right L S r b with
  | false =>
    rw [hr] at HQ
    have HQ := Lib.hid HQ
    have HF := Lib.hid (free_right (t := t) hr)
    clear hr
    go_wp2_with (go_at_call 14; refine (HQ.out).mono ?_; rintro e w2 ⟨rfl, bb⟩; refine Hid.out ?_)
    refine Lib.hid ?_
    have c0 := below_cell c0 bb
    have c1 := below_cell c1 bb
    have HB := Lib.hid (HB.out.trans (bb.mono HB.out.size))
    clear bb
    go_wp2
    go_ret2
    exact ⟨ret_two HF.out, HB.out⟩
  | true =>
    rw [hr] at HQ
    have HQ := Lib.hid HQ
    have HR := Lib.hid hr
    have hin := right_iff.1 hr
    clear hr
    go_wp2_with (go_at_call 14; refine (HQ.out).mono ?_; rintro e w2 ⟨rfl, bb⟩; refine Hid.out ?_)
    refine Lib.hid ?_
    have c0 := below_cell c0 bb
    have c1 := below_cell c1 bb
    have HB := Lib.hid (HB.out.trans (bb.mono HB.out.size))
    clear bb
    by_cases h0 : 0 ≤ t ∧ t ≤ 1073741824
    · have H0 := Lib.hid (p_step_eq (decide_eq_true h0))
      go_wp2_with (go_at_call 16; refine (H0.out _).mono ?_; rintro e w2 ⟨rfl, rfl⟩; refine Hid.out ?_)
      refine Lib.hid ?_
      by_cases h2 : t < S
      · have HF := Lib.hid (free_late HR.out h0 h2)
        go_wp2
        go_ret2
        exact ⟨ret_two HF.out, HB.out⟩
      · have HF := Lib.hid (free_ok HR.out (show t ≤ 1073741824 by omega) (show S ≤ t by omega))
        have HP := Lib.hid (p_places (w := w2) HR.out (show S ≤ t by omega) h0.2)
        go_wp2_with (go_at_call 17; refine (HP.out).mono ?_; rintro e w3 ⟨rfl, bb⟩; refine Hid.out ?_)
        refine Lib.hid ?_
        have HB := Lib.hid (HB.out.trans (bb.mono HB.out.size))
        clear bb
        go_wp2
        go_ret2
        exact ⟨ret_two HF.out, HB.out⟩
    · have H0 := Lib.hid (p_step_eq (decide_eq_false h0))
      have HF := Lib.hid (free_range HR.out h0)
      go_wp2_with (go_at_call 16; refine (H0.out _).mono ?_; rintro e w2 ⟨rfl, rfl⟩; refine Hid.out ?_)
      refine Lib.hid ?_
      go_wp2
      go_ret2
      exact ⟨ret_two HF.out, HB.out⟩
/-- Next, as the program finds it. -/
theorem next_at (h : right L S r b = true) (hn : 0 ≤ n) (hl : n ≤ L) : next L S r b n = (S, 0) := by
  have hin := right_iff.1 h
  have hp := places_in h (show S ≤ 1073741824 by omega)
  rw [next_ok h hn (by omega)]; unfold least; rw [if_pos hl]
theorem next_no (h : right L S r b = true) (hn : 0 ≤ n) (hl : L < n) (hr : b < n ∨ r = 0) : next L S r b n = (0, 6) := by
  have hin := right_iff.1 h
  have hp := places_in h (show S ≤ 1073741824 by omega)
  refine next_full h hn ?_
  rcases hr with hr | hr
  · omega
  · subst hr; simp at hp; omega
theorem least_div (hl : L < n) (hr : 0 < r) : least L S r n = S + (n - L - 1) / r + 1 := by
  unfold least
  rw [if_neg (by omega), show n - L + r - 1 = (n - L - 1) + 1 * r by omega, Int.add_mul_ediv_right _ _ (by omega)]
  omega
theorem next_big (h : right L S r b = true) (hn : 0 ≤ n) (hl : L < n) (hr : 0 < r) (hm : 1073741824 < S + (n - L - 1) / r + 1) : next L S r b n = (0, 6) := by
  refine next_full h hn (Int.not_le.1 fun k => ?_)
  have := (least_in h k).2
  rw [least_div hl hr] at this
  omega
theorem next_in (h : right L S r b = true) (hn : 0 ≤ n) (hl : L < n) (hr : 0 < r) (hb : n ≤ b) (hm : S + (n - L - 1) / r + 1 ≤ 1073741824) : next L S r b n = (S + (n - L - 1) / r + 1, 0) := by
  have h2 : (n - L - 1) / r < 1073741824 - S ↔ n - L - 1 < (1073741824 - S) * r := Int.ediv_lt_iff_lt_mul hr
  have h3 := h2.1 (by omega)
  rw [next_ok h hn (by unfold places mn; split <;> omega), least_div hl hr]
set_option maxHeartbeats 1000000 in
set_option maxRecDepth 100000 in
theorem p_next (hn : I64 n) : Calls Try.prog 12 #[.agg #[.int .i64 L, .int .i64 S], .int .i64 r, .int .i64 b, .int .i64 n] w (Reads w (.tuple #[.int .i64 (next L S r b n).1, .int .i64 (next L S r b n).2])) := by
  have HQ := p_right (w := w.alloc (.cells #[.int .i64 L, .int .i64 S] 24)) (L := L) (S := S) (r := r) (b := b)
  unfold I64 at hn
  obtain ⟨c0, c1⟩ := buck_new w L S
  have HB := Lib.hid ((Below.refl w.heap.size w).alloc (Nat.le_refl _) (.cells #[.int .i64 L, .int .i64 S] 24))
  unfold Reads
  go_enter Try.func12, Try.ntmps12
  cases hr : right L S r b with
  | false =>
    rw [hr] at HQ
    have HQ := Lib.hid HQ
    have HF := Lib.hid (next_arg (L := L) (S := S) (r := r) (b := b) (n := n) (by rw [hr]; simp))
    clear hr
    go_wp2_with (go_at_call 14; refine (HQ.out).mono ?_; rintro e w2 ⟨rfl, bb⟩; refine Hid.out ?_)
    refine Lib.hid ?_
    have c0 := below_cell c0 bb
    have c1 := below_cell c1 bb
    have HB := Lib.hid (HB.out.trans (bb.mono HB.out.size))
    clear bb
    go_wp2
    go_ret2
    exact ⟨ret_two HF.out, HB.out⟩
  | true =>
    rw [hr] at HQ
    have HQ := Lib.hid HQ
    have HR := Lib.hid hr
    have hin := right_iff.1 hr
    clear hr
    go_wp2_with (go_at_call 14; refine (HQ.out).mono ?_; rintro e w2 ⟨rfl, bb⟩; refine Hid.out ?_)
    refine Lib.hid ?_
    have c0 := below_cell c0 bb
    have c1 := below_cell c1 bb
    have HB := Lib.hid (HB.out.trans (bb.mono HB.out.size))
    clear bb
    by_cases h0 : n < 0
    · have HF := Lib.hid (next_arg (L := L) (S := S) (r := r) (b := b) (n := n) (by omega))
      go_wp2
      go_ret2
      exact ⟨ret_two HF.out, HB.out⟩
    · by_cases h1 : n ≤ L
      · have HF := Lib.hid (next_at HR.out (show 0 ≤ n by omega) h1)
        go_wp2
        go_ret2
        exact ⟨ret_two HF.out, HB.out⟩
      · by_cases h2 : b < n
        · have HF := Lib.hid (next_no HR.out (show 0 ≤ n by omega) (by omega) (Or.inl h2))
          go_wp2
          go_ret2
          exact ⟨ret_two HF.out, HB.out⟩
        · by_cases h3 : r = 0
          · have HF := Lib.hid (next_no HR.out (show 0 ≤ n by omega) (by omega) (Or.inr h3))
            subst h3
            go_wp2
            go_ret2
            exact ⟨ret_two HF.out, HB.out⟩
          · obtain ⟨q, hq⟩ : ∃ q, q = (n - L - 1) / r := ⟨_, rfl⟩
            have hd : (n - L - 1).tdiv r = q := by rw [hq]; exact Int.tdiv_eq_ediv_of_nonneg (by omega)
            have hq0 : 0 ≤ q := by rw [hq]; exact Int.ediv_nonneg (by omega) (by omega)
            have hq1 : q ≤ n - L - 1 := by rw [hq]; exact Int.ediv_le_self _ (by omega)
            have hw1 : IntKind.i64.wrap (n - L) = n - L := by rw [IntKind.wrap_i64]; omega
            have hw2 : IntKind.i64.wrap (n - L - 1) = n - L - 1 := by rw [IntKind.wrap_i64]; omega
            have hw3 : IntKind.i64.wrap (S + q) = S + q := by rw [IntKind.wrap_i64]; omega
            have hw4 : IntKind.i64.wrap (S + q + 1) = S + q + 1 := by rw [IntKind.wrap_i64]; omega
            by_cases h4 : S + q + 1 ≤ 1073741824
            · have HF := Lib.hid (next_in HR.out (show 0 ≤ n by omega) (by omega) (by omega) (by omega) (by rw [← hq]; exact h4))
              rw [← hq] at HF
              clear hq
              have H4 := Lib.hid (p_step_eq (decide_eq_true (show 0 ≤ S + q + 1 ∧ S + q + 1 ≤ 1073741824 by omega)))
              go_wp2
              go_quiet (fail)
              have HB := Lib.hid (below_dn HB.out nq)
              go_wp2_with (go_at_call 16; refine (H4.out _).mono ?_; rintro e w2 ⟨rfl, rfl⟩; refine Hid.out ?_)
              refine Lib.hid ?_
              go_wp2
              go_ret2
              exact ⟨ret_two HF.out, HB.out⟩
            · have HF := Lib.hid (next_big HR.out (show 0 ≤ n by omega) (by omega) (by omega) (by rw [← hq]; omega))
              clear hq
              have H4 := Lib.hid (p_step_eq (decide_eq_false (show ¬ (0 ≤ S + q + 1 ∧ S + q + 1 ≤ 1073741824) by omega)))
              go_wp2
              go_quiet (fail)
              have HB := Lib.hid (below_dn HB.out nq)
              go_wp2_with (go_at_call 16; refine (H4.out _).mono ?_; rintro e w2 ⟨rfl, rfl⟩; refine Hid.out ?_)
              refine Lib.hid ?_
              go_wp2
              go_ret2
              exact ⟨ret_two HF.out, HB.out⟩
theorem ret_take {x y z : Int} {p : (Int × Int) × Int} {v : Value} (h : p = ((x, y), z)) (hv : v = .int .i64 z) : Ending.returned (.tuple #[.agg #[.int .i64 x, .int .i64 y], v]) = .returned (.tuple #[.agg #[.int .i64 p.1.1, .int .i64 p.1.2], .int .i64 p.2]) := by rw [h, hv]
set_option maxHeartbeats 1000000 in
set_option maxRecDepth 100000 in
theorem p_take (hn : I64 n) : Calls Try.prog 8 #[.agg #[.int .i64 L, .int .i64 S], .int .i64 r, .int .i64 b, .int .i64 t, .int .i64 n] w (Reads w (.tuple #[.agg #[.int .i64 (take L S r b t n).1.1, .int .i64 (take L S r b t n).1.2], .int .i64 (take L S r b t n).2])) := by
  have HQ := p_free (w := (w.alloc (.cells #[.int .i64 L, .int .i64 S] 24)).alloc (.cells #[.int .i64 0, .int .i64 0] 24)) (L := L) (S := S) (r := r) (b := b) (t := t)
  have M1 := Lib.hid ((OMem.start w).two (.cells #[.int .i64 L, .int .i64 S] 24 (0, 0)) (.cells #[.int .i64 0, .int .i64 0] 24 (0, 0)))
  unfold I64 at hn
  unfold Reads
  go_enter Try.func8, Try.ntmps8
  by_cases h0 : n < 0
  · have HF := Lib.hid (take_neg (L := L) (S := S) (r := r) (b := b) (t := t) h0)
    have r1 := M1.out.raw_at (i := 0) rfl
    have r2 := M1.out.raw_at (i := 1) rfl
    have c0 : ((w.alloc (.cells #[.int .i64 L, .int .i64 S] 24)).alloc (.cells #[.int .i64 0, .int .i64 0] 24)).cell? ⟨w.heap.size, 0, none⟩ = some (.int .i64 L) := by rw [Lib.cell_of_heap r1]; rfl
    have c1 : ((w.alloc (.cells #[.int .i64 L, .int .i64 S] 24)).alloc (.cells #[.int .i64 0, .int .i64 0] 24)).cell? ⟨w.heap.size, 1, none⟩ = some (.int .i64 S) := by rw [Lib.cell_of_heap r1]; rfl
    have g0 : ((w.alloc (.cells #[.int .i64 L, .int .i64 S] 24)).alloc (.cells #[.int .i64 0, .int .i64 0] 24)).cell? ⟨w.heap.size + 1, 0, none⟩ = some (.int .i64 0) := by rw [Lib.cell_of_heap r2]; rfl
    have g1 : ((w.alloc (.cells #[.int .i64 L, .int .i64 S] 24)).alloc (.cells #[.int .i64 0, .int .i64 0] 24)).cell? ⟨w.heap.size + 1, 1, none⟩ = some (.int .i64 0) := by rw [Lib.cell_of_heap r2]; rfl
    have z0 : ((w.alloc (.cells #[.int .i64 L, .int .i64 S] 24)).alloc (.cells #[.int .i64 0, .int .i64 0] 24)).frozen? ⟨w.heap.size + 1, 0, none⟩ = false := Lib.frozen_of_heap r2 0
    have z1 : ((w.alloc (.cells #[.int .i64 L, .int .i64 S] 24)).alloc (.cells #[.int .i64 0, .int .i64 0] 24)).frozen? ⟨w.heap.size + 1, 1, none⟩ = false := Lib.frozen_of_heap r2 1
    clear r1 r2
    go_wp2
    have m3 := (OMem.start w).two (.cells #[.int .i64 L, .int .i64 S] 24 (0, 0)) (.cells #[.int .i64 L, .int .i64 S] 24 (0, 0))
    have r3 := m3.raw_at (i := 1) rfl
    refine bodyPost_ret (results_cell_tmp (p := 10) (u := 11) rfl _ _ (w.heap.size + 1) 24 #[.int .i64 L, .int .i64 S] (0, 0) _ rfl r3 Try.underlying24 rfl (by kernel_rfl)) rfl ?_
    exact ⟨ret_take HF.out rfl, m3.below⟩
  · obtain ⟨x, e, hf⟩ : ∃ x e, free L S r b t = (x, e) := ⟨_, _, rfl⟩
    rw [hf] at HQ
    have HQ := Lib.hid HQ
    have HFF := Lib.hid hf
    have r1 := M1.out.raw_at (i := 0) rfl
    have r2 := M1.out.raw_at (i := 1) rfl
    have c0 : ((w.alloc (.cells #[.int .i64 L, .int .i64 S] 24)).alloc (.cells #[.int .i64 0, .int .i64 0] 24)).cell? ⟨w.heap.size, 0, none⟩ = some (.int .i64 L) := by rw [Lib.cell_of_heap r1]; rfl
    have c1 : ((w.alloc (.cells #[.int .i64 L, .int .i64 S] 24)).alloc (.cells #[.int .i64 0, .int .i64 0] 24)).cell? ⟨w.heap.size, 1, none⟩ = some (.int .i64 S) := by rw [Lib.cell_of_heap r1]; rfl
    have g0 : ((w.alloc (.cells #[.int .i64 L, .int .i64 S] 24)).alloc (.cells #[.int .i64 0, .int .i64 0] 24)).cell? ⟨w.heap.size + 1, 0, none⟩ = some (.int .i64 0) := by rw [Lib.cell_of_heap r2]; rfl
    have g1 : ((w.alloc (.cells #[.int .i64 L, .int .i64 S] 24)).alloc (.cells #[.int .i64 0, .int .i64 0] 24)).cell? ⟨w.heap.size + 1, 1, none⟩ = some (.int .i64 0) := by rw [Lib.cell_of_heap r2]; rfl
    have z0 : ((w.alloc (.cells #[.int .i64 L, .int .i64 S] 24)).alloc (.cells #[.int .i64 0, .int .i64 0] 24)).frozen? ⟨w.heap.size + 1, 0, none⟩ = false := Lib.frozen_of_heap r2 0
    have z1 : ((w.alloc (.cells #[.int .i64 L, .int .i64 S] 24)).alloc (.cells #[.int .i64 0, .int .i64 0] 24)).frozen? ⟨w.heap.size + 1, 1, none⟩ = false := Lib.frozen_of_heap r2 1
    clear r1 r2
    by_cases he : e = 0
    · subst he
      have hxx := free_val hf
      by_cases h1 : x < n
      · have HF := Lib.hid (take_full h0 hf h1)
        clear hf
        clear c0 c1 g0 g1 z0 z1
        go_wp2_with (go_at_call 10; refine (HQ.out).mono ?_; rintro e2 w2 ⟨rfl, bb⟩; refine Hid.out ?_)
        refine Lib.hid ?_
        have M1 := Lib.hid (M1.out.fresh bb)
        clear bb
        have r1 := M1.out.raw_at (i := 0) rfl
        have r2 := M1.out.raw_at (i := 1) rfl
        have c0 : (w2).cell? ⟨w.heap.size, 0, none⟩ = some (.int .i64 L) := by rw [Lib.cell_of_heap r1]; rfl
        have c1 : (w2).cell? ⟨w.heap.size, 1, none⟩ = some (.int .i64 S) := by rw [Lib.cell_of_heap r1]; rfl
        have g0 : (w2).cell? ⟨w.heap.size + 1, 0, none⟩ = some (.int .i64 0) := by rw [Lib.cell_of_heap r2]; rfl
        have g1 : (w2).cell? ⟨w.heap.size + 1, 1, none⟩ = some (.int .i64 0) := by rw [Lib.cell_of_heap r2]; rfl
        have z0 : (w2).frozen? ⟨w.heap.size + 1, 0, none⟩ = false := Lib.frozen_of_heap r2 0
        have z1 : (w2).frozen? ⟨w.heap.size + 1, 1, none⟩ = false := Lib.frozen_of_heap r2 1
        clear r1 r2
        go_wp2
        have m3 := (M1.out.raw_set (i := 1) rfl 0 (.int .i64 (L))).raw_set (i := 1) rfl 1 (.int .i64 (S))
        have r3 := m3.raw_at (i := 1) rfl
        refine bodyPost_ret (results_cell_tmp (p := 10) (u := 11) rfl _ _ (w.heap.size + 1) 24 #[.int .i64 (L), .int .i64 (S)] (0, 0) _ rfl r3 Try.underlying24 rfl (by kernel_rfl)) rfl ?_
        exact ⟨ret_take HF.out rfl, m3.below⟩
      · have HF := Lib.hid (take_ok h0 hf (by omega))
        clear hf
        clear c0 c1 g0 g1 z0 z1
        go_wp2_with (go_at_call 10; refine (HQ.out).mono ?_; rintro e2 w2 ⟨rfl, bb⟩; refine Hid.out ?_)
        refine Lib.hid ?_
        have M1 := Lib.hid (M1.out.fresh bb)
        clear bb
        have r1 := M1.out.raw_at (i := 0) rfl
        have r2 := M1.out.raw_at (i := 1) rfl
        have c0 : (w2).cell? ⟨w.heap.size, 0, none⟩ = some (.int .i64 L) := by rw [Lib.cell_of_heap r1]; rfl
        have c1 : (w2).cell? ⟨w.heap.size, 1, none⟩ = some (.int .i64 S) := by rw [Lib.cell_of_heap r1]; rfl
        have g0 : (w2).cell? ⟨w.heap.size + 1, 0, none⟩ = some (.int .i64 0) := by rw [Lib.cell_of_heap r2]; rfl
        have g1 : (w2).cell? ⟨w.heap.size + 1, 1, none⟩ = some (.int .i64 0) := by rw [Lib.cell_of_heap r2]; rfl
        have z0 : (w2).frozen? ⟨w.heap.size + 1, 0, none⟩ = false := Lib.frozen_of_heap r2 0
        have z1 : (w2).frozen? ⟨w.heap.size + 1, 1, none⟩ = false := Lib.frozen_of_heap r2 1
        clear r1 r2
        go_wp2
        have m3 := (M1.out.raw_set (i := 1) rfl 0 (.int .i64 (x - n))).raw_set (i := 1) rfl 1 (.int .i64 (t))
        have r3 := m3.raw_at (i := 1) rfl
        refine bodyPost_ret (results_cell_tmp (p := 10) (u := 11) rfl _ _ (w.heap.size + 1) 24 #[.int .i64 (x - n), .int .i64 (t)] (0, 0) _ rfl r3 Try.underlying24 rfl (by kernel_rfl)) rfl ?_
        exact ⟨ret_take HF.out rfl, m3.below⟩
    · have HF := Lib.hid (take_err h0 hf he)
      clear hf
      clear c0 c1 g0 g1 z0 z1
      go_wp2_with (go_at_call 10; refine (HQ.out).mono ?_; rintro e2 w2 ⟨rfl, bb⟩; refine Hid.out ?_)
      refine Lib.hid ?_
      have M1 := Lib.hid (M1.out.fresh bb)
      clear bb
      have r1 := M1.out.raw_at (i := 0) rfl
      have r2 := M1.out.raw_at (i := 1) rfl
      have c0 : (w2).cell? ⟨w.heap.size, 0, none⟩ = some (.int .i64 L) := by rw [Lib.cell_of_heap r1]; rfl
      have c1 : (w2).cell? ⟨w.heap.size, 1, none⟩ = some (.int .i64 S) := by rw [Lib.cell_of_heap r1]; rfl
      have g0 : (w2).cell? ⟨w.heap.size + 1, 0, none⟩ = some (.int .i64 0) := by rw [Lib.cell_of_heap r2]; rfl
      have g1 : (w2).cell? ⟨w.heap.size + 1, 1, none⟩ = some (.int .i64 0) := by rw [Lib.cell_of_heap r2]; rfl
      have z0 : (w2).frozen? ⟨w.heap.size + 1, 0, none⟩ = false := Lib.frozen_of_heap r2 0
      have z1 : (w2).frozen? ⟨w.heap.size + 1, 1, none⟩ = false := Lib.frozen_of_heap r2 1
      clear r1 r2
      go_wp2
      have m3 := (M1.out.raw_set (i := 1) rfl 0 (.int .i64 (L))).raw_set (i := 1) rfl 1 (.int .i64 (S))
      have r3 := m3.raw_at (i := 1) rfl
      refine bodyPost_ret (results_cell_tmp (p := 10) (u := 11) rfl _ _ (w.heap.size + 1) 24 #[.int .i64 (L), .int .i64 (S)] (0, 0) _ rfl r3 Try.underlying24 rfl (by kernel_rfl)) rfl ?_
      exact ⟨ret_take HF.out rfl, m3.below⟩
theorem theApi : RApi := ⟨fun _ _ _ _ => p_right, fun _ _ _ _ _ => p_free, fun _ _ _ _ _ hn => p_take hn, fun _ _ _ _ hn => p_next hn⟩
end
end Go.Proofs.Ytmlogoaicjdjiaa
