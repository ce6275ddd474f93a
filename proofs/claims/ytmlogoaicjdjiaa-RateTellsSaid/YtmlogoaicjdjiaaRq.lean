/- The reference of layer 9. -/
import Derived.Test.YtmlogoaicjdjiaaGen7
import Derived.Test.YtmlogoaicjdjiaaRt
import Derived.OwnWalk
namespace Go.Proofs.Ytmlogoaicjdjiaa
open Go.RowKit
open Rt
attribute [local go_sem ↓] Go.wp_at_zero Go.wp_at_succ
theorem ret_two {a b : Int} {p : Int × Int} (h : p = (a, b)) : Ending.returned (.tuple #[.int .i64 a, .int .i64 b]) = .returned (.tuple #[.int .i64 p.1, .int .i64 p.2]) := by rw [h]
theorem ret_three {a b c : Int} {p : (Int × Int) × Int} (h : p = ((a, b), c)) : Ending.returned (.tuple #[.int .i64 a, .int .i64 b, .int .i64 c]) = .returned (.tuple #[.int .i64 p.1.1, .int .i64 p.1.2, .int .i64 p.2]) := by rw [h]
section
variable {w : World} {L S r b : Int}
set_option maxHeartbeats 1000000 in
set_option maxRecDepth 100000 in
theorem q_right : Calls Try.prog 15 #[.int .i64 L, .int .i64 S, .int .i64 r, .int .i64 b] w fun e w' => e = .returned (.bool (right L S r b)) ∧ w = w' := by
  go_enter Try.func15, Try.ntmps15
  go_wp2
  all_goals
    go_ret
    refine ⟨ret_bool ?_, rfl⟩
    unfold right
    symm
    first
      | exact decide_eq_true (by omega)
      | exact decide_eq_false (by omega)
      | exact decide_eq_decide.2 (by omega)
set_option maxHeartbeats 4000000 in
set_option maxRecDepth 100000 in
theorem q_free {t : Int} : Calls Try.prog 11 #[.int .i64 L, .int .i64 S, .int .i64 r, .int .i64 b, .int .i64 t] w fun e w' => e = .returned (.tuple #[.int .i64 (free L S r b t).1, .int .i64 (free L S r b t).2]) ∧ w = w' := by
  have HQ := @q_right w L S r b
  go_enter Try.func11, Try.ntmps11
  cases hr : right L S r b with
  | false =>
    rw [hr] at HQ
    have HQ := Lib.hid HQ
    have HF := Lib.hid (free_right (t := t) hr)
    clear hr
    go_wp2_with (go_at_call 15; refine (HQ.out).mono ?_; rintro e w2 ⟨rfl, rfl⟩; refine Hid.out ?_)
    refine Lib.hid ?_
    go_wp2
    go_ret2
    exact ⟨ret_two HF.out, rfl⟩
  | true =>
    rw [hr] at HQ
    have HQ := Lib.hid HQ
    have HR := Lib.hid hr
    have hin := right_iff.1 hr
    clear hr
    go_wp2_with (go_at_call 15; refine (HQ.out).mono ?_; rintro e w2 ⟨rfl, rfl⟩; refine Hid.out ?_)
    refine Lib.hid ?_
    by_cases h0 : t < 0
    · have HF := Lib.hid (free_range HR.out (show ¬ (0 ≤ t ∧ t ≤ 1073741824) by omega))
      go_wp2
      go_ret2
      exact ⟨ret_two HF.out, rfl⟩
    · by_cases h1 : 1073741824 < t
      · have HF := Lib.hid (free_range HR.out (show ¬ (0 ≤ t ∧ t ≤ 1073741824) by omega))
        go_wp2
        go_ret2
        exact ⟨ret_two HF.out, rfl⟩
      · by_cases h2 : t < S
        · have HF := Lib.hid (free_late HR.out (show 0 ≤ t ∧ t ≤ 1073741824 by omega) h2)
          go_wp2
          go_ret2
          exact ⟨ret_two HF.out, rfl⟩
        · have HF := Lib.hid (free_ok HR.out (show t ≤ 1073741824 by omega) (show S ≤ t by omega))
          go_wp2
          go_loopw [0, 12, 13] (fun l tt m wr => ∃ x y z : Int, l = .int .i64 x ∧ tt = .int .i64 y ∧ m = .int .i64 z ∧ (0 ≤ x ∧ x ≤ b) ∧ (0 ≤ y ∧ y ≤ 1073741824) ∧ (0 ≤ z ∧ z ≤ 1099511627777) ∧ Hid (mn (x + y * z) b = places L S r b t) ∧ w = wr) (fun _ t _ _ => (RowKit.intOf t).toNat)
          case atStart => exact ⟨L, t - S, r, rfl, by go_num, rfl, by omega, by omega, by omega, Lib.hid rfl, rfl⟩
          case round =>
            obtain ⟨x, y, z, rfl, rfl, rfl, hx, hy, hz, HP, rfl⟩ := hrel
            by_cases h3 : 0 < y
            · obtain ⟨k, hk⟩ : ∃ k, k = y / 2 := ⟨_, rfl⟩
              have hm : y.tmod 2 = y % 2 := Int.tmod_eq_emod_of_nonneg (by omega)
              have hd : y.tdiv 2 = k := by rw [hk]; exact Int.tdiv_eq_ediv_of_nonneg (by omega)
              have hkk : 0 ≤ k ∧ k ≤ 1073741824 ∧ k < y := by omega
              by_cases h5 : 2 * z ≤ 1099511627777
              · have e5 : mn (2 * z) 1099511627777 = 2 * z := by unfold mn; rw [if_pos h5]
                by_cases h4 : y % 2 = 1
                · have e1 : (2 * k + 1) = y := by omega
                  have hq := mn_odd (l := x) (m := z) (b := b) (t := k) hx (by omega) hz (by omega)
                  rw [e1, e5] at hq
                  have HQ2 := Lib.hid (hq.trans HP.out)
                  have h4' : (y % 2 == 1) = true := by rw [h4]; rfl
                  clear hk hq e5 e1
                  by_cases h6 : x + z ≤ b
                  · have e6 : mn (x + z) b = x + z := by unfold mn; rw [if_pos h6]
                    rw [e6] at HQ2
                    clear e6
                    go_wp2
                    go_roundw
                    case rel => exact ⟨x + z, k, 2 * z, by go_num, rfl, by go_num, by omega, by omega, by omega, HQ2, by trivial⟩
                    case measure => (simp [RowKit.intOf]; try omega)
                  · have e6 : mn (x + z) b = b := by unfold mn; rw [if_neg h6]
                    rw [e6] at HQ2
                    clear e6
                    go_wp2
                    go_roundw
                    case rel => exact ⟨b, k, 2 * z, by go_num, rfl, by go_num, by omega, by omega, by omega, HQ2, by trivial⟩
                    case measure => (simp [RowKit.intOf]; try omega)
                · have e1 : 2 * k = y := by omega
                  have hq := mn_even (l := x) (m := z) (b := b) (t := k) hx (by omega) hz (by omega)
                  rw [e1, e5] at hq
                  have HQ2 := Lib.hid (hq.trans HP.out)
                  clear hk hq e5 e1
                  go_wp2
                  go_roundw
                  case rel => exact ⟨x, k, 2 * z, rfl, rfl, by go_num, by omega, by omega, by omega, HQ2, by trivial⟩
                  case measure => (simp [RowKit.intOf]; try omega)
              · have e5 : mn (2 * z) 1099511627777 = 1099511627777 := by unfold mn; rw [if_neg h5]
                by_cases h4 : y % 2 = 1
                · have e1 : (2 * k + 1) = y := by omega
                  have hq := mn_odd (l := x) (m := z) (b := b) (t := k) hx (by omega) hz (by omega)
                  rw [e1, e5] at hq
                  have HQ2 := Lib.hid (hq.trans HP.out)
                  have h4' : (y % 2 == 1) = true := by rw [h4]; rfl
                  clear hk hq e5 e1
                  by_cases h6 : x + z ≤ b
                  · have e6 : mn (x + z) b = x + z := by unfold mn; rw [if_pos h6]
                    rw [e6] at HQ2
                    clear e6
                    go_wp2
                    go_roundw
                    case rel => exact ⟨x + z, k, 1099511627777, by go_num, rfl, by go_num, by omega, by omega, by omega, HQ2, by trivial⟩
                    case measure => (simp [RowKit.intOf]; try omega)
                  · have e6 : mn (x + z) b = b := by unfold mn; rw [if_neg h6]
                    rw [e6] at HQ2
                    clear e6
                    go_wp2
                    go_roundw
                    case rel => exact ⟨b, k, 1099511627777, by go_num, rfl, by go_num, by omega, by omega, by omega, HQ2, by trivial⟩
                    case measure => (simp [RowKit.intOf]; try omega)
                · have e1 : 2 * k = y := by omega
                  have hq := mn_even (l := x) (m := z) (b := b) (t := k) hx (by omega) hz (by omega)
                  rw [e1, e5] at hq
                  have HQ2 := Lib.hid (hq.trans HP.out)
                  clear hk hq e5 e1
                  go_wp2
                  go_roundw
                  case rel => exact ⟨x, k, 1099511627777, rfl, rfl, by go_num, by omega, by omega, by omega, HQ2, by trivial⟩
                  case measure => (simp [RowKit.intOf]; try omega)
            · obtain rfl : y = 0 := by omega
              have HE := Lib.hid (show x = places L S r b t by
                have := HP.out
                rw [Int.zero_mul, Int.add_zero] at this
                rw [← this]; unfold mn; rw [if_pos hx.2])
              go_wp2
              go_ret2
              exact ⟨ret_two (HF.out.trans (by rw [HE.out])), rfl⟩
set_option maxHeartbeats 1000000 in
set_option maxRecDepth 100000 in
theorem q_take {t n : Int} : Calls Try.prog 9 #[.int .i64 L, .int .i64 S, .int .i64 r, .int .i64 b, .int .i64 t, .int .i64 n] w fun e w' => e = .returned (.tuple #[.int .i64 (take L S r b t n).1.1, .int .i64 (take L S r b t n).1.2, .int .i64 (take L S r b t n).2]) ∧ w = w' := by
  have HQ := @q_free w L S r b t
  go_enter Try.func9, Try.ntmps9
  by_cases h0 : n < 0
  · have HF := Lib.hid (take_neg (L := L) (S := S) (r := r) (b := b) (t := t) h0)
    go_wp2
    go_ret3
    exact ⟨ret_three HF.out, rfl⟩
  · obtain ⟨x, e, hf⟩ : ∃ x e, free L S r b t = (x, e) := ⟨_, _, rfl⟩
    rw [hf] at HQ
    have HQ := Lib.hid HQ
    have HFF := Lib.hid hf
    by_cases he : e = 0
    · subst he
      have hxx := free_val hf
      by_cases h1 : x < n
      · have HF := Lib.hid (take_full h0 hf h1)
        clear hf
        go_wp2_with (go_at_call 11; refine (HQ.out).mono ?_; rintro e w2 ⟨rfl, rfl⟩; refine Hid.out ?_)
        refine Lib.hid ?_
        go_wp2
        go_ret3
        exact ⟨ret_three HF.out, rfl⟩
      · have HF := Lib.hid (take_ok h0 hf (by omega))
        clear hf
        go_wp2_with (go_at_call 11; refine (HQ.out).mono ?_; rintro e w2 ⟨rfl, rfl⟩; refine Hid.out ?_)
        refine Lib.hid ?_
        go_wp2
        go_ret3
        exact ⟨ret_three HF.out, rfl⟩
    · have HF := Lib.hid (take_err h0 hf he)
      clear hf
      go_wp2_with (go_at_call 11; refine (HQ.out).mono ?_; rintro e2 w2 ⟨rfl, rfl⟩; refine Hid.out ?_)
      refine Lib.hid ?_
      go_wp2
      go_ret3
      exact ⟨ret_three HF.out, rfl⟩
set_option maxHeartbeats 4000000 in
set_option maxRecDepth 100000 in
theorem q_next {n : Int} : Calls Try.prog 13 #[.int .i64 L, .int .i64 S, .int .i64 r, .int .i64 b, .int .i64 n] w fun e w' => e = .returned (.tuple #[.int .i64 (next L S r b n).1, .int .i64 (next L S r b n).2]) ∧ w = w' := by
  have HQ := @q_right w L S r b
  have HFR := fun (t : Int) => @q_free w L S r b t
  have HFR := Lib.hid HFR
  go_enter Try.func13, Try.ntmps13
  by_cases h0 : n < 0
  · have HF := Lib.hid (next_arg (L := L) (S := S) (r := r) (b := b) (n := n) (by omega))
    go_wp2
    go_ret2
    exact ⟨ret_two HF.out, rfl⟩
  · cases hr : right L S r b with
    | false =>
      rw [hr] at HQ
      have HQ := Lib.hid HQ
      have HF := Lib.hid (next_arg (L := L) (S := S) (r := r) (b := b) (n := n) (by rw [hr]; simp))
      clear hr
      go_wp2_with (go_at_call 15; refine (HQ.out).mono ?_; rintro e w2 ⟨rfl, rfl⟩; refine Hid.out ?_)
      refine Lib.hid ?_
      go_wp2
      go_ret2
      exact ⟨ret_two HF.out, rfl⟩
    | true =>
      rw [hr] at HQ
      have HQ := Lib.hid HQ
      have HR := Lib.hid hr
      have hin := right_iff.1 hr
      clear hr
      have H1 := HFR.out 1073741824
      rw [free_ok HR.out (Int.le_refl _) (by omega)] at H1
      have H1 := Lib.hid H1
      go_wp2_with (go_at_call 15; refine (HQ.out).mono ?_; rintro e w2 ⟨rfl, rfl⟩; refine Hid.out ?_)
      refine Lib.hid ?_
      go_wp2_with (go_at_call 11; refine (H1.out).mono ?_; rintro e w2 ⟨rfl, rfl⟩; refine Hid.out ?_)
      refine Lib.hid ?_
      have hpl := places_in HR.out (show S ≤ 1073741824 by omega)
      by_cases h1 : places L S r b 1073741824 < n
      · have HF := Lib.hid (next_full HR.out (by omega) h1)
        go_wp2
        go_ret2
        exact ⟨ret_two HF.out, rfl⟩
      · have HF := Lib.hid (next_ok HR.out (by omega) (show n ≤ places L S r b 1073741824 by omega))
        have hli := least_in HR.out (show n ≤ places L S r b 1073741824 by omega)
        have HLI := Lib.hid (fun (t : Int) (hs : S ≤ t) => least_iff (t := t) HR.out (show n ≤ places L S r b 1073741824 by omega) hs)
        obtain ⟨m, hm⟩ : ∃ m, least L S r n = m := ⟨_, rfl⟩
        rw [hm] at HF HLI hli
        clear hm
        go_wp2
        go_loopw [14, 15] (fun lo hi wr => ∃ x y : Int, lo = .int .i64 x ∧ hi = .int .i64 y ∧ (S ≤ x ∧ x ≤ m) ∧ (m ≤ y ∧ y ≤ 1073741824) ∧ w = wr) (fun lo hi _ => (RowKit.intOf hi - RowKit.intOf lo).toNat)
        case atStart => exact ⟨S, 1073741824, rfl, rfl, by omega, by omega, by trivial⟩
        case round =>
          obtain ⟨x, y, rfl, rfl, hx, hy, rfl⟩ := hrel
          by_cases h2 : x < y
          · obtain ⟨k, hk⟩ : ∃ k, k = (x + y) / 2 := ⟨_, rfl⟩
            have hd : (x + y).tdiv 2 = k := by rw [hk]; exact Int.tdiv_eq_ediv_of_nonneg (by omega)
            have hkk : x ≤ k ∧ k < y := by omega
            have H2 := HFR.out k
            rw [free_ok HR.out (show k ≤ 1073741824 by omega) (show S ≤ k by omega)] at H2
            have H2 := Lib.hid H2
            have hit := HLI.out k (by omega)
            clear hk
            go_wp2_with (go_at_call 11; refine (H2.out).mono ?_; rintro e w2 ⟨rfl, rfl⟩; refine Hid.out ?_)
            refine Lib.hid ?_
            by_cases h3 : n ≤ places L S r b k
            · have h4 := hit.1 h3
              clear hit
              go_wp2
              go_roundw
              case rel => exact ⟨x, k, rfl, rfl, by omega, by omega, by trivial⟩
              case measure => (simp [RowKit.intOf]; try omega)
            · have h4 : k < m := by
                refine Classical.byContradiction fun q => h3 (hit.2 (by omega))
              clear hit
              go_wp2
              go_roundw
              case rel => exact ⟨k + 1, y, by go_num, rfl, by omega, by omega, by trivial⟩
              case measure => (simp [RowKit.intOf]; try omega)
          · obtain rfl : x = m := by omega
            go_wp2
            go_ret2
            exact ⟨ret_two HF.out, rfl⟩
end
end Go.Proofs.Ytmlogoaicjdjiaa
