/- The reference: Forced. -/
import Derived.Test.YtapgcahbccchfaaQe
namespace Go.Proofs.Ytapgcahbccchfaa
open Go.RowKit Go.Maps Go.ChangeMaps Go.MapKept
open St
attribute [local go_sem ↓] Go.wp_at_zero Go.wp_at_succ

open Classical in
theorem forced_arg {l : List Cl} {n : Int} (h : right l n = false) : forced l n = ([], 1) := by unfold forced; rw [h]; rfl
open Classical in
theorem forced_uns {l : List Cl} {n : Int} (h : right l n = true) (h2 : ¬ St.Can l n) : forced l n = ([], 17) := by unfold forced; rw [if_pos h, if_neg h2]
open Classical in
theorem forced_ok {l : List Cl} {n : Int} (h2 : St.Can l n) : forced l n = ((List.range n.toNat).map (forc l n), 0) := by
  obtain ⟨b, hb⟩ := h2
  unfold forced; rw [if_pos (check_iff.1 hb).1, if_pos ⟨b, hb⟩]
noncomputable def fcs (l : List Cl) (n : Int) (k : Nat) : List Int := (List.range k).map (forc l n)
theorem fcs_next (l : List Cl) (n : Int) (k : Nat) : fcs l n (k + 1) = fcs l n k ++ [forc l n k] := by simp [fcs, List.range_succ]
theorem fcs_len (l : List Cl) (n : Int) (k : Nat) : (fcs l n k).length = k := by simp [fcs]
section
variable {w : World}
set_option maxHeartbeats 4000000 in
set_option maxRecDepth 100000 in
theorem q_forced {v : Value} {l : List Cl} {n : Int} (hv : ClAt w v l) (hl : l.length ≤ 100000) (hn : n ≤ 9 ∨ 400 < n) :
    Calls Try.prog 20 #[v, .int .i64 n] w fun e w' => ∃ u, e = .returned (.tuple #[u, .int .i64 (forced l n).2]) ∧ NumsAt w' u (forced l n).1 ∧ Below w.heap.size w w' := by
  have HV := Lib.hid hv
  have HQ := Lib.hid (q_right (n := n) hv hl)
  go_enter Try.func20, Try.ntmps20
  cases hr : right l n with
  | false =>
    have HR := Lib.hid (forced_arg hr)
    rw [hr] at HQ
    clear hr
    go_wp2_with (go_at_call 10; refine (HQ.out).mono ?_; rintro e w2 ⟨rfl, rfl⟩; refine Hid.out ?_)
    refine Lib.hid ?_
    go_wp2
    go_ret2
    rw [HR.out]
    exact ⟨_, rfl, NumsAt.nil _, Below.refl _ _⟩
  | true =>
    have HRI := Lib.hid hr
    have hn2 := (right_iff.1 hr).1
    rw [hr] at HQ
    clear hr
    obtain ⟨m, rfl⟩ : ∃ m : Nat, n = (m : Int) := ⟨n.toNat, by omega⟩
    have hm : m ≤ 9 := by omega
    go_wp2_with (go_at_call 10; refine (HQ.out).mono ?_; rintro e w2 ⟨rfl, rfl⟩; refine Hid.out ?_)
    refine Lib.hid ?_
    have H1 := Lib.hid (q_first (n := m) HV.out hl hm)
    clear HQ
    go_wp2_with (go_at_call 19; refine (H1.out).mono ?_; rintro e w3 ⟨t, vs, f, rfl, ht, b3, hf⟩; refine Hid.out ?_)
    refine Lib.hid ?_
    have B3 := Lib.hid b3
    clear H1 ht b3
    rcases hf with ⟨rfl, hf⟩ | ⟨rfl, rfl, hf⟩
    · have HFO := Lib.hid (forced_ok hf.can)
      have M0 := Lib.hid ((OMem.start w3).rowNil 3 1)
      clear hf
      go_wp2
      go_loopw [8, 9] (fun o i wr => ∃ (k : Nat) (oa : Option Addr) (oc : Nat), k ≤ m ∧ i = .int .i64 k ∧ o = .slice oa (fcs l (m : Int) k).length oc ∧ OMem w3 wr [.row 3 1 (.slice oa (fcs l (m : Int) k).length oc) (fcs l (m : Int) k).length (intVs (fcs l (m : Int) k))]) (fun _ i _ => m - (RowKit.intOf i).toNat)
      case atStart => exact ⟨0, none, 0, Nat.zero_le _, rfl, rfl, M0.out⟩
      case round =>
        obtain ⟨k, oa, oc, hk, rfl, rfl, mm⟩ := hrel
        by_cases hlt : k < m
        · have M := Lib.hid mm
          have ba := (Below.refl wr.heap.size wr).alloc (Nat.le_refl _) (.cells #[.int .i64 (2 * (k : Int))] 3)
          have H1 := q_follows (n := (m : Int)) (HV.out.keep (B3.out.trans ((mm.fresh ba).below.mono B3.out.size))) hl (nums_one wr (2 * (k : Int))) (by simp) (.inl (by omega))
          cases hy : follows l (m : Int) [2 * (k : Int)] with
          | true =>
            rw [hy] at H1
            have HF := Lib.hid (forc_yes.2 hy)
            have H1 := Lib.hid H1
            have BA := Lib.hid ba
            clear ba hy mm
            go_wp2_with (go_at_call 16; refine (H1.out).mono ?_; rintro e w5 ⟨rfl, b5⟩; refine Hid.out ?_)
            refine Lib.hid ?_
            have M6 := Lib.hid ((M.out.fresh BA.out).fresh b5)
            clear b5 H1 M
            obtain ⟨ya, yc, w9, r9, m9⟩ := M6.out.pushN (i := 0) rfl (1) (by rw [fcs_len]; omega)
            have M9 := Lib.hid m9
            have R9 := Lib.hid r9
            clear m9 r9
            go_wp2_with (at_builtin; refine Hid.out ?_)
            refine Lib.hid ?_
            refine Lib.wpList_append_run _ rfl _ _ _ _ rfl _ _ rfl rfl _ _ R9.out ?_
            go_wp2
            go_roundw
            case rel => exact ⟨k + 1, ya, yc, by omega, by go_num, by rw [fcs_len, fcs_len], by have := M9.out; rw [← HF.out, ← fcs_next, fcs_len] at this; rw [fcs_len]; exact this⟩
            case measure => (simp [RowKit.intOf]; try omega)
          | false =>
            rw [hy] at H1
            have H1 := Lib.hid H1
            have BA := Lib.hid ba
            clear ba mm
            go_wp2_with (go_at_call 16; refine (H1.out).mono ?_; rintro e w5 ⟨rfl, b5⟩; refine Hid.out ?_)
            refine Lib.hid ?_
            have M5 := Lib.hid ((M.out.fresh BA.out).fresh b5)
            have ba := (Below.refl w5.heap.size w5).alloc (Nat.le_refl _) (.cells #[.int .i64 (2 * (k : Int) + 1)] 3)
            have H1 := q_follows (n := (m : Int)) (HV.out.keep (B3.out.trans ((M5.out.fresh ba).below.mono B3.out.size))) hl (nums_one w5 (2 * (k : Int) + 1)) (by simp) (.inl (by omega))
            clear b5 M BA
            cases hy2 : follows l (m : Int) [2 * (k : Int) + 1] with
            | true =>
              rw [hy2] at H1
              have HF := Lib.hid (show forc l (m : Int) k = 0 by unfold forc; rw [hy, hy2]; rfl)
              have H1 := Lib.hid H1
              have BA := Lib.hid ba
              clear ba hy hy2
              go_wp2_with (go_at_call 16; refine (H1.out).mono ?_; rintro e w6 ⟨rfl, b6⟩; refine Hid.out ?_)
              refine Lib.hid ?_
              have M6 := Lib.hid ((M5.out.fresh BA.out).fresh b6)
              clear b6 H1 M5
              obtain ⟨ya, yc, w9, r9, m9⟩ := M6.out.pushN (i := 0) rfl (0) (by rw [fcs_len]; omega)
              have M9 := Lib.hid m9
              have R9 := Lib.hid r9
              clear m9 r9
              go_wp2_with (at_builtin; refine Hid.out ?_)
              refine Lib.hid ?_
              refine Lib.wpList_append_run _ rfl _ _ _ _ rfl _ _ rfl rfl _ _ R9.out ?_
              go_wp2
              go_roundw
              case rel => exact ⟨k + 1, ya, yc, by omega, by go_num, by rw [fcs_len, fcs_len], by have := M9.out; rw [← HF.out, ← fcs_next, fcs_len] at this; rw [fcs_len]; exact this⟩
              case measure => (simp [RowKit.intOf]; try omega)
            | false =>
              rw [hy2] at H1
              have HF := Lib.hid (show forc l (m : Int) k = -1 by unfold forc; rw [hy, hy2]; rfl)
              have H1 := Lib.hid H1
              have BA := Lib.hid ba
              clear ba hy hy2
              go_wp2_with (go_at_call 16; refine (H1.out).mono ?_; rintro e w6 ⟨rfl, b6⟩; refine Hid.out ?_)
              refine Lib.hid ?_
              have M6 := Lib.hid ((M5.out.fresh BA.out).fresh b6)
              clear b6 H1 M5
              obtain ⟨ya, yc, w9, r9, m9⟩ := M6.out.pushN (i := 0) rfl (-1) (by rw [fcs_len]; omega)
              have M9 := Lib.hid m9
              have R9 := Lib.hid r9
              clear m9 r9
              go_wp2_with (at_builtin; refine Hid.out ?_)
              refine Lib.hid ?_
              refine Lib.wpList_append_run _ rfl _ _ _ _ rfl _ _ rfl rfl _ _ R9.out ?_
              go_wp2
              go_roundw
              case rel => exact ⟨k + 1, ya, yc, by omega, by go_num, by rw [fcs_len, fcs_len], by have := M9.out; rw [← HF.out, ← fcs_next, fcs_len] at this; rw [fcs_len]; exact this⟩
              case measure => (simp [RowKit.intOf]; try omega)
        · obtain rfl : k = m := by omega
          have HN := Lib.hid (NumsAt.of_own (mm.rowAt (i := 0) rfl))
          have HB := Lib.hid (B3.out.trans (mm.below.mono B3.out.size))
          clear mm
          go_wp2
          go_ret2
          rw [HFO.out]
          exact ⟨_, rfl, by rw [Int.toNat_natCast]; exact HN.out, HB.out⟩
    · have HR := Lib.hid (forced_uns HRI.out hf)
      clear hf
      go_wp2
      go_ret2
      rw [HR.out]
      exact ⟨_, rfl, NumsAt.nil _, B3.out⟩
end
end Go.Proofs.Ytapgcahbccchfaa
