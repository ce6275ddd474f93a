/- Package sat: Forced. -/
import Derived.Test.YtapgcahbccchfaaZso
namespace Go.Proofs.Ytapgcahbccchfaa
open Go.RowKit Go.Maps Go.ChangeMaps Go.MapKept
open St
attribute [local go_sem ↓] Go.wp_at_zero Go.wp_at_succ

/-- The first k, and zeros. -/
noncomputable def fz (l : List Cl) (n k : Nat) : List Int := fcs l (n : Int) k ++ List.replicate (n - k) 0
theorem fz_len {l : List Cl} {n k : Nat} (h : k ≤ n) : (fz l n k).length = n := by unfold fz; rw [List.length_append, fcs_len, List.length_replicate]; omega
theorem fz_set {l : List Cl} {n k : Nat} (h : k < n) {z : Int} (hz : forc l (n : Int) k = z) : (fz l n k).set k z = fz l n (k + 1) := by
  unfold fz
  rw [fcs_next, hz, List.append_assoc, List.set_append_right _ _ (by rw [fcs_len]; exact Nat.le_refl _), fcs_len, Nat.sub_self, show n - k = (n - (k + 1)) + 1 by omega, List.replicate_succ]
  rfl
theorem make_nums (w : World) (N : Nat) (hn : N ≤ 100000) : ∃ w', (Instr.makeSlice 24 (.int .i64 (N : Int)) (.int .i64 (N : Int))).run Try.prog w = .ok (.slice (some ⟨w.heap.size, 0, none⟩) N N) w' ∧ WRow w' w.heap.size (List.replicate N 0) ∧ w.grownBy w' none := by
  obtain ⟨i0, hi, hz0, hz1, hz2⟩ := info_parts int_info
  obtain ⟨w', r1, r2, r3⟩ := run_make_full (P := Try.prog) w 0 24 3 i0 (.int .i64 0) 1 Try.underlying24 hi hz0 hz1 .i64 .i64 N (by rw [hz2]; omega) (by unfold maxLen; omega) (Nat.zero_le _)
  refine ⟨w', r1, ?_, r3⟩
  rw [show (madeCells (Value.int .i64 0).cells (N * 1)).toList = intVs (List.replicate N 0) by
    rw [Nat.mul_one]
    show (madeCells #[Value.int .i64 0] N).toList = _
    rw [toList_madeCells_one]; simp [intVs]] at r2
  exact WRow.of_own r2
theorem forc_1 {l : List Cl} {n k : Nat} (hr : right l (n : Int) = true) (hc : St.Can l (n : Int)) (hk : k < n) (h : St.Reach l (2 * (k : Int) + 1) (2 * (k : Int))) : forc l (n : Int) k = 1 := by
  refine forc_yes.2 ((follows_reach hr hc (by omega)).2 ?_)
  rw [show opp (2 * (k : Int)) = 2 * (k : Int) + 1 by unfold opp; omega]; exact h
theorem forc_0 {l : List Cl} {n k : Nat} (hr : right l (n : Int) = true) (hc : St.Can l (n : Int)) (hk : k < n) (h : St.Reach l (2 * (k : Int)) (2 * (k : Int) + 1)) : forc l (n : Int) k = 0 := by
  refine (forc_no hc (by omega)).2 ((follows_reach hr hc (by omega)).2 ?_)
  rw [show opp (2 * (k : Int) + 1) = 2 * (k : Int) by unfold opp; omega]; exact h
theorem forc_m {l : List Cl} {n k : Nat} (hr : right l (n : Int) = true) (hc : St.Can l (n : Int)) (hk : k < n) (h1 : ¬ St.Reach l (2 * (k : Int) + 1) (2 * (k : Int))) (h2 : ¬ St.Reach l (2 * (k : Int)) (2 * (k : Int) + 1)) : forc l (n : Int) k = -1 := by
  unfold forc
  rw [if_neg, if_neg]
  · rw [follows_reach hr hc (by omega), show opp (2 * (k : Int) + 1) = 2 * (k : Int) by unfold opp; omega]; exact h2
  · rw [follows_reach hr hc (by omega), show opp (2 * (k : Int)) = 2 * (k : Int) + 1 by unfold opp; omega]; exact h1
section
variable {w : World}
set_option maxHeartbeats 4000000 in
set_option maxRecDepth 100000 in
theorem p_forced {v : Value} {l : List Cl} {n : Int} (hv : ClAt w v l) (hl : l.length ≤ 2000) :
    Calls Try.prog 18 #[v, .int .i64 n] w (Forces w l n) := by
  have HV := Lib.hid hv
  have HQ := p_right (n := n) hv (by omega)
  obtain ⟨a, cap, hva⟩ := hv.slice
  subst hva
  clear hv
  unfold Forces
  cases hr : right l n with
  | false =>
    have HR := Lib.hid (forced_arg hr)
    rw [hr] at HQ
    have HQ := Lib.hid HQ
    clear hr
    rw [HR.out]
    go_enter Try.func18, Try.ntmps18
    go_wp2_with (go_at_call 9; refine (HQ.out).mono ?_; rintro e w2 ⟨rfl, b2⟩; refine Hid.out ?_)
    refine Lib.hid ?_
    have HB := Lib.hid b2
    go_wp2
    go_ret2
    exact ⟨_, rfl, NumsAt.nil _, HB.out⟩
  | true =>
    have hn := (right_iff.1 hr).1
    obtain ⟨m, rfl⟩ : ∃ m : Nat, n = (m : Int) := ⟨n.toNat, by omega⟩
    have HRI := Lib.hid hr
    have hin := Lib.hid (right_iff.1 hr).2.2
    rw [hr] at HQ
    have HQ := Lib.hid HQ
    clear hr
    have q24 := neq_nil
    generalize hfo : forced l (m : Int) = R
    have HFO := Lib.hid hfo
    clear hfo
    go_enter Try.func18, Try.ntmps18
    go_wp2_with (go_at_call 9; refine (HQ.out).mono ?_; rintro e w2 ⟨rfl, b2⟩; refine Hid.out ?_)
    refine Lib.hid ?_
    have HB := Lib.hid b2
    have HI := Lib.hid (p_impl (HV.out.keep b2) hl hn.2 hin.out)
    clear b2 HQ
    go_wp2_with (go_at_call 26; refine (HI.out).mono ?_; rintro e w3 ⟨mb, rfl, him, b3⟩; refine Hid.out ?_)
    refine Lib.hid ?_
    have HB3 := Lib.hid (HB.out.trans (b3.mono HB.out.size))
    have HIM := Lib.hid him
    have HD := Lib.hid (p_dec (n := m) him HRI.out hl)
    clear b3 HI him
    go_wp2_with (go_at_call 32; refine (HD.out).mono ?_; rintro e w4 ⟨da, db, rfl, b4, hdec⟩; refine Hid.out ?_)
    refine Lib.hid ?_
    have HB4 := Lib.hid (HB3.out.trans (b4.mono HB3.out.size))
    have HIM4 := Lib.hid (HIM.out.keep b4)
    rcases hdec with ⟨vs, rfl, hvs, hfst⟩ | ⟨a4, m4, c4, cy, rfl, rfl, hcy, href⟩
    · have HC := Lib.hid (show St.Can l (m : Int) from ⟨vs, hfst.ok⟩)
      obtain ⟨w5, r5, o5, g5⟩ := make_nums w4 m (by omega)
      have HR5 := Lib.hid (show WRow w5 w4.heap.size (fz l m 0) by
        have : fz l m 0 = List.replicate m 0 := by simp [fz, fcs]
        rw [this]; exact o5)
      have G5 := Lib.hid g5
      clear b4 hvs hfst HD o5 g5
      go_wp2
      have HB0 := Lib.hid (show Below w4.heap.size w4 w5 from below_grown (Below.refl _ _) G5.out fun x hx => by cases hx)
      generalize hG : w4.heap.size = G at HR5 ⊢
      have HG := Lib.hid hG
      clear hG
      go_loopw [30] (fun i wr => ∃ k : Nat, k ≤ m ∧ i = .int .i64 k ∧ Hid (WRow wr G (fz l m k)) ∧ Hid (Below w4.heap.size w4 wr)) (fun i _ => m - (RowKit.intOf i).toNat)
      case atStart => exact ⟨0, Nat.zero_le _, rfl, HR5, HB0⟩
      case round =>
        clear HR5 HB0
        obtain ⟨k, hk, rfl, HRK, HBK⟩ := hrel
        by_cases hlt : k < m
        · have HIr := Lib.hid (HIM4.out.keep HBK.out)
          have HS1 := Lib.hid (p_search (first := 2 * (k : Int) + 1) HIr.out HRI.out hl (by omega))
          go_wp2_with (go_at_call 34; refine (HS1.out).mono ?_; rintro e w6 ⟨g1, T1, rfl, r1, f1, b1, hg1⟩; refine Hid.out ?_)
          refine Lib.hid ?_
          have HIr2 := Lib.hid (HIr.out.keep b1)
          have HBK2 := Lib.hid (HBK.out.trans (b1.mono HBK.out.size))
          have HRK2 := Lib.hid (HRK.out.block (b1.block _ HRK.out.lt))
          obtain ⟨p, hp, hpr⟩ := f1.has (x := 2 * k) (by omega)
          have hTl := f1.len
          have HH := p_has (x := 2 * (k : Int)) (p := p) (T := T1) (t := .slice (some ⟨g1, 0, none⟩) (2 * m) (2 * m)) (by rw [← hTl]; exact r1.nums (by omega)) (by omega) (by omega) (by rw [← hp]; congr 1)
          clear hp hTl r1 f1 b1 HS1
          by_cases hr1 : St.Reach l (2 * (k : Int) + 1) (2 * (k : Int))
          · rw [decide_eq_true (hpr.2 (by rw [show ((2 * k : Nat) : Int) = 2 * (k : Int) by omega]; exact hr1))] at HH
            have HH := Lib.hid HH
            have HFC := Lib.hid (forc_1 HRI.out HC.out hlt hr1)
            clear hr1 hpr
            go_wp2_with (go_at_call 35; refine (HH.out).mono ?_; rintro e w7 ⟨rfl, rfl⟩; refine Hid.out ?_)
            refine Lib.hid ?_
            have HR5 := Lib.hid (show WRow (w7.setCell ⟨G, k, none⟩ (.int .i64 (1))) G (fz l m (k + 1)) by
              have := (HRK2.out).set k (1)
              rwa [fz_set hlt HFC.out] at this)
            have HB5 := Lib.hid (below_grown HBK2.out (grown_cell w7 G k (.int .i64 (1))) fun x hx => by cases hx; rw [HG.out]; exact Nat.le_refl _)
            obtain ⟨zo, hzo⟩ : ∃ zo, (fz l m k)[k]? = some zo := ⟨_, List.getElem?_eq_getElem (by rw [fz_len (by omega)]; omega)⟩
            have d0 := ((HRK2.out).cell hzo).1
            have d1 := ((HRK2.out).cell hzo).2
            clear hzo
            go_wp2
            go_roundw
            case rel => exact ⟨k + 1, by omega, by go_num, HR5, HB5⟩
            case measure => (simp [RowKit.intOf]; try omega)
          · rw [decide_eq_false (fun h => hr1 (by have := hpr.1 h; rwa [show ((2 * k : Nat) : Int) = 2 * (k : Int) by omega] at this))] at HH
            have HH := Lib.hid HH
            have HN1 := Lib.hid hr1
            clear hr1 hpr
            go_wp2_with (go_at_call 35; refine (HH.out).mono ?_; rintro e w7 ⟨rfl, rfl⟩; refine Hid.out ?_)
            refine Lib.hid ?_
            have HS2 := Lib.hid (p_search (first := 2 * (k : Int)) HIr2.out HRI.out hl (by omega))
            clear HH
            go_wp2_with (go_at_call 34; refine (HS2.out).mono ?_; rintro e w8 ⟨g2, T2, rfl, r2, f2, b2, hg2⟩; refine Hid.out ?_)
            refine Lib.hid ?_
            have HBK3 := Lib.hid (HBK2.out.trans (b2.mono HBK2.out.size))
            have HRK3 := Lib.hid (HRK2.out.block (b2.block _ HRK2.out.lt))
            obtain ⟨p, hp, hpr⟩ := f2.has (x := 2 * k + 1) (by omega)
            have hTl := f2.len
            have HH := p_has (x := 2 * (k : Int) + 1) (p := p) (T := T2) (t := .slice (some ⟨g2, 0, none⟩) (2 * m) (2 * m)) (by rw [← hTl]; exact r2.nums (by omega)) (by omega) (by omega) (by rw [← hp]; congr 1)
            clear hp hTl r2 f2 b2 HS2
            by_cases hr2 : St.Reach l (2 * (k : Int)) (2 * (k : Int) + 1)
            · rw [decide_eq_true (hpr.2 (by rw [show ((2 * k + 1 : Nat) : Int) = 2 * (k : Int) + 1 by omega]; exact hr2))] at HH
              have HH := Lib.hid HH
              have HFC := Lib.hid (forc_0 HRI.out HC.out hlt hr2)
              clear hr2 hpr
              go_wp2_with (go_at_call 35; refine (HH.out).mono ?_; rintro e w9 ⟨rfl, rfl⟩; refine Hid.out ?_)
              refine Lib.hid ?_
              have HR5 := Lib.hid (show WRow (w9.setCell ⟨G, k, none⟩ (.int .i64 (0))) G (fz l m (k + 1)) by
                have := (HRK3.out).set k (0)
                rwa [fz_set hlt HFC.out] at this)
              have HB5 := Lib.hid (below_grown HBK3.out (grown_cell w9 G k (.int .i64 (0))) fun x hx => by cases hx; rw [HG.out]; exact Nat.le_refl _)
              obtain ⟨zo, hzo⟩ : ∃ zo, (fz l m k)[k]? = some zo := ⟨_, List.getElem?_eq_getElem (by rw [fz_len (by omega)]; omega)⟩
              have d0 := ((HRK3.out).cell hzo).1
              have d1 := ((HRK3.out).cell hzo).2
              clear hzo
              go_wp2
              go_roundw
              case rel => exact ⟨k + 1, by omega, by go_num, HR5, HB5⟩
              case measure => (simp [RowKit.intOf]; try omega)
            · rw [decide_eq_false (fun h => hr2 (by have := hpr.1 h; rwa [show ((2 * k + 1 : Nat) : Int) = 2 * (k : Int) + 1 by omega] at this))] at HH
              have HH := Lib.hid HH
              have HFC := Lib.hid (forc_m HRI.out HC.out hlt HN1.out hr2)
              clear hr2 hpr
              go_wp2_with (go_at_call 35; refine (HH.out).mono ?_; rintro e w9 ⟨rfl, rfl⟩; refine Hid.out ?_)
              refine Lib.hid ?_
              have HR5 := Lib.hid (show WRow (w9.setCell ⟨G, k, none⟩ (.int .i64 (-1))) G (fz l m (k + 1)) by
                have := (HRK3.out).set k (-1)
                rwa [fz_set hlt HFC.out] at this)
              have HB5 := Lib.hid (below_grown HBK3.out (grown_cell w9 G k (.int .i64 (-1))) fun x hx => by cases hx; rw [HG.out]; exact Nat.le_refl _)
              obtain ⟨zo, hzo⟩ : ∃ zo, (fz l m k)[k]? = some zo := ⟨_, List.getElem?_eq_getElem (by rw [fz_len (by omega)]; omega)⟩
              have d0 := ((HRK3.out).cell hzo).1
              have d1 := ((HRK3.out).cell hzo).2
              clear hzo
              go_wp2
              go_roundw
              case rel => exact ⟨k + 1, by omega, by go_num, HR5, HB5⟩
              case measure => (simp [RowKit.intOf]; try omega)
        · obtain rfl : k = m := by omega
          have hfz : fz l k k = (forced l (k : Int)).1 := by rw [forced_ok HC.out]; simp [fz, fcs]
          have HF := Lib.hid (show R = (fz l k k, 0) by rw [← HFO.out, hfz, forced_ok HC.out])
          have HU := Lib.hid (show NumsAt wr (.slice (some ⟨G, 0, none⟩) k k) (fz l k k) by have := HRK.out.nums (by rw [fz_len (Nat.le_refl _)]; omega); rwa [fz_len (Nat.le_refl _)] at this)
          have HE := Lib.hid (HB4.out.trans (HBK.out.mono HB4.out.size))
          have hR := HF.out
          subst hR
          clear hfz
          go_wp2
          go_ret2
          exact ⟨_, rfl, HU.out, HE.out⟩
    · have HF := Lib.hid (forced_uns HRI.out (refute_can href))
      have HRR : R = ([], 17) := by rw [← HFO.out, HF.out]
      subst HRR
      clear b4 hcy href HD
      go_wp2
      go_ret2
      exact ⟨_, rfl, NumsAt.nil _, HB4.out⟩
end
end Go.Proofs.Ytapgcahbccchfaa
