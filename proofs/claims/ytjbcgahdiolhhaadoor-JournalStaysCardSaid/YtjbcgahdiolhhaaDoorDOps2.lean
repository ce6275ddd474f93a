/- Sync, Truncate. -/
import Derived.Test.YtjbcgahdiolhhaaDoorDOps
namespace Go.Proofs.YtjbcgahdiolhhaaDoor.D2
open Go.RowKit Go.Maps Go.ChangeMaps Go.MapKept
open Dp
attribute [local go_sem ↓] Go.wp_at_zero Go.wp_at_succ

section
variable {w : World} {lab : Nat → Nat} {id b : Nat} {D : Dk} {L : Loc}

set_option maxHeartbeats 2000000 in
set_option maxRecDepth 100000 in
theorem sync_any (h : DiskIn w lab id b D D.pend L) (hin : D.In) (f : Int) (hf : I64 f) :
    Calls Tryd.prog 34 #[.pointer (some ⟨b, 0, none⟩), .int .i64 f] w (ResPost lab id b (.int .i64 (D.sync f).1) (D.sync f).2 w) := by
  have c3 := h.c 3
  simp only [List.getElem?_toArray, List.getElem?_cons_zero, List.getElem?_cons_succ] at c3
  cases hd : D.down with
  | true =>
    have hw : D.sync f = (eDown, D) := by simp [Dk.sync, hd]
    rw [hw]
    rw [hd] at c3
    refine res_same h _ ?_
    clear h hin hf hw
    go_enter Tryd.func34, Tryd.ntmps34
    go_wp2
    go_ret
    exact ⟨rfl, rfl⟩
  | false =>
    rw [hd] at c3
    have H := Lib.hid h
    have HI := Lib.hid hin
    have HF := Lib.hid hf
    have HW := Lib.hid (show D.sync f = if D.strike.1 then (eDown, D.strike.2) else if isFile f = false then (eArg, D.strike.2) else if 0 < D.strike.2.lost then (eLost, { D.strike.2 with lost := D.strike.2.lost - 1 }) else (eOK, D.strike.2.settle f.toNat) by simp [Dk.sync, hd])
    clear h hin hf hd
    cases hst : D.strike.1 with
    | true =>
      have HST := Lib.hid hst
      clear hst
      go_enter Tryd.func34, Tryd.ntmps34
      go_wp2_with (go_at_call 43; ((with_reducible refine (strike_any H.out HI.out).mono ?_); rintro e w2 ⟨rfl, lab2, L2, h2, k2⟩; have H2 := Lib.hid h2; have K2 := Lib.hid k2; clear h2 k2; refine Hid.out ?_))
      refine Lib.hid ?_
      rw [HST.out]
      go_wp2
      go_ret
      exact ⟨by rw [HW.out, if_pos HST.out]; rfl, lab2, L2, by rw [HW.out, if_pos HST.out]; exact H2.out, K2.out⟩
    | false =>
      have HST := Lib.hid (show ¬ (D.strike.1 = true) by rw [hst]; simp)
      have HST2 := Lib.hid hst
      have HI2 := Lib.hid (in_strike HI.out)
      clear hst
      go_enter Tryd.func34, Tryd.ntmps34
      go_wp2_with (go_at_call 43; ((with_reducible refine (strike_any H.out HI.out).mono ?_); rintro e w2 ⟨rfl, lab2, L2, h2, k2⟩; have H2 := Lib.hid h2; have K2 := Lib.hid k2; clear h2 k2; refine Hid.out ?_))
      refine Lib.hid ?_
      rw [HST2.out]
      generalize D.strike.2 = D2 at H2 HW HI2
      have c0 := H2.out.c 0
      have c4 := H2.out.c 4
      have f4 := H2.out.fz 4
      simp only [List.getElem?_toArray, List.getElem?_cons_zero, List.getElem?_cons_succ] at c0 c4
      have hl := H2.out.lookF HF.out
      cases hi : isFile f with
      | false =>
        rw [if_neg (isFile_false hi)] at hl
        have HR := Lib.hid (show D.sync f = (eArg, D2) by rw [HW.out, if_neg HST.out, if_pos hi])
        clear hi
        go_wp2
        go_ret
        exact ⟨by rw [HR.out]; rfl, lab2, L2, by rw [HR.out]; exact H2.out, K2.out⟩
      | true =>
        rw [if_pos (isFile_true hi)] at hl
        have h16 := isFile_true hi
        have hin2 : ¬ (isFile f = false) := by rw [hi]; simp
        rcases Nat.eq_zero_or_pos D2.lost with h0 | h0
        · have HR := Lib.hid (show D.sync f = (eOK, D2.settle f.toNat) by rw [HW.out, if_neg HST.out, if_neg hin2, if_neg (by omega)])
          rw [h0] at c4
          obtain ⟨fn, rfl⟩ : ∃ n : Nat, f = (n : Int) := ⟨f.toNat, by omega⟩
          rw [Int.toNat_natCast] at HR hl
          have hf16 : fn < 16 := by omega
          clear hi hin2 h0
          go_wp2_with (go_at_call 50; ((with_reducible refine (settle_any H2.out HI2.out fn hf16).mono ?_); rintro e w3 ⟨rfl, lab3, L3, h3, k3⟩; have H3 := Lib.hid h3; have K3 := Lib.hid k3; clear h3 k3))
          go_ret
          exact ⟨by rw [HR.out]; rfl, lab3, L3, by rw [HR.out]; exact H3.out, K2.out.trans K3.out⟩
        · have HR := Lib.hid (show D.sync f = (eLost, { D2 with lost := D2.lost - 1 }) by rw [HW.out, if_neg HST.out, if_neg hin2, if_pos h0])
          obtain ⟨c, hc⟩ : ∃ c : Nat, D2.lost = c + 1 := ⟨D2.lost - 1, by omega⟩
          have hcl := H2.out.ok.lost
          rw [hc, show ((c + 1 : Nat) : Int) = (c : Int) + 1 by omega] at c4 hcl
          rw [hc, Nat.add_sub_cancel] at HR
          obtain ⟨h3, k3⟩ := H2.out.setField (D' := { D2 with lost := c }) (i := 4) (v := .int .i64 (c : Int)) (Hp.refl _) ⟨H2.out.ok.now, H2.out.ok.dur, H2.out.ok.pend, H2.out.ok.few, by have : ({ D2 with lost := c } : Dk).lost = c := rfl; rw [this]; omega, H2.out.ok.calls, H2.out.ok.keep, H2.out.ok.size⟩ rfl rfl rfl rfl rfl
          have H3 := Lib.hid h3
          have K3 := Lib.hid k3
          have g3 : (0 : Int) < (c : Int) + 1 := by omega
          have g4 : decide ((0 : Int) < (c : Int) + 1) = true := decide_eq_true g3
          clear hi hin2 h0 hc h3 k3
          go_wp2
          go_ret
          exact ⟨by rw [HR.out]; rfl, lab2, L2, by rw [HR.out]; exact H3.out, K2.out.trans K3.out⟩
end
end Go.Proofs.YtjbcgahdiolhhaaDoor.D2
