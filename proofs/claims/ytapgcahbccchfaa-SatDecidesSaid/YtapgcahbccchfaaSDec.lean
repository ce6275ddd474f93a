/- The walk of SatDecides. -/
import Derived.Test.YtapgcahbccchfaaSSmall
namespace Go.Proofs.Ytapgcahbccchfaa
open Go.RowKit Go.Maps Go.ChangeMaps Go.MapKept
open St
attribute [local go_sem ↓] Go.wp_at_zero Go.wp_at_succ

set_option maxHeartbeats 4000000 in
set_option maxRecDepth 100000 in
theorem decides_walk (A : SApi) {w : World} {v u t : Value} {l : List Cl} {n : Int} {vs : List Bool} {cy : List Int} (hv : ClAt w v l) (hn : I64 n) (hu : BoolsAt w u vs) (ht : NumsAt w t cy) :
    Calls Try.prog 4 #[v, .int .i64 n, u, t] w fun e w' => e = .returned (.bool true) ∧ Below w.heap.size w w' := by
  have HV := Lib.hid hv
  have HU := Lib.hid hu
  have HT := Lib.hid ht
  have HN := Lib.hid hn
  obtain ⟨va, vc, rfl⟩ := hv.slice
  obtain ⟨ua, uc, rfl⟩ := hu.slice
  obtain ⟨ta, tc, rfl⟩ := ht.slice
  clear hu ht hn hv
  by_cases h1 : 120 < l.length
  · have h1' : (120 : Int) < (l.length : Int) := by omega
    go_enter Try.func4, Try.ntmps4
    go_wp2_with (go_at_call 8; refine (small_any A _).mono ?_; rintro e w1 ⟨rfl, m1⟩; refine Hid.out ?_)
    refine Lib.hid ?_
    have B1 := Lib.hid m1
    clear m1
    go_wp2
    go_ret
    exact ⟨rfl, B1.out⟩
  · have h1' : ¬ (120 : Int) < (l.length : Int) := by omega
    by_cases h2 : 60 < n
    · go_enter Try.func4, Try.ntmps4
      go_wp2_with (go_at_call 8; refine (small_any A _).mono ?_; rintro e w1 ⟨rfl, m1⟩; refine Hid.out ?_)
      refine Lib.hid ?_
      have B1 := Lib.hid m1
      clear m1
      go_wp2
      go_ret
      exact ⟨rfl, B1.out⟩
    · by_cases h3 : 60 < vs.length
      · have h3' : (60 : Int) < (vs.length : Int) := by omega
        go_enter Try.func4, Try.ntmps4
        go_wp2_with (go_at_call 8; refine (small_any A _).mono ?_; rintro e w1 ⟨rfl, m1⟩; refine Hid.out ?_)
        refine Lib.hid ?_
        have B1 := Lib.hid m1
        clear m1
        go_wp2
        go_ret
        exact ⟨rfl, B1.out⟩
      · have h3' : ¬ (60 : Int) < (vs.length : Int) := by omega
        by_cases h4 : 250 < cy.length
        · have h4' : (250 : Int) < (cy.length : Int) := by omega
          go_enter Try.func4, Try.ntmps4
          go_wp2_with (go_at_call 8; refine (small_any A _).mono ?_; rintro e w1 ⟨rfl, m1⟩; refine Hid.out ?_)
          refine Lib.hid ?_
          have B1 := Lib.hid m1
          clear m1
          go_wp2
          go_ret
          exact ⟨rfl, B1.out⟩
        · have h4' : ¬ (250 : Int) < (cy.length : Int) := by omega
          go_enter Try.func4, Try.ntmps4
          go_wp2_with (go_at_call 8; refine (small_any A _).mono ?_; rintro e w1 ⟨rfl, m1⟩; refine Hid.out ?_)
          refine Lib.hid ?_
          have B1 := Lib.hid m1
          clear m1
          have HV := Lib.hid (HV.out.keep B1.out)
          have HU := Lib.hid (HU.out.keep B1.out)
          have HT := Lib.hid (HT.out.keep B1.out)
          have HR := q_right (n := n) HV.out (by omega)
          cases hr : right l n with
          | false =>
            rw [hr] at HR
            have HR := Lib.hid HR
            clear hr
            go_wp2_with (go_at_call 10; refine (HR.out).mono ?_; rintro e w2 ⟨rfl, rfl⟩; refine Hid.out ?_)
            refine Lib.hid ?_
            go_wp2
            go_ret
            exact ⟨rfl, B1.out⟩
          | true =>
            rw [hr] at HR
            have HRI := Lib.hid hr
            have HR := Lib.hid HR
            clear hr
            go_wp2_with (go_at_call 10; refine (HR.out).mono ?_; rintro e w2 ⟨rfl, rfl⟩; refine Hid.out ?_)
            refine Lib.hid ?_
            have HS := Lib.hid (A.solve_ HV.out (by omega) HN.out)
            clear HR
            go_wp2_with (go_at_call 17; refine (HS.out).mono ?_; rintro e w3 ⟨ra, rc, sv, cs, er, rfl, has, hcs, b3, hsol⟩; refine Hid.out ?_)
            refine Lib.hid ?_
            have HV := Lib.hid (HV.out.keep b3)
            have HU := Lib.hid (HU.out.keep b3)
            have HT := Lib.hid (HT.out.keep b3)
            have B3 := Lib.hid (B1.out.trans (b3.mono B1.out.size))
            clear b3 HS
            obtain ⟨a1, a2, rfl⟩ := has.slice
            obtain ⟨c1, c2, rfl⟩ := hcs.slice
            rcases hsol with ⟨hno, -⟩ | ⟨hf, rfl, rfl⟩ | ⟨-, hno, rfl, href, rfl⟩
            · rw [HRI.out] at hno; cases hno
            · have hln := len_of hf.ok
              have H1 := A.check_ HV.out (by omega) HN.out has (by omega)
              rw [hf.ok] at H1
              have H1 := Lib.hid H1
              have HRN := Lib.hid (refute_not (cy := cy) hf.ok)
              clear has hcs hf hln
              go_wp2_with (go_at_call 11; refine (H1.out).mono ?_; rintro e w4 ⟨rfl, b4⟩; refine Hid.out ?_)
              refine Lib.hid ?_
              have HV := Lib.hid (HV.out.keep b4)
              have HU := Lib.hid (HU.out.keep b4)
              have HT := Lib.hid (HT.out.keep b4)
              have B4 := Lib.hid (B3.out.trans (b4.mono B3.out.size))
              have H1 := A.refute_ (n := n) HV.out (by omega) HN.out HT.out (by omega)
              rw [HRN.out] at H1
              have H1 := Lib.hid H1
              clear b4 B3
              go_wp2_with (go_at_call 13; refine (H1.out).mono ?_; rintro e w5 ⟨rfl, b5⟩; refine Hid.out ?_)
              refine Lib.hid ?_
              have HV := Lib.hid (HV.out.keep b5)
              have HU := Lib.hid (HU.out.keep b5)
              have HT := Lib.hid (HT.out.keep b5)
              have B5 := Lib.hid (B4.out.trans (b5.mono B4.out.size))
              have H1 := A.check_ (n := n) HV.out (by omega) HN.out HU.out (by omega)
              clear b5 B4
              cases hc : check l n vs with
              | false =>
                rw [hc] at H1
                have H1 := Lib.hid H1
                clear hc
                go_wp2_with (go_at_call 11; refine (H1.out).mono ?_; rintro e w6 ⟨rfl, b6⟩; refine Hid.out ?_)
                refine Lib.hid ?_
                have B6 := Lib.hid (B5.out.trans (b6.mono B5.out.size))
                clear b6
                go_wp2
                go_ret
                exact ⟨rfl, B6.out⟩
              | true =>
                rw [hc] at H1
                have H1 := Lib.hid H1
                clear hc
                go_wp2_with (go_at_call 11; refine (H1.out).mono ?_; rintro e w6 ⟨rfl, b6⟩; refine Hid.out ?_)
                refine Lib.hid ?_
                have HV := Lib.hid (HV.out.keep b6)
                have HT := Lib.hid (HT.out.keep b6)
                have B6 := Lib.hid (B5.out.trans (b6.mono B5.out.size))
                have H1 := A.refute_ (n := n) HV.out (by omega) HN.out HT.out (by omega)
                rw [HRN.out] at H1
                have H1 := Lib.hid H1
                clear b6 B5
                go_wp2_with (go_at_call 13; refine (H1.out).mono ?_; rintro e w7 ⟨rfl, b7⟩; refine Hid.out ?_)
                refine Lib.hid ?_
                have B7 := Lib.hid (B6.out.trans (b7.mono B6.out.size))
                clear b7
                go_wp2
                go_ret
                exact ⟨rfl, B7.out⟩
            · have H1 := A.refute_ (n := n) HV.out (by omega) HN.out hcs (refute_len href)
              rw [href] at H1
              have H1 := Lib.hid H1
              have HCN := Lib.hid (check_not (vs := vs) href)
              clear has hcs href hno
              go_wp2_with (go_at_call 13; refine (H1.out).mono ?_; rintro e w4 ⟨rfl, b4⟩; refine Hid.out ?_)
              refine Lib.hid ?_
              have HV := Lib.hid (HV.out.keep b4)
              have HU := Lib.hid (HU.out.keep b4)
              have B4 := Lib.hid (B3.out.trans (b4.mono B3.out.size))
              have H1 := A.check_ (n := n) HV.out (by omega) HN.out HU.out (by omega)
              rw [HCN.out] at H1
              have H1 := Lib.hid H1
              clear b4 B3
              go_wp2_with (go_at_call 11; refine (H1.out).mono ?_; rintro e w5 ⟨rfl, b5⟩; refine Hid.out ?_)
              refine Lib.hid ?_
              have HV := Lib.hid (HV.out.keep b5)
              have HU := Lib.hid (HU.out.keep b5)
              have B5 := Lib.hid (B4.out.trans (b5.mono B4.out.size))
              have H1 := A.check_ (n := n) HV.out (by omega) HN.out HU.out (by omega)
              rw [HCN.out] at H1
              have H1 := Lib.hid H1
              clear b5 B4
              go_wp2_with (go_at_call 11; refine (H1.out).mono ?_; rintro e w6 ⟨rfl, b6⟩; refine Hid.out ?_)
              refine Lib.hid ?_
              have B6 := Lib.hid (B5.out.trans (b6.mono B5.out.size))
              clear b6
              go_wp2
              go_ret
              exact ⟨rfl, B6.out⟩
end Go.Proofs.Ytapgcahbccchfaa
