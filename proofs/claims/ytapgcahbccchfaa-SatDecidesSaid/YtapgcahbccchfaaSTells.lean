/- The walk of SatTells. -/
import Derived.Test.YtapgcahbccchfaaSForc
namespace Go.Proofs.Ytapgcahbccchfaa
open Go.RowKit Go.Maps Go.ChangeMaps Go.MapKept
open St
attribute [local go_sem ↓] Go.wp_at_zero Go.wp_at_succ

theorem refute_four {l : List Cl} {n : Int} {cy : List Int} (h : refute l n cy = true) : (cy.length : Int) ≤ 4 * n := by
  by_cases hc : 1 ≤ cy.length ∧ (cy.length : Int) ≤ 4 * n
  · exact hc.2
  · rw [ref_len hc] at h; cases h
open Classical in
theorem forced_len1 {l : List Cl} {m : Nat} : (forced l (m : Int)).1.length ≤ 100000 ∨ 100000 < m := by
  unfold forced
  split
  · split
    · simp; omega
    · left; simp
  · left; simp
section
variable {w : World} {v : Value} {l : List Cl} {n : Int}
theorem SApi.forced_bad (A : SApi) (hv : ClAt w v l) (hl : l.length ≤ 1000) (hn : I64 n) (hr : right l n = false) : Calls Try.prog 18 #[v, .int .i64 n] w fun e w' => ∃ u, e = .returned (.tuple #[u, .int .i64 1]) ∧ NumsAt w' u [] ∧ Below w.heap.size w w' := by
  refine (A.forced_ hv hl hn).mono ?_
  rintro e w' ⟨u, he, h1, h2⟩
  rw [forced_arg hr] at he h1
  exact ⟨u, he, h1, h2⟩
end
set_option maxHeartbeats 8000000 in
set_option maxRecDepth 100000 in
theorem tells_walk (A : SApi) {w : World} {v u x : Value} {l : List Cl} {n : Int} {vs : List Bool} {xs : List Int} (hv : ClAt w v l) (hn : I64 n) (hu : BoolsAt w u vs) (hx : NumsAt w x xs) :
    Calls Try.prog 3 #[v, .int .i64 n, u, x] w fun e w' => e = .returned (.bool true) ∧ Below w.heap.size w w' := by
  have HV := Lib.hid hv
  have HU := Lib.hid hu
  have HX := Lib.hid hx
  have HN := Lib.hid hn
  obtain ⟨va, vc, rfl⟩ := hv.slice
  obtain ⟨ua, uc, rfl⟩ := hu.slice
  obtain ⟨xa, xc, rfl⟩ := hx.slice
  clear hn hv hu hx
  by_cases h1 : 40 < l.length
  · have h1' : (40 : Int) < (l.length : Int) := by omega
    go_enter Try.func3, Try.ntmps3
    go_wp2_with (go_at_call 8; refine (small_any A _).mono ?_; rintro e w1 ⟨rfl, m1⟩; refine Hid.out ?_)
    refine Lib.hid ?_
    have B1 := Lib.hid m1
    clear m1
    go_wp2
    go_ret
    exact ⟨rfl, B1.out⟩
  · have h1' : ¬ (40 : Int) < (l.length : Int) := by omega
    by_cases h2 : 9 < n ∧ n ≤ 400
    · obtain ⟨h2a, h2b⟩ := h2
      go_enter Try.func3, Try.ntmps3
      go_wp2_with (go_at_call 8; refine (small_any A _).mono ?_; rintro e w1 ⟨rfl, m1⟩; refine Hid.out ?_)
      refine Lib.hid ?_
      have B1 := Lib.hid m1
      clear m1
      go_wp2
      go_ret
      exact ⟨rfl, B1.out⟩
    · have h2' : ¬ (9 < n ∧ n ≤ 400) := h2
      have hnn : n ≤ 9 ∨ 400 < n := by omega
      have HNN := Lib.hid hnn
      by_cases h3 : 12 < vs.length
      · have h3' : (12 : Int) < (vs.length : Int) := by omega
        rcases hnn with hq | hq
        · go_enter Try.func3, Try.ntmps3
          go_wp2_with (go_at_call 8; refine (small_any A _).mono ?_; rintro e w1 ⟨rfl, m1⟩; refine Hid.out ?_)
          refine Lib.hid ?_
          have B1 := Lib.hid m1
          clear m1
          go_wp2
          go_ret
          exact ⟨rfl, B1.out⟩
        · have hq2 : 9 < n := by omega
          have hq3 : ¬ n ≤ 400 := by omega
          go_enter Try.func3, Try.ntmps3
          go_wp2_with (go_at_call 8; refine (small_any A _).mono ?_; rintro e w1 ⟨rfl, m1⟩; refine Hid.out ?_)
          refine Lib.hid ?_
          have B1 := Lib.hid m1
          clear m1
          go_wp2
          go_ret
          exact ⟨rfl, B1.out⟩
      · have h3' : ¬ (12 : Int) < (vs.length : Int) := by omega
        by_cases h4 : 40 < xs.length
        · have h4' : (40 : Int) < (xs.length : Int) := by omega
          rcases hnn with hq | hq
          · go_enter Try.func3, Try.ntmps3
            go_wp2_with (go_at_call 8; refine (small_any A _).mono ?_; rintro e w1 ⟨rfl, m1⟩; refine Hid.out ?_)
            refine Lib.hid ?_
            have B1 := Lib.hid m1
            clear m1
            go_wp2
            go_ret
            exact ⟨rfl, B1.out⟩
          · have hq2 : 9 < n := by omega
            have hq3 : ¬ n ≤ 400 := by omega
            go_enter Try.func3, Try.ntmps3
            go_wp2_with (go_at_call 8; refine (small_any A _).mono ?_; rintro e w1 ⟨rfl, m1⟩; refine Hid.out ?_)
            refine Lib.hid ?_
            have B1 := Lib.hid m1
            clear m1
            go_wp2
            go_ret
            exact ⟨rfl, B1.out⟩
        · have h4' : ¬ (40 : Int) < (xs.length : Int) := by omega
          rcases hnn with hq | hq
          · have hq2 : ¬ 9 < n := by omega
            go_enter Try.func3, Try.ntmps3
            go_wp2_with (go_at_call 8; refine (small_any A _).mono ?_; rintro e w1 ⟨rfl, m1⟩; refine Hid.out ?_)
            refine Lib.hid ?_
            have B1 := Lib.hid m1
            clear m1
            have HV := Lib.hid (HV.out.keep B1.out)
            have HU := Lib.hid (HU.out.keep B1.out)
            have HX := Lib.hid (HX.out.keep B1.out)
            obtain ⟨r1, hr1⟩ : ∃ r, right l n = r := ⟨_, rfl⟩
            have HR1 := Lib.hid hr1
            have H1 := A.right_ (n := n) HV.out (by omega) HN.out
            have H2 := fun (w' : World) (bb : Hid (Below w1.heap.size w1 w')) => q_right (n := n) (HV.out.keep bb.out) (by omega)
            rw [hr1] at H1
            rw [hr1] at H2
            have hrr1 : (r1 != r1) = false := by simp
            have H1 := Lib.hid H1
            have H2 := Lib.hid H2
            clear hr1
            go_wp2_with (go_at_call 9; refine (H1.out).mono ?_; rintro e w2 ⟨rfl, bx⟩; refine Hid.out ?_)
            refine Lib.hid ?_
            have BX := Lib.hid bx
            have H2 := Lib.hid (H2.out w2 BX)
            clear bx
            go_wp2_with (go_at_call 10; refine (H2.out).mono ?_; rintro e w3 ⟨rfl, by0⟩; refine Hid.out ?_)
            refine Lib.hid ?_
            subst by0
            have B1 := Lib.hid (B1.out.trans ((BX.out).mono B1.out.size))
            have HV := Lib.hid (HV.out.keep BX.out)
            have HU := Lib.hid (HU.out.keep BX.out)
            have HX := Lib.hid (HX.out.keep BX.out)
            clear BX H1 H2
            obtain ⟨r2, hr2⟩ : ∃ r, check l n vs = r := ⟨_, rfl⟩
            have HR2 := Lib.hid hr2
            have H1 := A.check_ (n := n) HV.out (by omega) HN.out HU.out (by omega)
            have H2 := fun (w' : World) (bb : Hid (Below w2.heap.size w2 w')) => q_check (n := n) (HV.out.keep bb.out) (by omega) (HU.out.keep bb.out) (by omega)
            rw [hr2] at H1
            rw [hr2] at H2
            have hrr2 : (r2 != r2) = false := by simp
            have H1 := Lib.hid H1
            have H2 := Lib.hid H2
            clear hr2
            go_wp2_with (go_at_call 11; refine (H1.out).mono ?_; rintro e w3 ⟨rfl, bx⟩; refine Hid.out ?_)
            refine Lib.hid ?_
            have BX := Lib.hid bx
            have H2 := Lib.hid (H2.out w3 BX)
            clear bx
            go_wp2_with (go_at_call 12; refine (H2.out).mono ?_; rintro e w4 ⟨rfl, by0⟩; refine Hid.out ?_)
            refine Lib.hid ?_
            subst by0
            have B1 := Lib.hid (B1.out.trans ((BX.out).mono B1.out.size))
            have HV := Lib.hid (HV.out.keep BX.out)
            have HU := Lib.hid (HU.out.keep BX.out)
            have HX := Lib.hid (HX.out.keep BX.out)
            clear BX H1 H2
            obtain ⟨r3, hr3⟩ : ∃ r, refute l n xs = r := ⟨_, rfl⟩
            have HR3 := Lib.hid hr3
            have H1 := A.refute_ (n := n) HV.out (by omega) HN.out HX.out (by omega)
            have H2 := fun (w' : World) (bb : Hid (Below w3.heap.size w3 w')) => q_refute (n := n) (HV.out.keep bb.out) (by omega) (HX.out.keep bb.out) (by omega)
            rw [hr3] at H1
            rw [hr3] at H2
            have hrr3 : (r3 != r3) = false := by simp
            have H1 := Lib.hid H1
            have H2 := Lib.hid H2
            clear hr3
            go_wp2_with (go_at_call 13; refine (H1.out).mono ?_; rintro e w4 ⟨rfl, bx⟩; refine Hid.out ?_)
            refine Lib.hid ?_
            have BX := Lib.hid bx
            have H2 := Lib.hid (H2.out w4 BX)
            clear bx
            go_wp2_with (go_at_call 14; refine (H2.out).mono ?_; rintro e w5 ⟨rfl, by0⟩; refine Hid.out ?_)
            refine Lib.hid ?_
            have BY := Lib.hid (BX.out.trans (by0.mono BX.out.size))
            have B1 := Lib.hid (B1.out.trans ((BY.out).mono B1.out.size))
            have HV := Lib.hid (HV.out.keep BY.out)
            have HU := Lib.hid (HU.out.keep BY.out)
            have HX := Lib.hid (HX.out.keep BY.out)
            clear BX BY by0 H1 H2
            obtain ⟨r4, hr4⟩ : ∃ r, follows l n xs = r := ⟨_, rfl⟩
            have HR4 := Lib.hid hr4
            have H1 := A.follows_ (n := n) HV.out (by omega) HN.out HX.out (by omega)
            have H2 := fun (w' : World) (bb : Hid (Below w5.heap.size w5 w')) => q_follows (n := n) (HV.out.keep bb.out) (by omega) (HX.out.keep bb.out) (by omega) HNN.out
            rw [hr4] at H1
            rw [hr4] at H2
            have hrr4 : (r4 != r4) = false := by simp
            have H1 := Lib.hid H1
            have H2 := Lib.hid H2
            clear hr4
            go_wp2_with (go_at_call 15; refine (H1.out).mono ?_; rintro e w6 ⟨rfl, bx⟩; refine Hid.out ?_)
            refine Lib.hid ?_
            have BX := Lib.hid bx
            have H2 := Lib.hid (H2.out w6 BX)
            clear bx
            go_wp2_with (go_at_call 16; refine (H2.out).mono ?_; rintro e w7 ⟨rfl, by0⟩; refine Hid.out ?_)
            refine Lib.hid ?_
            have BY := Lib.hid (BX.out.trans (by0.mono BX.out.size))
            have B1 := Lib.hid (B1.out.trans ((BY.out).mono B1.out.size))
            have HV := Lib.hid (HV.out.keep BY.out)
            have HU := Lib.hid (HU.out.keep BY.out)
            have HX := Lib.hid (HX.out.keep BY.out)
            clear BX BY by0 H1 H2
            have HS := Lib.hid (A.solve_ (n := n) HV.out (by omega) HN.out)
            go_wp2_with (go_at_call 17; refine (HS.out).mono ?_; rintro e w8 ⟨ra, rc, sv, cs, er, rfl, has, hcs, b8, hsol⟩; refine Hid.out ?_)
            refine Lib.hid ?_
            have B1 := Lib.hid (B1.out.trans ((b8).mono B1.out.size))
            have HV := Lib.hid (HV.out.keep b8)
            have HU := Lib.hid (HU.out.keep b8)
            have HX := Lib.hid (HX.out.keep b8)
            have HQ := q_right (n := n) HV.out (by omega)
            obtain ⟨a1, a2, rfl⟩ := has.slice
            obtain ⟨c1, c2, rfl⟩ := hcs.slice
            cases r1 with
            | false =>
              rw [HR1.out] at HQ
              have HQ := Lib.hid HQ
              obtain ⟨rfl, rfl, rfl⟩ := solved_arg hsol HR1.out
              clear HS has hcs hsol
              go_wp2_with (go_at_call 10; refine (HQ.out).mono ?_; rintro e w9 ⟨rfl, rfl⟩; refine Hid.out ?_)
              refine Lib.hid ?_
              have HF := Lib.hid (A.forced_bad HV.out (by omega) HN.out HR1.out)
              go_wp2_with (go_at_call 18; refine (HF.out).mono ?_; rintro e w9 ⟨u9, rfl, hus, b9⟩; refine Hid.out ?_)
              refine Lib.hid ?_
              obtain ⟨u1, u2, rfl⟩ := hus.slice
              have B1 := Lib.hid (B1.out.trans ((b9).mono B1.out.size))
              have HV := Lib.hid (HV.out.keep b9)
              have HU := Lib.hid (HU.out.keep b9)
              have HX := Lib.hid (HX.out.keep b9)
              clear hus HF
              go_wp2
              go_ret
              exact ⟨rfl, B1.out⟩
            | true =>
              rw [HR1.out] at HQ
              have HQ := Lib.hid HQ
              have hn2 := (right_iff.1 HR1.out).1
              obtain ⟨m, rfl⟩ : ∃ m : Nat, n = (m : Int) := ⟨n.toNat, by omega⟩
              have HSOL := Lib.hid hsol
              have HAS := Lib.hid has
              have HCS := Lib.hid hcs
              clear HS has hcs hsol
              go_wp2_with (go_at_call 10; refine (HQ.out).mono ?_; rintro e w9 ⟨rfl, rfl⟩; refine Hid.out ?_)
              refine Lib.hid ?_
              have HF := Lib.hid (q_first HV.out (by omega) (show m ≤ 9 by omega))
              go_wp2_with (go_at_call 19; refine (HF.out).mono ?_; rintro e w9 ⟨bu, bvs, f, rfl, hbs, b9, hfst⟩; refine Hid.out ?_)
              refine Lib.hid ?_
              have B9 := Lib.hid b9
              have HBS := Lib.hid hbs
              have B1 := Lib.hid (B1.out.trans ((b9).mono B1.out.size))
              have HV := Lib.hid (HV.out.keep b9)
              have HU := Lib.hid (HU.out.keep b9)
              have HX := Lib.hid (HX.out.keep b9)
              have HF := Lib.hid (A.forced_ (n := (m : Int)) HV.out (by omega) HN.out)
              go_wp2_with (go_at_call 18; refine (HF.out).mono ?_; rintro e w10 ⟨u9, rfl, hus, b10⟩; refine Hid.out ?_)
              refine Lib.hid ?_
              have B10 := Lib.hid b10
              have HUS := Lib.hid hus
              have B1 := Lib.hid (B1.out.trans ((b10).mono B1.out.size))
              have HV := Lib.hid (HV.out.keep b10)
              have HU := Lib.hid (HU.out.keep b10)
              have HX := Lib.hid (HX.out.keep b10)
              have HF := Lib.hid (q_forced (n := (m : Int)) HV.out (by omega) (.inl (by omega)))
              go_wp2_with (go_at_call 20; refine (HF.out).mono ?_; rintro e w11 ⟨g9, rfl, hgs, b11⟩; refine Hid.out ?_)
              refine Lib.hid ?_
              have B11 := Lib.hid b11
              have HGS := Lib.hid hgs
              have B1 := Lib.hid (B1.out.trans ((b11).mono B1.out.size))
              have HV := Lib.hid (HV.out.keep b11)
              have HU := Lib.hid (HU.out.keep b11)
              have HX := Lib.hid (HX.out.keep b11)
              clear hbs hus hgs HF
              have B911 := Lib.hid (B9.out.trans ((B10.out.trans (B11.out.mono B10.out.size)).mono B9.out.size))
              have B1011 := Lib.hid (B10.out.trans (B11.out.mono B10.out.size))
              have HAS := Lib.hid (HAS.out.keep B911.out)
              have HCS := Lib.hid (HCS.out.keep B911.out)
              have HBS := Lib.hid (HBS.out.keep B1011.out)
              have HUS := Lib.hid (HUS.out.keep B11.out)
              clear b9 b10 b11 B9 B10 B11 B911 B1011 hrr1 hrr2 hrr3 hrr4
              have H1 := q_ints HUS.out HGS.out (by have := @forced_len1 l m; omega)
              rw [decide_eq_true rfl] at H1
              have H1 := Lib.hid H1
              rcases hfst with ⟨rfl, hf⟩ | ⟨rfl, rfl, hno⟩
              · obtain ⟨rfl, rfl, rfl⟩ := solved_fst HSOL.out hf
                have hf2 : (forced l (m : Int)).2 = 0 := by rw [forced_ok hf.can]
                have hln := len_of hf.ok
                have H2 := fun w' (bb : Hid (Below w11.heap.size w11 w')) => q_bools (HAS.out.keep bb.out) (HBS.out.keep bb.out) (by omega)
                have H2 := Lib.hid H2
                rw [hf2]
                clear hf hln hf2
                go_wp2_with (go_at_call 21; refine (H1.out).mono ?_; rintro e w12 ⟨rfl, b12⟩; refine Hid.out ?_)
                refine Lib.hid ?_
                have H2 := H2.out w12 (Lib.hid b12)
                simp only [decide_true] at H2
                have H2 := Lib.hid H2
                have B1 := Lib.hid (B1.out.trans ((b12).mono B1.out.size))
                have HV := Lib.hid (HV.out.keep b12)
                have HU := Lib.hid (HU.out.keep b12)
                have HX := Lib.hid (HX.out.keep b12)
                go_wp2_with (go_at_call 22; refine (H2.out).mono ?_; rintro e w13 ⟨rfl, b13⟩; refine Hid.out ?_)
                refine Lib.hid ?_
                have B1 := Lib.hid (B1.out.trans ((b13).mono B1.out.size))
                have HV := Lib.hid (HV.out.keep b13)
                have HU := Lib.hid (HU.out.keep b13)
                have HX := Lib.hid (HX.out.keep b13)
                go_wp2
                go_ret
                exact ⟨rfl, B1.out⟩
              · obtain ⟨rfl, href, rfl⟩ := solved_none HSOL.out HR1.out hno
                have hf2 : (forced l (m : Int)).2 = 17 := by rw [forced_uns HR1.out hno]
                have H2 := fun w' (bb : Hid (Below w11.heap.size w11 w')) => q_bools (HAS.out.keep bb.out) (HBS.out.keep bb.out) (by simp)
                have H2 := Lib.hid H2
                have H3 := fun w' (bb : Hid (Below w11.heap.size w11 w')) (hv : ClAt w' (.slice va l.length vc) l) => q_refute (n := (m : Int)) hv (by omega) (HCS.out.keep bb.out) (by have := refute_four href; omega)
                rw [href] at H3
                have H3 := Lib.hid H3
                rw [hf2]
                clear hno hf2 href
                go_wp2_with (go_at_call 21; refine (H1.out).mono ?_; rintro e w12 ⟨rfl, b12⟩; refine Hid.out ?_)
                refine Lib.hid ?_
                have B12 := Lib.hid b12
                have H2 := H2.out w12 B12
                simp only [decide_true] at H2
                have H2 := Lib.hid H2
                have B1 := Lib.hid (B1.out.trans ((b12).mono B1.out.size))
                have HV := Lib.hid (HV.out.keep b12)
                have HU := Lib.hid (HU.out.keep b12)
                have HX := Lib.hid (HX.out.keep b12)
                clear b12
                go_wp2_with (go_at_call 22; refine (H2.out).mono ?_; rintro e w13 ⟨rfl, b13⟩; refine Hid.out ?_)
                refine Lib.hid ?_
                have B1 := Lib.hid (B1.out.trans ((b13).mono B1.out.size))
                have HV := Lib.hid (HV.out.keep b13)
                have HU := Lib.hid (HU.out.keep b13)
                have HX := Lib.hid (HX.out.keep b13)
                have H3 := Lib.hid (H3.out w13 (Lib.hid (B12.out.trans (b13.mono B12.out.size))) HV.out)
                clear b13
                go_wp2_with (go_at_call 14; refine (H3.out).mono ?_; rintro e w14 ⟨rfl, b14⟩; refine Hid.out ?_)
                refine Lib.hid ?_
                have B1 := Lib.hid (B1.out.trans ((b14).mono B1.out.size))
                have HV := Lib.hid (HV.out.keep b14)
                have HU := Lib.hid (HU.out.keep b14)
                have HX := Lib.hid (HX.out.keep b14)
                go_wp2
                go_ret
                exact ⟨rfl, B1.out⟩
          · have hq2 : 9 < n := by omega
            have hq3 : ¬ n ≤ 400 := by omega
            go_enter Try.func3, Try.ntmps3
            go_wp2_with (go_at_call 8; refine (small_any A _).mono ?_; rintro e w1 ⟨rfl, m1⟩; refine Hid.out ?_)
            refine Lib.hid ?_
            have B1 := Lib.hid m1
            clear m1
            have HV := Lib.hid (HV.out.keep B1.out)
            have HU := Lib.hid (HU.out.keep B1.out)
            have HX := Lib.hid (HX.out.keep B1.out)
            obtain ⟨r1, hr1⟩ : ∃ r, right l n = r := ⟨_, rfl⟩
            have HR1 := Lib.hid hr1
            have H1 := A.right_ (n := n) HV.out (by omega) HN.out
            have H2 := fun (w' : World) (bb : Hid (Below w1.heap.size w1 w')) => q_right (n := n) (HV.out.keep bb.out) (by omega)
            rw [hr1] at H1
            rw [hr1] at H2
            have hrr1 : (r1 != r1) = false := by simp
            have H1 := Lib.hid H1
            have H2 := Lib.hid H2
            clear hr1
            go_wp2_with (go_at_call 9; refine (H1.out).mono ?_; rintro e w2 ⟨rfl, bx⟩; refine Hid.out ?_)
            refine Lib.hid ?_
            have BX := Lib.hid bx
            have H2 := Lib.hid (H2.out w2 BX)
            clear bx
            go_wp2_with (go_at_call 10; refine (H2.out).mono ?_; rintro e w3 ⟨rfl, by0⟩; refine Hid.out ?_)
            refine Lib.hid ?_
            subst by0
            have B1 := Lib.hid (B1.out.trans ((BX.out).mono B1.out.size))
            have HV := Lib.hid (HV.out.keep BX.out)
            have HU := Lib.hid (HU.out.keep BX.out)
            have HX := Lib.hid (HX.out.keep BX.out)
            clear BX H1 H2
            obtain ⟨r2, hr2⟩ : ∃ r, check l n vs = r := ⟨_, rfl⟩
            have HR2 := Lib.hid hr2
            have H1 := A.check_ (n := n) HV.out (by omega) HN.out HU.out (by omega)
            have H2 := fun (w' : World) (bb : Hid (Below w2.heap.size w2 w')) => q_check (n := n) (HV.out.keep bb.out) (by omega) (HU.out.keep bb.out) (by omega)
            rw [hr2] at H1
            rw [hr2] at H2
            have hrr2 : (r2 != r2) = false := by simp
            have H1 := Lib.hid H1
            have H2 := Lib.hid H2
            clear hr2
            go_wp2_with (go_at_call 11; refine (H1.out).mono ?_; rintro e w3 ⟨rfl, bx⟩; refine Hid.out ?_)
            refine Lib.hid ?_
            have BX := Lib.hid bx
            have H2 := Lib.hid (H2.out w3 BX)
            clear bx
            go_wp2_with (go_at_call 12; refine (H2.out).mono ?_; rintro e w4 ⟨rfl, by0⟩; refine Hid.out ?_)
            refine Lib.hid ?_
            subst by0
            have B1 := Lib.hid (B1.out.trans ((BX.out).mono B1.out.size))
            have HV := Lib.hid (HV.out.keep BX.out)
            have HU := Lib.hid (HU.out.keep BX.out)
            have HX := Lib.hid (HX.out.keep BX.out)
            clear BX H1 H2
            obtain ⟨r3, hr3⟩ : ∃ r, refute l n xs = r := ⟨_, rfl⟩
            have HR3 := Lib.hid hr3
            have H1 := A.refute_ (n := n) HV.out (by omega) HN.out HX.out (by omega)
            have H2 := fun (w' : World) (bb : Hid (Below w3.heap.size w3 w')) => q_refute (n := n) (HV.out.keep bb.out) (by omega) (HX.out.keep bb.out) (by omega)
            rw [hr3] at H1
            rw [hr3] at H2
            have hrr3 : (r3 != r3) = false := by simp
            have H1 := Lib.hid H1
            have H2 := Lib.hid H2
            clear hr3
            go_wp2_with (go_at_call 13; refine (H1.out).mono ?_; rintro e w4 ⟨rfl, bx⟩; refine Hid.out ?_)
            refine Lib.hid ?_
            have BX := Lib.hid bx
            have H2 := Lib.hid (H2.out w4 BX)
            clear bx
            go_wp2_with (go_at_call 14; refine (H2.out).mono ?_; rintro e w5 ⟨rfl, by0⟩; refine Hid.out ?_)
            refine Lib.hid ?_
            have BY := Lib.hid (BX.out.trans (by0.mono BX.out.size))
            have B1 := Lib.hid (B1.out.trans ((BY.out).mono B1.out.size))
            have HV := Lib.hid (HV.out.keep BY.out)
            have HU := Lib.hid (HU.out.keep BY.out)
            have HX := Lib.hid (HX.out.keep BY.out)
            clear BX BY by0 H1 H2
            obtain ⟨r4, hr4⟩ : ∃ r, follows l n xs = r := ⟨_, rfl⟩
            have HR4 := Lib.hid hr4
            have H1 := A.follows_ (n := n) HV.out (by omega) HN.out HX.out (by omega)
            have H2 := fun (w' : World) (bb : Hid (Below w5.heap.size w5 w')) => q_follows (n := n) (HV.out.keep bb.out) (by omega) (HX.out.keep bb.out) (by omega) HNN.out
            rw [hr4] at H1
            rw [hr4] at H2
            have hrr4 : (r4 != r4) = false := by simp
            have H1 := Lib.hid H1
            have H2 := Lib.hid H2
            clear hr4
            go_wp2_with (go_at_call 15; refine (H1.out).mono ?_; rintro e w6 ⟨rfl, bx⟩; refine Hid.out ?_)
            refine Lib.hid ?_
            have BX := Lib.hid bx
            have H2 := Lib.hid (H2.out w6 BX)
            clear bx
            go_wp2_with (go_at_call 16; refine (H2.out).mono ?_; rintro e w7 ⟨rfl, by0⟩; refine Hid.out ?_)
            refine Lib.hid ?_
            have BY := Lib.hid (BX.out.trans (by0.mono BX.out.size))
            have B1 := Lib.hid (B1.out.trans ((BY.out).mono B1.out.size))
            have HV := Lib.hid (HV.out.keep BY.out)
            have HU := Lib.hid (HU.out.keep BY.out)
            have HX := Lib.hid (HX.out.keep BY.out)
            clear BX BY by0 H1 H2
            have HS := Lib.hid (A.solve_ (n := n) HV.out (by omega) HN.out)
            go_wp2_with (go_at_call 17; refine (HS.out).mono ?_; rintro e w8 ⟨ra, rc, sv, cs, er, rfl, has, hcs, b8, hsol⟩; refine Hid.out ?_)
            refine Lib.hid ?_
            have B1 := Lib.hid (B1.out.trans ((b8).mono B1.out.size))
            have HV := Lib.hid (HV.out.keep b8)
            have HU := Lib.hid (HU.out.keep b8)
            have HX := Lib.hid (HX.out.keep b8)
            have HQ := q_right (n := n) HV.out (by omega)
            obtain ⟨a1, a2, rfl⟩ := has.slice
            obtain ⟨c1, c2, rfl⟩ := hcs.slice
            cases r1 with
            | false =>
              rw [HR1.out] at HQ
              have HQ := Lib.hid HQ
              obtain ⟨rfl, rfl, rfl⟩ := solved_arg hsol HR1.out
              clear HS has hcs hsol
              go_wp2_with (go_at_call 10; refine (HQ.out).mono ?_; rintro e w9 ⟨rfl, rfl⟩; refine Hid.out ?_)
              refine Lib.hid ?_
              have HF := Lib.hid (A.forced_bad HV.out (by omega) HN.out HR1.out)
              go_wp2_with (go_at_call 18; refine (HF.out).mono ?_; rintro e w9 ⟨u9, rfl, hus, b9⟩; refine Hid.out ?_)
              refine Lib.hid ?_
              obtain ⟨u1, u2, rfl⟩ := hus.slice
              have B1 := Lib.hid (B1.out.trans ((b9).mono B1.out.size))
              have HV := Lib.hid (HV.out.keep b9)
              have HU := Lib.hid (HU.out.keep b9)
              have HX := Lib.hid (HX.out.keep b9)
              clear hus HF
              go_wp2
              go_ret
              exact ⟨rfl, B1.out⟩
            | true =>
              have hbig := (right_iff.1 HR1.out).1
              omega
end Go.Proofs.Ytapgcahbccchfaa
