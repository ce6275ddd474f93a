/- The walk of SatFirst. -/
import Derived.Test.YtapgcahbccchfaaSSmall
namespace Go.Proofs.Ytapgcahbccchfaa
open Go.RowKit Go.Maps Go.ChangeMaps Go.MapKept
open St
attribute [local go_sem ↓] Go.wp_at_zero Go.wp_at_succ

theorem BoolsAt.at_ {w : World} {b off n cap : Nat} {l : List Bool} (h : BoolsAt w (.slice (some ⟨b, off, none⟩) n cap) l) {k : Nat} {z : Bool} (hk : l[k]? = some z) : w.cell? ⟨b, off + k, none⟩ = some (.bool z) := by
  obtain ⟨a, cap', hv, _, hc⟩ := h
  cases hv
  obtain ⟨b', off', h1, h2⟩ := hc k z hk
  cases h1
  exact h2
theorem take_snocB {a b : List Bool} {k : Nat} {x : Bool} (h : a.take k = b.take k) (ha : a[k]? = some x) (hb : b[k]? = some x) : a.take (k + 1) = b.take (k + 1) := by rw [List.take_add_one, List.take_add_one, h, ha, hb]
set_option maxHeartbeats 8000000 in
set_option maxRecDepth 100000 in
theorem first_walk (A : SApi) {w : World} {v u : Value} {l : List Cl} {n : Int} {vs : List Bool} (hv : ClAt w v l) (hn : I64 n) (hu : BoolsAt w u vs) :
    Calls Try.prog 5 #[v, .int .i64 n, u] w fun e w' => e = .returned (.bool true) ∧ Below w.heap.size w w' := by
  have HV := Lib.hid hv
  have HU := Lib.hid hu
  have HN := Lib.hid hn
  obtain ⟨va, vc, rfl⟩ := hv.slice
  obtain ⟨ua, uc, rfl⟩ := hu.slice
  clear hu hn hv
  by_cases h1 : 120 < l.length
  · have h1' : (120 : Int) < (l.length : Int) := by omega
    go_enter Try.func5, Try.ntmps5
    go_wp2_with (go_at_call 8; refine (small_any A _).mono ?_; rintro e w1 ⟨rfl, m1⟩; refine Hid.out ?_)
    refine Lib.hid ?_
    have B1 := Lib.hid m1
    clear m1
    go_wp2
    go_ret
    exact ⟨rfl, B1.out⟩
  · have h1' : ¬ (120 : Int) < (l.length : Int) := by omega
    by_cases h2 : 40 < n
    · go_enter Try.func5, Try.ntmps5
      go_wp2_with (go_at_call 8; refine (small_any A _).mono ?_; rintro e w1 ⟨rfl, m1⟩; refine Hid.out ?_)
      refine Lib.hid ?_
      have B1 := Lib.hid m1
      clear m1
      go_wp2
      go_ret
      exact ⟨rfl, B1.out⟩
    · by_cases h3 : 40 < vs.length
      · have h3' : (40 : Int) < (vs.length : Int) := by omega
        go_enter Try.func5, Try.ntmps5
        go_wp2_with (go_at_call 8; refine (small_any A _).mono ?_; rintro e w1 ⟨rfl, m1⟩; refine Hid.out ?_)
        refine Lib.hid ?_
        have B1 := Lib.hid m1
        clear m1
        go_wp2
        go_ret
        exact ⟨rfl, B1.out⟩
      · have h3' : ¬ (40 : Int) < (vs.length : Int) := by omega
        go_enter Try.func5, Try.ntmps5
        go_wp2_with (go_at_call 8; refine (small_any A _).mono ?_; rintro e w1 ⟨rfl, m1⟩; refine Hid.out ?_)
        refine Lib.hid ?_
        have B1 := Lib.hid m1
        clear m1
        have HV := Lib.hid (HV.out.keep B1.out)
        have HU := Lib.hid (HU.out.keep B1.out)
        have HR := q_right (n := n) HV.out (by omega)
        cases hr : right l n with
        | false =>
          rw [hr] at HR
          have HR := Lib.hid HR
          clear hr
          go_wp2_with (go_at_call 10; refine (HR.out).mono ?_; rintro e w2 ⟨rfl, rfl⟩; refine Hid.out ?_)
          refine Lib.hid ?_
          go_wp2
          go_ret
          exact ⟨rfl, B1.out⟩
        | true =>
          rw [hr] at HR
          have HRI := Lib.hid hr
          have hn2 := (right_iff.1 hr).1
          have HR := Lib.hid HR
          clear hr
          obtain ⟨m, rfl⟩ : ∃ m : Nat, n = (m : Int) := ⟨n.toNat, by omega⟩
          have hm : m ≤ 40 := by omega
          go_wp2_with (go_at_call 10; refine (HR.out).mono ?_; rintro e w2 ⟨rfl, rfl⟩; refine Hid.out ?_)
          refine Lib.hid ?_
          have HS := Lib.hid (A.solve_ HV.out (by omega) HN.out)
          clear HR
          go_wp2_with (go_at_call 17; refine (HS.out).mono ?_; rintro e w3 ⟨ra, rc, sv, cs, er, rfl, has, hcs, b3, hsol⟩; refine Hid.out ?_)
          refine Lib.hid ?_
          have HV := Lib.hid (HV.out.keep b3)
          have HU := Lib.hid (HU.out.keep b3)
          have B1 := Lib.hid (B1.out.trans (b3.mono B1.out.size))
          clear b3 HS
          obtain ⟨a1, a2, rfl⟩ := has.slice
          obtain ⟨c1, c2, rfl⟩ := hcs.slice
          rcases hsol with ⟨hno, -⟩ | ⟨hf, rfl, rfl⟩ | ⟨-, hno, rfl, href, rfl⟩
          · rw [HRI.out] at hno; cases hno
          · have hln := len_of hf.ok
            have hsl : sv.length = m := by omega
            have HF := Lib.hid hf
            have HSV := Lib.hid has
            have H1 := A.check_ (n := (m : Int)) HV.out (by omega) HN.out HU.out (by omega)
            clear has hcs hf hln
            rw [hsl] at HSV ⊢
            cases hc : check l (m : Int) vs with
            | false =>
              rw [hc] at H1
              have H1 := Lib.hid H1
              clear hc
              go_wp2_with (go_at_call 11; refine (H1.out).mono ?_; rintro e w4 ⟨rfl, b4⟩; refine Hid.out ?_)
              refine Lib.hid ?_
              have HK := Lib.hid b4
              clear b4
              have HVb := HV.out.keep HK.out
              obtain ⟨ca, cc, w5, r5, o5, b5, n5⟩ := copyC_run HVb (by omega)
              have R5 := Lib.hid r5
              have M5 := Lib.hid (show OMem w4 w5 [.row 40 2 (.slice ca (l ++ units sv 0).length cc) (l ++ units sv 0).length (clVs (l ++ units sv 0))] by
                rw [show l ++ units sv 0 = l by simp [units]]; exact (OMem.start _).rowNewAt b5 o5 n5)
              clear r5 o5 b5 n5 HVb
              go_wp2_with (at_builtin; refine Hid.out ?_)
              refine Lib.hid ?_
              refine Lib.wpList_append_run _ rfl _ _ _ _ rfl _ _ rfl rfl _ _ R5.out ?_
              go_wp2
              generalize w4 = wb at HK M5
              go_loopw [12, 13] (fun o i wr => ∃ (k : Nat) (oa : Option Addr) (oc : Nat), k ≤ m ∧ i = .int .i64 k ∧ o = .slice oa (l ++ units sv k).length oc ∧ OMem wb wr [.row 40 2 (.slice oa (l ++ units sv k).length oc) (l ++ units sv k).length (clVs (l ++ units sv k))]) (fun _ i _ => m - (RowKit.intOf i).toNat)
              case atStart => exact ⟨0, ca, cc, Nat.zero_le _, rfl, by simp [units], M5.out⟩
              case round =>
                obtain ⟨k, oa, oc, hk, rfl, rfl, mm⟩ := hrel
                obtain ⟨L, hL⟩ : ∃ L, L = l ++ units sv k := ⟨_, rfl⟩
                have hLl : L.length ≤ 160 := by rw [hL, List.length_append, units_len]; omega
                rw [← hL] at mm ⊢
                have HLL := Lib.hid hL
                clear hL
                have M := Lib.hid mm
                by_cases hlt : k < m
                · obtain ⟨x, hx⟩ : ∃ x, sv[k]? = some x := ⟨_, List.getElem?_eq_getElem (by omega)⟩
                  have HX := Lib.hid hx
                  obtain ⟨ab, ao, acap, h1, _, hcs⟩ := (HSV.out.keep (HK.out.trans (mm.below.mono HK.out.size))).form (by omega)
                  cases h1
                  have c0 := hcs k x hx
                  clear hcs hx
                  cases x with
                  | true =>
                    have HUN := Lib.hid (un_true HX.out)
                    obtain ⟨da, dc, w7, r7, o7, b7, n7⟩ := copyC_run (ClAt.of_own (mm.rowAt (i := 0) rfl)) (by omega)
                    obtain ⟨ea, ec, w8, r8, o8, b8, n8⟩ := snocC_run b7 o7 n7 (2 * (k : Int) + 1, 2 * (k : Int) + 1) (by omega)
                    have R7 := Lib.hid r7
                    have R8 := Lib.hid r8
                    have M6 := Lib.hid (mm.fresh b8)
                    have HS := Lib.hid (A.solve_none (ClAt.of_own o8) (by rw [List.length_append]; simp; omega) HN.out (by rw [HLL.out]; exact one_right HRI.out (by omega) (by omega) (lit_in (by omega)).2) (by rw [HLL.out]; exact first_no HF.out HX.out))
                    clear r7 o7 b7 n7 r8 o8 b8 n8 mm
                    go_wp2_with (at_builtin; refine Hid.out ?_)
                    refine Lib.hid ?_
                    refine Lib.wpList_append_run _ rfl _ _ _ _ rfl _ _ rfl rfl _ _ R7.out ?_
                    go_wp2_with (at_builtin; refine Hid.out ?_)
                    refine Lib.hid ?_
                    refine Lib.wpList_append_run _ rfl _ _ _ _ rfl _ _ rfl rfl _ _ R8.out ?_
                    clear R7 R8 c0
                    go_wp2_with (go_at_call 17; refine (HS.out).mono ?_; rintro e w9 ⟨u9, c9, cy9, rfl, -, -, b9, -⟩; refine Hid.out ?_)
                    refine Lib.hid ?_
                    have M6 := Lib.hid (M6.out.fresh b9)
                    clear b9 HS M
                    obtain ⟨ya, yc, w7, r7, m7⟩ := M6.out.pushC (i := 0) rfl (2 * (k : Int), 2 * (k : Int)) (by omega)
                    have R7 := Lib.hid r7
                    have M7 := Lib.hid (show OMem wb w7 [.row 40 2 (.slice ya (l ++ units sv (k + 1)).length yc) (l ++ units sv (k + 1)).length (clVs (l ++ units sv (k + 1)))] by
                      have e : l ++ units sv (k + 1) = L ++ [(2 * (k : Int), 2 * (k : Int))] := by rw [units_next, HUN.out, HLL.out, List.append_assoc]
                      rw [e, List.length_append]; exact m7)
                    clear r7 m7
                    go_wp2_with (at_builtin; refine Hid.out ?_)
                    refine Lib.hid ?_
                    refine Lib.wpList_append_run _ rfl _ _ _ _ rfl _ _ rfl rfl _ _ R7.out ?_
                    go_wp2
                    go_roundw
                    case rel => exact ⟨k + 1, ya, yc, by omega, by go_num, by rw [HLL.out, List.length_append, List.length_append, units_len, units_len]; rfl, M7.out⟩
                    case measure => (simp [RowKit.intOf]; try omega)
                  | false =>
                    have HUN := Lib.hid (un_false HX.out)
                    have M6 := M
                    clear mm
                    obtain ⟨ya, yc, w7, r7, m7⟩ := M6.out.pushC (i := 0) rfl (2 * (k : Int) + 1, 2 * (k : Int) + 1) (by omega)
                    have R7 := Lib.hid r7
                    have M7 := Lib.hid (show OMem wb w7 [.row 40 2 (.slice ya (l ++ units sv (k + 1)).length yc) (l ++ units sv (k + 1)).length (clVs (l ++ units sv (k + 1)))] by
                      have e : l ++ units sv (k + 1) = L ++ [(2 * (k : Int) + 1, 2 * (k : Int) + 1)] := by rw [units_next, HUN.out, HLL.out, List.append_assoc]
                      rw [e, List.length_append]; exact m7)
                    clear r7 m7
                    go_wp2_with (at_builtin; refine Hid.out ?_)
                    refine Lib.hid ?_
                    refine Lib.wpList_append_run _ rfl _ _ _ _ rfl _ _ rfl rfl _ _ R7.out ?_
                    go_wp2
                    go_roundw
                    case rel => exact ⟨k + 1, ya, yc, by omega, by go_num, by rw [HLL.out, List.length_append, List.length_append, units_len, units_len]; rfl, M7.out⟩
                    case measure => (simp [RowKit.intOf]; try omega)
                · obtain rfl : k = m := by omega
                  have BE := Lib.hid (B1.out.trans ((HK.out.trans (mm.below.mono HK.out.size)).mono B1.out.size))
                  clear mm
                  go_wp2
                  go_ret
                  exact ⟨rfl, BE.out⟩
            | true =>
              rw [hc] at H1
              have H1 := Lib.hid H1
              have HCK := Lib.hid hc
              have hvl : vs.length = m := by have := len_of hc; omega
              clear hc
              rw [hvl] at HU H1 ⊢
              go_wp2_with (go_at_call 11; refine (H1.out).mono ?_; rintro e w4 ⟨rfl, b4⟩; refine Hid.out ?_)
              refine Lib.hid ?_
              have HK := Lib.hid b4
              clear b4
              go_wp2
              go_loopw [11] (fun i wr => ∃ k : Nat, k ≤ m ∧ i = .int .i64 k ∧ Hid (sv.take k = vs.take k) ∧ Hid (Below w3.heap.size w3 wr)) (fun i _ => m - (RowKit.intOf i).toNat)
              case atStart => exact ⟨0, Nat.zero_le _, rfl, Lib.hid (by simp), HK⟩
              case round =>
                obtain ⟨k, hk, rfl, HT, HB⟩ := hrel
                have HK := Lib.hid (HB.out.trans ((below_drew wr).mono HB.out.size))
                by_cases hlt : k < m
                · obtain ⟨x, hx⟩ : ∃ x, sv[k]? = some x := ⟨_, List.getElem?_eq_getElem (by omega)⟩
                  obtain ⟨y, hy⟩ : ∃ y, vs[k]? = some y := ⟨_, List.getElem?_eq_getElem (by omega)⟩
                  have h5 := HSV.out.keep HB.out
                  have h6 := HU.out.keep HB.out
                  rw [← hsl] at h5
                  obtain ⟨ab, ao, acap, e1, _, hcs⟩ := h5.form (by omega)
                  rw [hsl] at e1
                  cases e1
                  rw [← hvl] at h6
                  obtain ⟨bb, bo, bcap, e2, _, hds⟩ := h6.form (by omega)
                  rw [hvl] at e2
                  cases e2
                  have S0 := And.intro (hcs k x hx) (hds k y hy)
                  have HX := Lib.hid hx
                  have HY := Lib.hid hy
                  clear hcs hds h5 h6 hx hy
                  by_cases hxy : x = y
                  · subst hxy
                    have HT2 := Lib.hid (take_snocB HT.out HX.out HY.out)
                    go_wp2
                    refine region_till 13 (fun wx => wx.cell? ⟨ab, ao + k, none⟩ = some (.bool x) ∧ wx.cell? ⟨bb, bo + k, none⟩ = some (.bool x)) (by kernel_rfl) ?_
                    refine till_take 0 60 false (v := ?v0a) (by kernel_rfl) (by kernel_rfl) (by kernel_rfl) (by kernel_rfl) (by kernel_rfl) (fun _ _ _ h => h) ?hw0a S0 ?hy0a ?rest0a
                    case hw0a => (simp only [List.getElem?_toArray, List.getElem?_cons_zero, Option.elim]; rfl)
                    case hy0a => (simp only [List.getElem?_toArray, List.getElem?_cons_zero, Option.elim]; intro wx _; go_simp; with_reducible rfl)
                    simp only [dstOf, List.getElem?_toArray, List.getElem?_cons_zero, Option.bind, Act.put, List.setIfInBounds_toArray, List.set_cons_zero, List.set_cons_succ]
                    refine till_take 1 60 false (v := ?v1a) (by kernel_rfl) (by kernel_rfl) (by kernel_rfl) (by kernel_rfl) (by kernel_rfl) (fun _ _ _ h => h) ?hw1a S0 ?hy1a ?rest1a
                    case hw1a => (simp only [List.getElem?_toArray, List.getElem?_cons_zero, List.getElem?_cons_succ, Option.elim]; rfl)
                    case hy1a => (simp only [List.getElem?_toArray, List.getElem?_cons_zero, List.getElem?_cons_succ, Option.elim]; intro wx _; go_simp; with_reducible rfl)
                    simp only [dstOf, List.getElem?_toArray, List.getElem?_cons_zero, List.getElem?_cons_succ, Option.bind, Act.put, List.setIfInBounds_toArray, List.set_cons_zero, List.set_cons_succ]
                    refine till_take 2 60 false (v := ?v2a) (by kernel_rfl) (by kernel_rfl) (by kernel_rfl) (by kernel_rfl) (by kernel_rfl) (fun _ _ _ h => h) ?hw2a S0 ?hy2a ?rest2a
                    case hw2a => (simp only [List.getElem?_toArray, List.getElem?_cons_zero, List.getElem?_cons_succ, Option.elim]; rfl)
                    case hy2a => (simp only [List.getElem?_toArray, List.getElem?_cons_zero, List.getElem?_cons_succ, Option.elim]; intro wx _; go_simp; with_reducible rfl)
                    simp only [dstOf, List.getElem?_toArray, List.getElem?_cons_zero, List.getElem?_cons_succ, Option.bind, Act.put, List.setIfInBounds_toArray, List.set_cons_zero, List.set_cons_succ]
                    refine till_take 3 60 false (v := ?v3a) (by kernel_rfl) (by kernel_rfl) (by kernel_rfl) (by kernel_rfl) (by kernel_rfl) (fun _ _ _ h => h) ?hw3a S0 ?hy3a ?rest3a
                    case hw3a => (simp only [List.getElem?_toArray, List.getElem?_cons_zero, List.getElem?_cons_succ, Option.elim]; rfl)
                    case hy3a => (simp only [List.getElem?_toArray, List.getElem?_cons_zero, List.getElem?_cons_succ, Option.elim]; intro wx _; go_simp; with_reducible rfl)
                    simp only [dstOf, List.getElem?_toArray, List.getElem?_cons_zero, List.getElem?_cons_succ, Option.bind, Act.put, List.setIfInBounds_toArray, List.set_cons_zero, List.set_cons_succ]
                    refine till_take 4 60 false (v := ?v4a) (by kernel_rfl) (by kernel_rfl) (by kernel_rfl) (by kernel_rfl) (by kernel_rfl) (fun _ _ _ h => h) ?hw4a S0 ?hy4a ?rest4a
                    case hw4a => (simp only [List.getElem?_toArray, List.getElem?_cons_zero, List.getElem?_cons_succ, Option.elim]; rfl)
                    case hy4a => (simp only [List.getElem?_toArray, List.getElem?_cons_zero, List.getElem?_cons_succ, Option.elim]; intro wx _; go_simp; with_reducible rfl)
                    simp only [dstOf, List.getElem?_toArray, List.getElem?_cons_zero, List.getElem?_cons_succ, Option.bind, Act.put, List.setIfInBounds_toArray, List.set_cons_zero, List.set_cons_succ]
                    refine till_take 5 60 false (v := ?v5a) (by kernel_rfl) (by kernel_rfl) (by kernel_rfl) (by kernel_rfl) (by kernel_rfl) (fun _ _ _ h => h) ?hw5a S0 ?hy5a ?rest5a
                    case hw5a => (simp only [List.getElem?_toArray, List.getElem?_cons_zero, List.getElem?_cons_succ, Option.elim]; rfl)
                    case hy5a => (simp only [List.getElem?_toArray, List.getElem?_cons_zero, List.getElem?_cons_succ, Option.elim]; intro wx _; go_simp; with_reducible rfl)
                    simp only [dstOf, List.getElem?_toArray, List.getElem?_cons_zero, List.getElem?_cons_succ, Option.bind, Act.put, List.setIfInBounds_toArray, List.set_cons_zero, List.set_cons_succ]
                    refine till_take 6 60 false (v := ?v6a) (by kernel_rfl) (by kernel_rfl) (by kernel_rfl) (by kernel_rfl) (by kernel_rfl) (fun _ _ _ h => h) ?hw6a S0 ?hy6a ?rest6a
                    case hw6a => (simp only [List.getElem?_toArray, List.getElem?_cons_zero, List.getElem?_cons_succ, Option.elim]; rfl)
                    case hy6a => (simp only [List.getElem?_toArray, List.getElem?_cons_zero, List.getElem?_cons_succ, Option.elim]; intro wx _; go_simp; with_reducible rfl)
                    simp only [dstOf, List.getElem?_toArray, List.getElem?_cons_zero, List.getElem?_cons_succ, Option.bind, Act.put, List.setIfInBounds_toArray, List.set_cons_zero, List.set_cons_succ]
                    refine till_take 7 60 true (v := ?v7a) (by kernel_rfl) (by kernel_rfl) (by kernel_rfl) (by kernel_rfl) (by kernel_rfl) (fun _ _ _ h => h) ?hw7a S0 ?hy7a ?rest7a
                    case hw7a => (simp only [List.getElem?_toArray, List.getElem?_cons_zero, List.getElem?_cons_succ, Option.elim]; rfl)
                    case hy7a => (simp only [List.getElem?_toArray, List.getElem?_cons_zero, List.getElem?_cons_succ, Option.elim]; intro wx hx; have x0 := (hx trivial).1; have x1 := (hx trivial).2; go_simp; with_reducible rfl)
                    simp only [dstOf, List.getElem?_toArray, List.getElem?_cons_zero, List.getElem?_cons_succ, Option.bind, Act.put, List.setIfInBounds_toArray, List.set_cons_zero, List.set_cons_succ]
                    refine till_take 8 60 false (v := ?v8a) (by kernel_rfl) (by kernel_rfl) (by kernel_rfl) (by kernel_rfl) (by kernel_rfl) (fun _ _ _ h => h) ?hw8a S0 ?hy8a ?rest8a
                    case hw8a => (simp only [List.getElem?_toArray, List.getElem?_cons_zero, List.getElem?_cons_succ, Option.elim]; rfl)
                    case hy8a => (simp only [List.getElem?_toArray, List.getElem?_cons_zero, List.getElem?_cons_succ, Option.elim]; intro wx _; go_simp; with_reducible rfl)
                    simp only [dstOf, List.getElem?_toArray, List.getElem?_cons_zero, List.getElem?_cons_succ, Option.bind, Act.put, List.setIfInBounds_toArray, List.set_cons_zero, List.set_cons_succ]
                    refine till_take 9 60 false (v := ?v9a) (by kernel_rfl) (by kernel_rfl) (by kernel_rfl) (by kernel_rfl) (by kernel_rfl) (fun _ _ _ h => h) ?hw9a S0 ?hy9a ?rest9a
                    case hw9a => (simp only [List.getElem?_toArray, List.getElem?_cons_zero, List.getElem?_cons_succ, Option.elim]; rfl)
                    case hy9a => (simp only [List.getElem?_toArray, List.getElem?_cons_zero, List.getElem?_cons_succ, Option.elim]; intro wx _; go_simp; with_reducible rfl)
                    simp only [dstOf, List.getElem?_toArray, List.getElem?_cons_zero, List.getElem?_cons_succ, Option.bind, Act.put, List.setIfInBounds_toArray, List.set_cons_zero, List.set_cons_succ]
                    refine till_take 10 60 false (v := ?v10a) (by kernel_rfl) (by kernel_rfl) (by kernel_rfl) (by kernel_rfl) (by kernel_rfl) (fun _ _ _ h => h) ?hw10a S0 ?hy10a ?rest10a
                    case hw10a => (simp only [List.getElem?_toArray, List.getElem?_cons_zero, List.getElem?_cons_succ, Option.elim]; rfl)
                    case hy10a => (simp only [List.getElem?_toArray, List.getElem?_cons_zero, List.getElem?_cons_succ, Option.elim]; intro wx _; go_simp; with_reducible rfl)
                    simp only [dstOf, List.getElem?_toArray, List.getElem?_cons_zero, List.getElem?_cons_succ, Option.bind, Act.put, List.setIfInBounds_toArray, List.set_cons_zero, List.set_cons_succ]
                    refine till_take 11 60 true (v := ?v11a) (by kernel_rfl) (by kernel_rfl) (by kernel_rfl) (by kernel_rfl) (by kernel_rfl) (fun _ _ _ h => h) ?hw11a S0 ?hy11a ?rest11a
                    case hw11a => (simp only [List.getElem?_toArray, List.getElem?_cons_zero, List.getElem?_cons_succ, Option.elim]; rfl)
                    case hy11a => (simp only [List.getElem?_toArray, List.getElem?_cons_zero, List.getElem?_cons_succ, Option.elim]; intro wx hx; have x0 := (hx trivial).1; have x1 := (hx trivial).2; go_simp; with_reducible rfl)
                    simp only [dstOf, List.getElem?_toArray, List.getElem?_cons_zero, List.getElem?_cons_succ, Option.bind, Act.put, List.setIfInBounds_toArray, List.set_cons_zero, List.set_cons_succ]
                    refine till_take 12 60 false (v := ?v12a) (by kernel_rfl) (by kernel_rfl) (by kernel_rfl) (by kernel_rfl) (by kernel_rfl) (fun _ _ _ h => h) ?hw12a S0 ?hy12a ?rest12a
                    case hw12a => (simp only [List.getElem?_toArray, List.getElem?_cons_zero, List.getElem?_cons_succ, Option.elim]; rfl)
                    case hy12a => (simp only [List.getElem?_toArray, List.getElem?_cons_zero, List.getElem?_cons_succ, Option.elim]; intro wx _; go_simp; with_reducible rfl)
                    simp only [dstOf, List.getElem?_toArray, List.getElem?_cons_zero, List.getElem?_cons_succ, Option.bind, Act.put, List.setIfInBounds_toArray, List.set_cons_zero, List.set_cons_succ]
                    refine till_step 13 (by kernel_rfl) (by kernel_rfl) (fun K hK => ?_)
                    simp only [List.getElem?_toArray, List.getElem?_cons_zero, List.getElem?_cons_succ, Option.elim]
                    rw [if_pos (by rfl)]
                    go_simp
                    refine hK.out _ _ ?_
                    clear hK K
                    try simp only [Act.put, List.setIfInBounds_toArray, List.set_cons_zero, List.set_cons_succ]
                    refine till_end (by kernel_rfl) ?_ _
                    clear S0
                    go_wp2
                    go_roundw
                    case rel => exact ⟨k + 1, by omega, by go_num, HT2, HK⟩
                    case measure => (simp [RowKit.intOf]; try omega)
                  · have hx0 : x = false := by
                      have := first_at HF.out HCK.out HT.out (by rw [HX.out, HY.out]; exact fun e => hxy (Option.some.inj e))
                      rw [HX.out] at this
                      cases x with
                      | false => rfl
                      | true => exact (this rfl).elim
                    subst hx0
                    have hy0 : y = true := by
                      cases y with
                      | true => rfl
                      | false => exact (hxy rfl).elim
                    subst hy0
                    clear hxy
                    go_wp2
                    refine region_till 13 (fun wx => wx.cell? ⟨ab, ao + k, none⟩ = some (.bool false) ∧ wx.cell? ⟨bb, bo + k, none⟩ = some (.bool true)) (by kernel_rfl) ?_
                    refine till_take 0 60 false (v := ?v0b) (by kernel_rfl) (by kernel_rfl) (by kernel_rfl) (by kernel_rfl) (by kernel_rfl) (fun _ _ _ h => h) ?hw0b S0 ?hy0b ?rest0b
                    case hw0b => (simp only [List.getElem?_toArray, List.getElem?_cons_zero, Option.elim]; rfl)
                    case hy0b => (simp only [List.getElem?_toArray, List.getElem?_cons_zero, Option.elim]; intro wx _; go_simp; with_reducible rfl)
                    simp only [dstOf, List.getElem?_toArray, List.getElem?_cons_zero, Option.bind, Act.put, List.setIfInBounds_toArray, List.set_cons_zero, List.set_cons_succ]
                    refine till_take 1 60 false (v := ?v1b) (by kernel_rfl) (by kernel_rfl) (by kernel_rfl) (by kernel_rfl) (by kernel_rfl) (fun _ _ _ h => h) ?hw1b S0 ?hy1b ?rest1b
                    case hw1b => (simp only [List.getElem?_toArray, List.getElem?_cons_zero, List.getElem?_cons_succ, Option.elim]; rfl)
                    case hy1b => (simp only [List.getElem?_toArray, List.getElem?_cons_zero, List.getElem?_cons_succ, Option.elim]; intro wx _; go_simp; with_reducible rfl)
                    simp only [dstOf, List.getElem?_toArray, List.getElem?_cons_zero, List.getElem?_cons_succ, Option.bind, Act.put, List.setIfInBounds_toArray, List.set_cons_zero, List.set_cons_succ]
                    refine till_take 2 60 false (v := ?v2b) (by kernel_rfl) (by kernel_rfl) (by kernel_rfl) (by kernel_rfl) (by kernel_rfl) (fun _ _ _ h => h) ?hw2b S0 ?hy2b ?rest2b
                    case hw2b => (simp only [List.getElem?_toArray, List.getElem?_cons_zero, List.getElem?_cons_succ, Option.elim]; rfl)
                    case hy2b => (simp only [List.getElem?_toArray, List.getElem?_cons_zero, List.getElem?_cons_succ, Option.elim]; intro wx _; go_simp; with_reducible rfl)
                    simp only [dstOf, List.getElem?_toArray, List.getElem?_cons_zero, List.getElem?_cons_succ, Option.bind, Act.put, List.setIfInBounds_toArray, List.set_cons_zero, List.set_cons_succ]
                    refine till_take 3 60 false (v := ?v3b) (by kernel_rfl) (by kernel_rfl) (by kernel_rfl) (by kernel_rfl) (by kernel_rfl) (fun _ _ _ h => h) ?hw3b S0 ?hy3b ?rest3b
                    case hw3b => (simp only [List.getElem?_toArray, List.getElem?_cons_zero, List.getElem?_cons_succ, Option.elim]; rfl)
                    case hy3b => (simp only [List.getElem?_toArray, List.getElem?_cons_zero, List.getElem?_cons_succ, Option.elim]; intro wx _; go_simp; with_reducible rfl)
                    simp only [dstOf, List.getElem?_toArray, List.getElem?_cons_zero, List.getElem?_cons_succ, Option.bind, Act.put, List.setIfInBounds_toArray, List.set_cons_zero, List.set_cons_succ]
                    refine till_take 4 60 false (v := ?v4b) (by kernel_rfl) (by kernel_rfl) (by kernel_rfl) (by kernel_rfl) (by kernel_rfl) (fun _ _ _ h => h) ?hw4b S0 ?hy4b ?rest4b
                    case hw4b => (simp only [List.getElem?_toArray, List.getElem?_cons_zero, List.getElem?_cons_succ, Option.elim]; rfl)
                    case hy4b => (simp only [List.getElem?_toArray, List.getElem?_cons_zero, List.getElem?_cons_succ, Option.elim]; intro wx _; go_simp; with_reducible rfl)
                    simp only [dstOf, List.getElem?_toArray, List.getElem?_cons_zero, List.getElem?_cons_succ, Option.bind, Act.put, List.setIfInBounds_toArray, List.set_cons_zero, List.set_cons_succ]
                    refine till_take 5 60 false (v := ?v5b) (by kernel_rfl) (by kernel_rfl) (by kernel_rfl) (by kernel_rfl) (by kernel_rfl) (fun _ _ _ h => h) ?hw5b S0 ?hy5b ?rest5b
                    case hw5b => (simp only [List.getElem?_toArray, List.getElem?_cons_zero, List.getElem?_cons_succ, Option.elim]; rfl)
                    case hy5b => (simp only [List.getElem?_toArray, List.getElem?_cons_zero, List.getElem?_cons_succ, Option.elim]; intro wx _; go_simp; with_reducible rfl)
                    simp only [dstOf, List.getElem?_toArray, List.getElem?_cons_zero, List.getElem?_cons_succ, Option.bind, Act.put, List.setIfInBounds_toArray, List.set_cons_zero, List.set_cons_succ]
                    refine till_take 6 60 false (v := ?v6b) (by kernel_rfl) (by kernel_rfl) (by kernel_rfl) (by kernel_rfl) (by kernel_rfl) (fun _ _ _ h => h) ?hw6b S0 ?hy6b ?rest6b
                    case hw6b => (simp only [List.getElem?_toArray, List.getElem?_cons_zero, List.getElem?_cons_succ, Option.elim]; rfl)
                    case hy6b => (simp only [List.getElem?_toArray, List.getElem?_cons_zero, List.getElem?_cons_succ, Option.elim]; intro wx _; go_simp; with_reducible rfl)
                    simp only [dstOf, List.getElem?_toArray, List.getElem?_cons_zero, List.getElem?_cons_succ, Option.bind, Act.put, List.setIfInBounds_toArray, List.set_cons_zero, List.set_cons_succ]
                    refine till_take 7 60 true (v := ?v7b) (by kernel_rfl) (by kernel_rfl) (by kernel_rfl) (by kernel_rfl) (by kernel_rfl) (fun _ _ _ h => h) ?hw7b S0 ?hy7b ?rest7b
                    case hw7b => (simp only [List.getElem?_toArray, List.getElem?_cons_zero, List.getElem?_cons_succ, Option.elim]; rfl)
                    case hy7b => (simp only [List.getElem?_toArray, List.getElem?_cons_zero, List.getElem?_cons_succ, Option.elim]; intro wx hx; have x0 := (hx trivial).1; have x1 := (hx trivial).2; go_simp; with_reducible rfl)
                    simp only [dstOf, List.getElem?_toArray, List.getElem?_cons_zero, List.getElem?_cons_succ, Option.bind, Act.put, List.setIfInBounds_toArray, List.set_cons_zero, List.set_cons_succ]
                    refine till_take 8 60 false (v := ?v8b) (by kernel_rfl) (by kernel_rfl) (by kernel_rfl) (by kernel_rfl) (by kernel_rfl) (fun _ _ _ h => h) ?hw8b S0 ?hy8b ?rest8b
                    case hw8b => (simp only [List.getElem?_toArray, List.getElem?_cons_zero, List.getElem?_cons_succ, Option.elim]; rfl)
                    case hy8b => (simp only [List.getElem?_toArray, List.getElem?_cons_zero, List.getElem?_cons_succ, Option.elim]; intro wx _; go_simp; with_reducible rfl)
                    simp only [dstOf, List.getElem?_toArray, List.getElem?_cons_zero, List.getElem?_cons_succ, Option.bind, Act.put, List.setIfInBounds_toArray, List.set_cons_zero, List.set_cons_succ]
                    refine till_take 9 60 false (v := ?v9b) (by kernel_rfl) (by kernel_rfl) (by kernel_rfl) (by kernel_rfl) (by kernel_rfl) (fun _ _ _ h => h) ?hw9b S0 ?hy9b ?rest9b
                    case hw9b => (simp only [List.getElem?_toArray, List.getElem?_cons_zero, List.getElem?_cons_succ, Option.elim]; rfl)
                    case hy9b => (simp only [List.getElem?_toArray, List.getElem?_cons_zero, List.getElem?_cons_succ, Option.elim]; intro wx _; go_simp; with_reducible rfl)
                    simp only [dstOf, List.getElem?_toArray, List.getElem?_cons_zero, List.getElem?_cons_succ, Option.bind, Act.put, List.setIfInBounds_toArray, List.set_cons_zero, List.set_cons_succ]
                    refine till_take 10 60 false (v := ?v10b) (by kernel_rfl) (by kernel_rfl) (by kernel_rfl) (by kernel_rfl) (by kernel_rfl) (fun _ _ _ h => h) ?hw10b S0 ?hy10b ?rest10b
                    case hw10b => (simp only [List.getElem?_toArray, List.getElem?_cons_zero, List.getElem?_cons_succ, Option.elim]; rfl)
                    case hy10b => (simp only [List.getElem?_toArray, List.getElem?_cons_zero, List.getElem?_cons_succ, Option.elim]; intro wx _; go_simp; with_reducible rfl)
                    simp only [dstOf, List.getElem?_toArray, List.getElem?_cons_zero, List.getElem?_cons_succ, Option.bind, Act.put, List.setIfInBounds_toArray, List.set_cons_zero, List.set_cons_succ]
                    refine till_take 11 60 true (v := ?v11b) (by kernel_rfl) (by kernel_rfl) (by kernel_rfl) (by kernel_rfl) (by kernel_rfl) (fun _ _ _ h => h) ?hw11b S0 ?hy11b ?rest11b
                    case hw11b => (simp only [List.getElem?_toArray, List.getElem?_cons_zero, List.getElem?_cons_succ, Option.elim]; rfl)
                    case hy11b => (simp only [List.getElem?_toArray, List.getElem?_cons_zero, List.getElem?_cons_succ, Option.elim]; intro wx hx; have x0 := (hx trivial).1; have x1 := (hx trivial).2; go_simp; with_reducible rfl)
                    simp only [dstOf, List.getElem?_toArray, List.getElem?_cons_zero, List.getElem?_cons_succ, Option.bind, Act.put, List.setIfInBounds_toArray, List.set_cons_zero, List.set_cons_succ]
                    refine till_take 12 60 false (v := ?v12b) (by kernel_rfl) (by kernel_rfl) (by kernel_rfl) (by kernel_rfl) (by kernel_rfl) (fun _ _ _ h => h) ?hw12b S0 ?hy12b ?rest12b
                    case hw12b => (simp only [List.getElem?_toArray, List.getElem?_cons_zero, List.getElem?_cons_succ, Option.elim]; rfl)
                    case hy12b => (simp only [List.getElem?_toArray, List.getElem?_cons_zero, List.getElem?_cons_succ, Option.elim]; intro wx _; go_simp; with_reducible rfl)
                    simp only [dstOf, List.getElem?_toArray, List.getElem?_cons_zero, List.getElem?_cons_succ, Option.bind, Act.put, List.setIfInBounds_toArray, List.set_cons_zero, List.set_cons_succ]
                    refine till_step 13 (by kernel_rfl) (by kernel_rfl) (fun K hK => ?_)
                    simp only [List.getElem?_toArray, List.getElem?_cons_zero, List.getElem?_cons_succ, Option.elim]
                    rw [if_pos (by rfl)]
                    go_simp
                    refine hK.out _ _ ?_
                    clear hK K
                    try simp only [Act.put, List.setIfInBounds_toArray, List.set_cons_zero, List.set_cons_succ]
                    refine till_end (by kernel_rfl) ?_ _
                    clear S0
                    have c0 : wr.drew.cell? ⟨ab, ao + k, none⟩ = some (.bool false) := by
                      have h5 := HSV.out.keep HK.out
                      exact h5.at_ HX.out
                    generalize wr.drew = wd at HK c0 ⊢
                    have HVb := HV.out.keep HK.out
                    obtain ⟨ca, cc, w5, r5, o5, b5, n5⟩ := copyC_run HVb (by omega)
                    have R5 := Lib.hid r5
                    have M5 := Lib.hid (show OMem wd w5 [.row 40 2 (.slice ca (l ++ units sv 0).length cc) (l ++ units sv 0).length (clVs (l ++ units sv 0))] by
                      rw [show l ++ units sv 0 = l by simp [units]]; exact (OMem.start _).rowNewAt b5 o5 n5)
                    clear r5 o5 b5 n5 HVb
                    go_wp2_with (at_builtin; refine Hid.out ?_)
                    refine Lib.hid ?_
                    refine Lib.wpList_append_run _ rfl _ _ _ _ rfl _ _ rfl rfl _ _ R5.out ?_
                    go_wp2
                    generalize wd = wb at HK M5
                    go_loopw [12, 13] (fun o i wr => ∃ (k : Nat) (oa : Option Addr) (oc : Nat), k ≤ m ∧ i = .int .i64 k ∧ o = .slice oa (l ++ units sv k).length oc ∧ OMem wb wr [.row 40 2 (.slice oa (l ++ units sv k).length oc) (l ++ units sv k).length (clVs (l ++ units sv k))]) (fun _ i _ => m - (RowKit.intOf i).toNat)
                    case atStart => exact ⟨0, ca, cc, Nat.zero_le _, rfl, by simp [units], M5.out⟩
                    case round =>
                      obtain ⟨k, oa, oc, hk, rfl, rfl, mm⟩ := hrel
                      obtain ⟨L, hL⟩ : ∃ L, L = l ++ units sv k := ⟨_, rfl⟩
                      have hLl : L.length ≤ 160 := by rw [hL, List.length_append, units_len]; omega
                      rw [← hL] at mm ⊢
                      have HLL := Lib.hid hL
                      clear hL
                      have M := Lib.hid mm
                      by_cases hlt : k < m
                      · obtain ⟨x, hx⟩ : ∃ x, sv[k]? = some x := ⟨_, List.getElem?_eq_getElem (by omega)⟩
                        have HX := Lib.hid hx
                        obtain ⟨ab, ao, acap, h1, _, hcs⟩ := (HSV.out.keep (HK.out.trans (mm.below.mono HK.out.size))).form (by omega)
                        cases h1
                        have c0 := hcs k x hx
                        clear hcs hx
                        cases x with
                        | true =>
                          have HUN := Lib.hid (un_true HX.out)
                          obtain ⟨da, dc, w7, r7, o7, b7, n7⟩ := copyC_run (ClAt.of_own (mm.rowAt (i := 0) rfl)) (by omega)
                          obtain ⟨ea, ec, w8, r8, o8, b8, n8⟩ := snocC_run b7 o7 n7 (2 * (k : Int) + 1, 2 * (k : Int) + 1) (by omega)
                          have R7 := Lib.hid r7
                          have R8 := Lib.hid r8
                          have M6 := Lib.hid (mm.fresh b8)
                          have HS := Lib.hid (A.solve_none (ClAt.of_own o8) (by rw [List.length_append]; simp; omega) HN.out (by rw [HLL.out]; exact one_right HRI.out (by omega) (by omega) (lit_in (by omega)).2) (by rw [HLL.out]; exact first_no HF.out HX.out))
                          clear r7 o7 b7 n7 r8 o8 b8 n8 mm
                          go_wp2_with (at_builtin; refine Hid.out ?_)
                          refine Lib.hid ?_
                          refine Lib.wpList_append_run _ rfl _ _ _ _ rfl _ _ rfl rfl _ _ R7.out ?_
                          go_wp2_with (at_builtin; refine Hid.out ?_)
                          refine Lib.hid ?_
                          refine Lib.wpList_append_run _ rfl _ _ _ _ rfl _ _ rfl rfl _ _ R8.out ?_
                          clear R7 R8 c0
                          go_wp2_with (go_at_call 17; refine (HS.out).mono ?_; rintro e w9 ⟨u9, c9, cy9, rfl, -, -, b9, -⟩; refine Hid.out ?_)
                          refine Lib.hid ?_
                          have M6 := Lib.hid (M6.out.fresh b9)
                          clear b9 HS M
                          obtain ⟨ya, yc, w7, r7, m7⟩ := M6.out.pushC (i := 0) rfl (2 * (k : Int), 2 * (k : Int)) (by omega)
                          have R7 := Lib.hid r7
                          have M7 := Lib.hid (show OMem wb w7 [.row 40 2 (.slice ya (l ++ units sv (k + 1)).length yc) (l ++ units sv (k + 1)).length (clVs (l ++ units sv (k + 1)))] by
                            have e : l ++ units sv (k + 1) = L ++ [(2 * (k : Int), 2 * (k : Int))] := by rw [units_next, HUN.out, HLL.out, List.append_assoc]
                            rw [e, List.length_append]; exact m7)
                          clear r7 m7
                          go_wp2_with (at_builtin; refine Hid.out ?_)
                          refine Lib.hid ?_
                          refine Lib.wpList_append_run _ rfl _ _ _ _ rfl _ _ rfl rfl _ _ R7.out ?_
                          go_wp2
                          go_roundw
                          case rel => exact ⟨k + 1, ya, yc, by omega, by go_num, by rw [HLL.out, List.length_append, List.length_append, units_len, units_len]; rfl, M7.out⟩
                          case measure => (simp [RowKit.intOf]; try omega)
                        | false =>
                          have HUN := Lib.hid (un_false HX.out)
                          have M6 := M
                          clear mm
                          obtain ⟨ya, yc, w7, r7, m7⟩ := M6.out.pushC (i := 0) rfl (2 * (k : Int) + 1, 2 * (k : Int) + 1) (by omega)
                          have R7 := Lib.hid r7
                          have M7 := Lib.hid (show OMem wb w7 [.row 40 2 (.slice ya (l ++ units sv (k + 1)).length yc) (l ++ units sv (k + 1)).length (clVs (l ++ units sv (k + 1)))] by
                            have e : l ++ units sv (k + 1) = L ++ [(2 * (k : Int) + 1, 2 * (k : Int) + 1)] := by rw [units_next, HUN.out, HLL.out, List.append_assoc]
                            rw [e, List.length_append]; exact m7)
                          clear r7 m7
                          go_wp2_with (at_builtin; refine Hid.out ?_)
                          refine Lib.hid ?_
                          refine Lib.wpList_append_run _ rfl _ _ _ _ rfl _ _ rfl rfl _ _ R7.out ?_
                          go_wp2
                          go_roundw
                          case rel => exact ⟨k + 1, ya, yc, by omega, by go_num, by rw [HLL.out, List.length_append, List.length_append, units_len, units_len]; rfl, M7.out⟩
                          case measure => (simp [RowKit.intOf]; try omega)
                      · obtain rfl : k = m := by omega
                        have BE := Lib.hid (B1.out.trans ((HK.out.trans (mm.below.mono HK.out.size)).mono B1.out.size))
                        clear mm
                        go_wp2
                        go_ret
                        exact ⟨rfl, BE.out⟩
                · obtain rfl : m = k := by omega
                  go_wp2
                  have S0 := True.intro
                  refine region_till 13 (fun wx => True) (by kernel_rfl) ?_
                  refine till_take 0 60 false (v := ?v0c) (by kernel_rfl) (by kernel_rfl) (by kernel_rfl) (by kernel_rfl) (by kernel_rfl) (fun _ _ _ h => h) ?hw0c S0 ?hy0c ?rest0c
                  case hw0c => (simp only [List.getElem?_toArray, List.getElem?_cons_zero, Option.elim]; rfl)
                  case hy0c => (simp only [List.getElem?_toArray, List.getElem?_cons_zero, Option.elim]; intro wx _; go_simp; with_reducible rfl)
                  simp only [dstOf, List.getElem?_toArray, List.getElem?_cons_zero, Option.bind, Act.put, List.setIfInBounds_toArray, List.set_cons_zero, List.set_cons_succ]
                  refine till_take 1 60 false (v := ?v1c) (by kernel_rfl) (by kernel_rfl) (by kernel_rfl) (by kernel_rfl) (by kernel_rfl) (fun _ _ _ h => h) ?hw1c S0 ?hy1c ?rest1c
                  case hw1c => (simp only [List.getElem?_toArray, List.getElem?_cons_zero, List.getElem?_cons_succ, Option.elim]; rfl)
                  case hy1c => (simp only [List.getElem?_toArray, List.getElem?_cons_zero, List.getElem?_cons_succ, Option.elim]; intro wx _; go_simp; with_reducible rfl)
                  simp only [dstOf, List.getElem?_toArray, List.getElem?_cons_zero, List.getElem?_cons_succ, Option.bind, Act.put, List.setIfInBounds_toArray, List.set_cons_zero, List.set_cons_succ]
                  refine till_take 2 60 false (v := ?v2c) (by kernel_rfl) (by kernel_rfl) (by kernel_rfl) (by kernel_rfl) (by kernel_rfl) (fun _ _ _ h => h) ?hw2c S0 ?hy2c ?rest2c
                  case hw2c => (simp only [List.getElem?_toArray, List.getElem?_cons_zero, List.getElem?_cons_succ, Option.elim]; rfl)
                  case hy2c => (simp only [List.getElem?_toArray, List.getElem?_cons_zero, List.getElem?_cons_succ, Option.elim]; intro wx _; go_simp; with_reducible rfl)
                  simp only [dstOf, List.getElem?_toArray, List.getElem?_cons_zero, List.getElem?_cons_succ, Option.bind, Act.put, List.setIfInBounds_toArray, List.set_cons_zero, List.set_cons_succ]
                  refine till_take 3 60 false (v := ?v3c) (by kernel_rfl) (by kernel_rfl) (by kernel_rfl) (by kernel_rfl) (by kernel_rfl) (fun _ _ _ h => h) ?hw3c S0 ?hy3c ?rest3c
                  case hw3c => (simp only [List.getElem?_toArray, List.getElem?_cons_zero, List.getElem?_cons_succ, Option.elim]; rfl)
                  case hy3c => (simp only [List.getElem?_toArray, List.getElem?_cons_zero, List.getElem?_cons_succ, Option.elim]; intro wx _; go_simp; with_reducible rfl)
                  simp only [dstOf, List.getElem?_toArray, List.getElem?_cons_zero, List.getElem?_cons_succ, Option.bind, Act.put, List.setIfInBounds_toArray, List.set_cons_zero, List.set_cons_succ]
                  refine till_skip 4 (by kernel_rfl) (by kernel_rfl) (by kernel_rfl) (by kernel_rfl) (fun _ _ _ h => h) ?hw4c (fun _ => S0) ?rest4c
                  case hw4c => (simp only [List.getElem?_toArray, List.getElem?_cons_zero, List.getElem?_cons_succ, Option.elim]; rfl)
                  simp only [dstOf, List.getElem?_toArray, List.getElem?_cons_zero, List.getElem?_cons_succ, Option.bind, Act.put, List.setIfInBounds_toArray, List.set_cons_zero, List.set_cons_succ]
                  refine till_skip 5 (by kernel_rfl) (by kernel_rfl) (by kernel_rfl) (by kernel_rfl) (fun _ _ _ h => h) ?hw5c (fun _ => S0) ?rest5c
                  case hw5c => (simp only [List.getElem?_toArray, List.getElem?_cons_zero, List.getElem?_cons_succ, Option.elim]; rfl)
                  simp only [dstOf, List.getElem?_toArray, List.getElem?_cons_zero, List.getElem?_cons_succ, Option.bind, Act.put, List.setIfInBounds_toArray, List.set_cons_zero, List.set_cons_succ]
                  refine till_skip 6 (by kernel_rfl) (by kernel_rfl) (by kernel_rfl) (by kernel_rfl) (fun _ _ _ h => h) ?hw6c (fun _ => S0) ?rest6c
                  case hw6c => (simp only [List.getElem?_toArray, List.getElem?_cons_zero, List.getElem?_cons_succ, Option.elim]; rfl)
                  simp only [dstOf, List.getElem?_toArray, List.getElem?_cons_zero, List.getElem?_cons_succ, Option.bind, Act.put, List.setIfInBounds_toArray, List.set_cons_zero, List.set_cons_succ]
                  refine till_skip 7 (by kernel_rfl) (by kernel_rfl) (by kernel_rfl) (by kernel_rfl) (fun _ _ _ h => h) ?hw7c (fun _ => S0) ?rest7c
                  case hw7c => (simp only [List.getElem?_toArray, List.getElem?_cons_zero, List.getElem?_cons_succ, Option.elim]; rfl)
                  simp only [dstOf, List.getElem?_toArray, List.getElem?_cons_zero, List.getElem?_cons_succ, Option.bind, Act.put, List.setIfInBounds_toArray, List.set_cons_zero, List.set_cons_succ]
                  refine till_skip 8 (by kernel_rfl) (by kernel_rfl) (by kernel_rfl) (by kernel_rfl) (fun _ _ _ h => h) ?hw8c (fun _ => S0) ?rest8c
                  case hw8c => (simp only [List.getElem?_toArray, List.getElem?_cons_zero, List.getElem?_cons_succ, Option.elim]; rfl)
                  simp only [dstOf, List.getElem?_toArray, List.getElem?_cons_zero, List.getElem?_cons_succ, Option.bind, Act.put, List.setIfInBounds_toArray, List.set_cons_zero, List.set_cons_succ]
                  refine till_skip 9 (by kernel_rfl) (by kernel_rfl) (by kernel_rfl) (by kernel_rfl) (fun _ _ _ h => h) ?hw9c (fun _ => S0) ?rest9c
                  case hw9c => (simp only [List.getElem?_toArray, List.getElem?_cons_zero, List.getElem?_cons_succ, Option.elim]; rfl)
                  simp only [dstOf, List.getElem?_toArray, List.getElem?_cons_zero, List.getElem?_cons_succ, Option.bind, Act.put, List.setIfInBounds_toArray, List.set_cons_zero, List.set_cons_succ]
                  refine till_skip 10 (by kernel_rfl) (by kernel_rfl) (by kernel_rfl) (by kernel_rfl) (fun _ _ _ h => h) ?hw10c (fun _ => S0) ?rest10c
                  case hw10c => (simp only [List.getElem?_toArray, List.getElem?_cons_zero, List.getElem?_cons_succ, Option.elim]; rfl)
                  simp only [dstOf, List.getElem?_toArray, List.getElem?_cons_zero, List.getElem?_cons_succ, Option.bind, Act.put, List.setIfInBounds_toArray, List.set_cons_zero, List.set_cons_succ]
                  refine till_skip 11 (by kernel_rfl) (by kernel_rfl) (by kernel_rfl) (by kernel_rfl) (fun _ _ _ h => h) ?hw11c (fun _ => S0) ?rest11c
                  case hw11c => (simp only [List.getElem?_toArray, List.getElem?_cons_zero, List.getElem?_cons_succ, Option.elim]; rfl)
                  simp only [dstOf, List.getElem?_toArray, List.getElem?_cons_zero, List.getElem?_cons_succ, Option.bind, Act.put, List.setIfInBounds_toArray, List.set_cons_zero, List.set_cons_succ]
                  refine till_skip 12 (by kernel_rfl) (by kernel_rfl) (by kernel_rfl) (by kernel_rfl) (fun _ _ _ h => h) ?hw12c (fun _ => S0) ?rest12c
                  case hw12c => (simp only [List.getElem?_toArray, List.getElem?_cons_zero, List.getElem?_cons_succ, Option.elim]; rfl)
                  simp only [dstOf, List.getElem?_toArray, List.getElem?_cons_zero, List.getElem?_cons_succ, Option.bind, Act.put, List.setIfInBounds_toArray, List.set_cons_zero, List.set_cons_succ]
                  refine till_step 13 (by kernel_rfl) (by kernel_rfl) (fun K hK => ?_)
                  simp only [List.getElem?_toArray, List.getElem?_cons_zero, List.getElem?_cons_succ, Option.elim]
                  rw [if_pos (by rfl)]
                  go_simp
                  refine hK.out _ _ ?_
                  clear hK K
                  try simp only [Act.put, List.setIfInBounds_toArray, List.set_cons_zero, List.set_cons_succ]
                  refine till_end (by kernel_rfl) ?_ _
                  clear S0
                  generalize wr.drew = wd at HK ⊢
                  have HVb := HV.out.keep HK.out
                  obtain ⟨ca, cc, w5, r5, o5, b5, n5⟩ := copyC_run HVb (by omega)
                  have R5 := Lib.hid r5
                  have M5 := Lib.hid (show OMem wd w5 [.row 40 2 (.slice ca (l ++ units sv 0).length cc) (l ++ units sv 0).length (clVs (l ++ units sv 0))] by
                    rw [show l ++ units sv 0 = l by simp [units]]; exact (OMem.start _).rowNewAt b5 o5 n5)
                  clear r5 o5 b5 n5 HVb
                  go_wp2_with (at_builtin; refine Hid.out ?_)
                  refine Lib.hid ?_
                  refine Lib.wpList_append_run _ rfl _ _ _ _ rfl _ _ rfl rfl _ _ R5.out ?_
                  go_wp2
                  generalize wd = wb at HK M5
                  go_loopw [12, 13] (fun o i wr => ∃ (k : Nat) (oa : Option Addr) (oc : Nat), k ≤ m ∧ i = .int .i64 k ∧ o = .slice oa (l ++ units sv k).length oc ∧ OMem wb wr [.row 40 2 (.slice oa (l ++ units sv k).length oc) (l ++ units sv k).length (clVs (l ++ units sv k))]) (fun _ i _ => m - (RowKit.intOf i).toNat)
                  case atStart => exact ⟨0, ca, cc, Nat.zero_le _, rfl, by simp [units], M5.out⟩
                  case round =>
                    obtain ⟨k, oa, oc, hk, rfl, rfl, mm⟩ := hrel
                    obtain ⟨L, hL⟩ : ∃ L, L = l ++ units sv k := ⟨_, rfl⟩
                    have hLl : L.length ≤ 160 := by rw [hL, List.length_append, units_len]; omega
                    rw [← hL] at mm ⊢
                    have HLL := Lib.hid hL
                    clear hL
                    have M := Lib.hid mm
                    by_cases hlt : k < m
                    · obtain ⟨x, hx⟩ : ∃ x, sv[k]? = some x := ⟨_, List.getElem?_eq_getElem (by omega)⟩
                      have HX := Lib.hid hx
                      obtain ⟨ab, ao, acap, h1, _, hcs⟩ := (HSV.out.keep (HK.out.trans (mm.below.mono HK.out.size))).form (by omega)
                      cases h1
                      have c0 := hcs k x hx
                      clear hcs hx
                      cases x with
                      | true =>
                        have HUN := Lib.hid (un_true HX.out)
                        obtain ⟨da, dc, w7, r7, o7, b7, n7⟩ := copyC_run (ClAt.of_own (mm.rowAt (i := 0) rfl)) (by omega)
                        obtain ⟨ea, ec, w8, r8, o8, b8, n8⟩ := snocC_run b7 o7 n7 (2 * (k : Int) + 1, 2 * (k : Int) + 1) (by omega)
                        have R7 := Lib.hid r7
                        have R8 := Lib.hid r8
                        have M6 := Lib.hid (mm.fresh b8)
                        have HS := Lib.hid (A.solve_none (ClAt.of_own o8) (by rw [List.length_append]; simp; omega) HN.out (by rw [HLL.out]; exact one_right HRI.out (by omega) (by omega) (lit_in (by omega)).2) (by rw [HLL.out]; exact first_no HF.out HX.out))
                        clear r7 o7 b7 n7 r8 o8 b8 n8 mm
                        go_wp2_with (at_builtin; refine Hid.out ?_)
                        refine Lib.hid ?_
                        refine Lib.wpList_append_run _ rfl _ _ _ _ rfl _ _ rfl rfl _ _ R7.out ?_
                        go_wp2_with (at_builtin; refine Hid.out ?_)
                        refine Lib.hid ?_
                        refine Lib.wpList_append_run _ rfl _ _ _ _ rfl _ _ rfl rfl _ _ R8.out ?_
                        clear R7 R8 c0
                        go_wp2_with (go_at_call 17; refine (HS.out).mono ?_; rintro e w9 ⟨u9, c9, cy9, rfl, -, -, b9, -⟩; refine Hid.out ?_)
                        refine Lib.hid ?_
                        have M6 := Lib.hid (M6.out.fresh b9)
                        clear b9 HS M
                        obtain ⟨ya, yc, w7, r7, m7⟩ := M6.out.pushC (i := 0) rfl (2 * (k : Int), 2 * (k : Int)) (by omega)
                        have R7 := Lib.hid r7
                        have M7 := Lib.hid (show OMem wb w7 [.row 40 2 (.slice ya (l ++ units sv (k + 1)).length yc) (l ++ units sv (k + 1)).length (clVs (l ++ units sv (k + 1)))] by
                          have e : l ++ units sv (k + 1) = L ++ [(2 * (k : Int), 2 * (k : Int))] := by rw [units_next, HUN.out, HLL.out, List.append_assoc]
                          rw [e, List.length_append]; exact m7)
                        clear r7 m7
                        go_wp2_with (at_builtin; refine Hid.out ?_)
                        refine Lib.hid ?_
                        refine Lib.wpList_append_run _ rfl _ _ _ _ rfl _ _ rfl rfl _ _ R7.out ?_
                        go_wp2
                        go_roundw
                        case rel => exact ⟨k + 1, ya, yc, by omega, by go_num, by rw [HLL.out, List.length_append, List.length_append, units_len, units_len]; rfl, M7.out⟩
                        case measure => (simp [RowKit.intOf]; try omega)
                      | false =>
                        have HUN := Lib.hid (un_false HX.out)
                        have M6 := M
                        clear mm
                        obtain ⟨ya, yc, w7, r7, m7⟩ := M6.out.pushC (i := 0) rfl (2 * (k : Int) + 1, 2 * (k : Int) + 1) (by omega)
                        have R7 := Lib.hid r7
                        have M7 := Lib.hid (show OMem wb w7 [.row 40 2 (.slice ya (l ++ units sv (k + 1)).length yc) (l ++ units sv (k + 1)).length (clVs (l ++ units sv (k + 1)))] by
                          have e : l ++ units sv (k + 1) = L ++ [(2 * (k : Int) + 1, 2 * (k : Int) + 1)] := by rw [units_next, HUN.out, HLL.out, List.append_assoc]
                          rw [e, List.length_append]; exact m7)
                        clear r7 m7
                        go_wp2_with (at_builtin; refine Hid.out ?_)
                        refine Lib.hid ?_
                        refine Lib.wpList_append_run _ rfl _ _ _ _ rfl _ _ rfl rfl _ _ R7.out ?_
                        go_wp2
                        go_roundw
                        case rel => exact ⟨k + 1, ya, yc, by omega, by go_num, by rw [HLL.out, List.length_append, List.length_append, units_len, units_len]; rfl, M7.out⟩
                        case measure => (simp [RowKit.intOf]; try omega)
                    · obtain rfl : k = m := by omega
                      have BE := Lib.hid (B1.out.trans ((HK.out.trans (mm.below.mono HK.out.size)).mono B1.out.size))
                      clear mm
                      go_wp2
                      go_ret
                      exact ⟨rfl, BE.out⟩
          · have HCN := Lib.hid (check_not (vs := vs) href)
            have H1 := A.check_ (n := (m : Int)) HV.out (by omega) HN.out HU.out (by omega)
            rw [HCN.out] at H1
            have H1 := Lib.hid H1
            clear has hcs hno href
            go_wp2_with (go_at_call 11; refine (H1.out).mono ?_; rintro e w4 ⟨rfl, b4⟩; refine Hid.out ?_)
            refine Lib.hid ?_
            have BE := Lib.hid (B1.out.trans (b4.mono B1.out.size))
            clear b4
            go_wp2
            go_ret
            exact ⟨rfl, BE.out⟩
end Go.Proofs.Ytapgcahbccchfaa
