/- The walk of SatForced. -/
import Derived.Test.YtapgcahbccchfaaSSmall
import Derived.BigQuiet
namespace Go.Proofs.Ytapgcahbccchfaa
open Go.RowKit Go.Maps Go.ChangeMaps Go.MapKept
open St
attribute [local go_sem ↓] Go.wp_at_zero Go.wp_at_succ

theorem can_zero {l : List Cl} {n : Int} (h : right l n = true) (hc : ¬ St.Can l n) : 0 < n := by
  have hr := right_iff.1 h
  refine Classical.byContradiction fun q => hc ⟨[], check_iff.2 ⟨h, by simp; omega, sat_iff.2 fun c hm => by have := hr.2.2 c hm; omega⟩⟩
theorem forc_case {l : List Cl} {n : Int} {k : Nat} (hc : St.Can l n) (hk : (k : Int) < n) :
    (forc l n k = 1 ∧ follows l n [2 * (k : Int)] = true ∧ follows l n [2 * (k : Int) + 1] = false ∧ frc1 l n k = [(2 * (k : Int), 2 * (k : Int))]) ∨
    (forc l n k = 0 ∧ follows l n [2 * (k : Int)] = false ∧ follows l n [2 * (k : Int) + 1] = true ∧ frc1 l n k = [(2 * (k : Int) + 1, 2 * (k : Int) + 1)]) ∨
    (forc l n k = -1 ∧ follows l n [2 * (k : Int)] = false ∧ follows l n [2 * (k : Int) + 1] = false ∧ frc1 l n k = []) := by
  have h1 := @forc_yes l n k
  have h2 := forc_no hc hk
  have h3 := @not_both l n k hc hk
  have h4 := forc_range l n k
  unfold frc1
  cases hy : follows l n [2 * (k : Int)] with
  | true =>
    rw [h3 hy]
    exact .inl ⟨h1.2 hy, rfl, rfl, by simp⟩
  | false =>
    have h5 : ¬ forc l n k = 1 := fun q => by have := h1.1 q; rw [hy] at this; cases this
    cases hn : follows l n [2 * (k : Int) + 1] with
    | true => exact .inr (.inl ⟨h2.2 hn, rfl, rfl, by simp⟩)
    | false =>
      have h6 : ¬ forc l n k = 0 := fun q => by have := h2.1 q; rw [hn] at this; cases this
      exact .inr (.inr ⟨by omega, rfl, rfl, by simp⟩)
theorem fcs_at {l : List Cl} {n : Int} {m k : Nat} (h : k < m) : ((List.range m).map (forc l n))[k]? = some (forc l n k) := by simp [h]
section
variable {w : World} {v : Value} {l : List Cl} {n : Int}
theorem SApi.forced_can (A : SApi) (hv : ClAt w v l) (hl : l.length ≤ 1000) (hn : I64 n) (k : St.Can l n) : Calls Try.prog 18 #[v, .int .i64 n] w fun e w' => ∃ u, e = .returned (.tuple #[u, .int .i64 0]) ∧ NumsAt w' u ((List.range n.toNat).map (forc l n)) ∧ Below w.heap.size w w' := by
  refine (A.forced_ hv hl hn).mono ?_
  rintro e w' ⟨u, he, h1, h2⟩
  rw [forced_ok k] at he h1
  exact ⟨u, he, h1, h2⟩
theorem SApi.forced_none (A : SApi) (hv : ClAt w v l) (hl : l.length ≤ 1000) (hn : I64 n) (hr : right l n = true) (k : ¬ St.Can l n) : Calls Try.prog 18 #[v, .int .i64 n] w fun e w' => ∃ u, e = .returned (.tuple #[u, .int .i64 17]) ∧ NumsAt w' u [] ∧ Below w.heap.size w w' := by
  refine (A.forced_ hv hl hn).mono ?_
  rintro e w' ⟨u, he, h1, h2⟩
  rw [forced_uns hr k] at he h1
  exact ⟨u, he, h1, h2⟩
theorem SApi.forced_same (A : SApi) {us : List Int} (hv : ClAt w v l) (hl : l.length ≤ 1000) (hn : I64 n) (k : forced l n = (us, 0)) : Calls Try.prog 18 #[v, .int .i64 n] w fun e w' => ∃ u, e = .returned (.tuple #[u, .int .i64 0]) ∧ NumsAt w' u us ∧ Below w.heap.size w w' := by
  refine (A.forced_ hv hl hn).mono ?_
  rintro e w' ⟨u, he, h1, h2⟩
  rw [k] at he h1
  exact ⟨u, he, h1, h2⟩
end
set_option maxHeartbeats 8000000 in
set_option maxRecDepth 100000 in
theorem forced_walk (A : SApi) {w : World} {v : Value} {l : List Cl} {n : Int} (hv : ClAt w v l) (hn : I64 n) :
    Calls Try.prog 7 #[v, .int .i64 n] w fun e w' => e = .returned (.bool true) ∧ Below w.heap.size w w' := by
  have HV := Lib.hid hv
  have HN := Lib.hid hn
  obtain ⟨va, vc, rfl⟩ := hv.slice
  clear hn hv
  by_cases h1 : 100 < l.length
  · have h1' : (100 : Int) < (l.length : Int) := by omega
    go_enter Try.func7, Try.ntmps7
    go_wp2_with (go_at_call 8; refine (small_any A _).mono ?_; rintro e w1 ⟨rfl, m1⟩; refine Hid.out ?_)
    refine Lib.hid ?_
    have B1 := Lib.hid m1
    clear m1
    go_wp2
    go_ret
    exact ⟨rfl, B1.out⟩
  · have h1' : ¬ (100 : Int) < (l.length : Int) := by omega
    by_cases h2 : 40 < n
    · go_enter Try.func7, Try.ntmps7
      go_wp2_with (go_at_call 8; refine (small_any A _).mono ?_; rintro e w1 ⟨rfl, m1⟩; refine Hid.out ?_)
      refine Lib.hid ?_
      have B1 := Lib.hid m1
      clear m1
      go_wp2
      go_ret
      exact ⟨rfl, B1.out⟩
    · go_enter Try.func7, Try.ntmps7
      go_wp2_with (go_at_call 8; refine (small_any A _).mono ?_; rintro e w1 ⟨rfl, m1⟩; refine Hid.out ?_)
      refine Lib.hid ?_
      have B1 := Lib.hid m1
      clear m1
      have HV := Lib.hid (HV.out.keep B1.out)
      have HR := q_right (n := n) HV.out (by omega)
      cases hr : right l n with
      | false =>
        rw [hr] at HR
        have HR := Lib.hid HR
        clear hr
        go_wp2_with (go_at_call 10; refine (HR.out).mono ?_; rintro e w2 ⟨rfl, rfl⟩; refine Hid.out ?_)
        refine Lib.hid ?_
        go_wp2
        go_ret
        exact ⟨rfl, B1.out⟩
      | true =>
        rw [hr] at HR
        have HRI := Lib.hid hr
        have hn2 := (right_iff.1 hr).1
        have HR := Lib.hid HR
        clear hr
        obtain ⟨m, rfl⟩ : ∃ m : Nat, n = (m : Int) := ⟨n.toNat, by omega⟩
        have hm : m ≤ 40 := by omega
        go_wp2_with (go_at_call 10; refine (HR.out).mono ?_; rintro e w2 ⟨rfl, rfl⟩; refine Hid.out ?_)
        refine Lib.hid ?_
        clear HR
        by_cases hcan : St.Can l (m : Int)
        · have HCAN := Lib.hid hcan
          have HF := Lib.hid (A.forced_can HV.out (by omega) HN.out hcan)
          clear hcan
          go_wp2_with (go_at_call 18; refine (HF.out).mono ?_; rintro e w3 ⟨ru, rfl, hus, b3⟩; refine Hid.out ?_)
          refine Lib.hid ?_
          have HV := Lib.hid (HV.out.keep b3)
          have HS := Lib.hid (A.solve_ HV.out (by omega) HN.out)
          have HUS := Lib.hid hus
          obtain ⟨u1, u2, rfl⟩ := hus.slice
          clear hus HF
          go_wp2_with (go_at_call 17; refine (HS.out).mono ?_; rintro e w4 ⟨ra, rc, sv, cs, er, rfl, has, hcs, b4, hsol⟩; refine Hid.out ?_)
          refine Lib.hid ?_
          have HV := Lib.hid (HV.out.keep b4)
          have HUS := Lib.hid (HUS.out.keep b4)
          have B1 := Lib.hid ((B1.out.trans (b3.mono B1.out.size)).trans (b4.mono (B1.out.trans (b3.mono B1.out.size)).size))
          clear b3 b4 HS
          obtain ⟨a1, a2, rfl⟩ := has.slice
          obtain ⟨c1, c2, rfl⟩ := hcs.slice
          rcases hsol with ⟨hno, -⟩ | ⟨hf, rfl, rfl⟩ | ⟨-, hno, -⟩
          · rw [HRI.out] at hno; cases hno
          · have hsl : sv.length = m := by have := len_of hf.ok; omega
            have HF := Lib.hid hf
            have HSV := Lib.hid has
            clear has hcs hf
            have htn : (m : Int).toNat = m := by omega
            have hul : ((List.range m).map (forc l (m : Int))).length = m := by simp
            have HUS := Lib.hid (show NumsAt w4 (.slice u1 m u2) ((List.range m).map (forc l (m : Int))) by
              have q := HUS.out; rw [htn, hul] at q; exact q)
            rw [hsl] at HSV ⊢
            have HUL := Lib.hid hul
            have HSL := Lib.hid hsl
            clear htn hul hsl
            obtain ⟨ca, cc, w5, r5, o5, b5, n5⟩ := copyC_run HV.out (by omega)
            have R5 := Lib.hid r5
            have M5 := Lib.hid (show OMem w4 w5 [.row 40 2 (.slice ca (l ++ frc l (m : Int) 0).length cc) (l ++ frc l (m : Int) 0).length (clVs (l ++ frc l (m : Int) 0))] by
              rw [show l ++ frc l (m : Int) 0 = l by simp [frc]]; exact (OMem.start _).rowNewAt b5 o5 n5)
            clear r5 o5 b5 n5
            go_wp2_with (at_builtin; refine Hid.out ?_)
            refine Lib.hid ?_
            refine Lib.wpList_append_run _ rfl _ _ _ _ rfl _ _ rfl rfl _ _ R5.out ?_
            go_wp2
            go_loopw [11, 12] (fun o i wr => ∃ (k : Nat) (oa : Option Addr) (oc : Nat), k ≤ m ∧ i = .int .i64 k ∧ o = .slice oa (l ++ frc l (m : Int) k).length oc ∧ OMem w4 wr [.row 40 2 (.slice oa (l ++ frc l (m : Int) k).length oc) (l ++ frc l (m : Int) k).length (clVs (l ++ frc l (m : Int) k))]) (fun _ i _ => m - (RowKit.intOf i).toNat)
            case atStart => exact ⟨0, ca, cc, Nat.zero_le _, rfl, by simp [frc], M5.out⟩
            case round =>
              obtain ⟨k, oa, oc, hk, rfl, rfl, mm⟩ := hrel
              obtain ⟨L, hL⟩ : ∃ L, L = l ++ frc l (m : Int) k := ⟨_, rfl⟩
              have hLl : L.length ≤ 200 := by rw [hL, List.length_append]; have := frc_len l (m : Int) k; omega
              rw [← hL] at mm ⊢
              have HLL := Lib.hid hL
              clear hL
              have M := Lib.hid mm
              have HVr := Lib.hid (HV.out.keep mm.below)
              by_cases hlt : k < m
              · obtain ⟨x, hx⟩ : ∃ x, sv[k]? = some x := ⟨_, List.getElem?_eq_getElem (by rw [HSL.out]; omega)⟩
                have h5 := HSV.out.keep mm.below
                rw [← HSL.out] at h5
                obtain ⟨ab, ao, acap, e1, _, hcs⟩ := h5.form (by rw [HSL.out]; omega)
                rw [HSL.out] at e1
                cases e1
                have h6 : NumsAt wr (.slice u1 ((List.range m).map (forc l (m : Int))).length u2) ((List.range m).map (forc l (m : Int))) := by rw [HUL.out]; exact HUS.out.keep mm.below
                obtain ⟨bb, bo, bcap, e2, _, hds⟩ := h6.form (by rw [HUL.out]; omega)
                rw [HUL.out] at e2
                cases e2
                have d0 := hcs k x hx
                have c0 := hds k _ (fcs_at hlt)
                have hxv := forc_val (v := k) HF.out.ok (by omega)
                rw [getD_at hx] at hxv
                have bal := (Below.refl wr.heap.size wr).alloc (Nat.le_refl _) (.cells #[.int .i64 (2 * (k : Int))] 3)
                have BAL := Lib.hid bal
                have H1 := A.follows_ (n := (m : Int)) (HVr.out.keep bal) (by omega) HN.out (nums_lit wr [2 * (k : Int)] (by simp)) (by simp)
                have H2 := fun (w6 : World) (b6 : Hid (Below wr.heap.size wr w6)) => A.follows_ (n := (m : Int)) (HVr.out.keep (b6.out.trans (((Below.refl w6.heap.size w6).alloc (Nat.le_refl _) (.cells #[.int .i64 (2 * (k : Int) + 1)] 3)).mono b6.out.size))) (by omega) HN.out (nums_lit w6 [2 * (k : Int) + 1] (by simp)) (by simp)
                clear hcs hds h5 h6 hx bal mm
                rcases forc_case HCAN.out (show (k : Int) < (m : Int) by omega) with ⟨hz, hy, hno, hfr⟩ | ⟨hz, hy, hno, hfr⟩ | ⟨hz, hy, hno, hfr⟩
                · obtain rfl : x = true := by rw [hxv (by omega), hz]; rfl
                  clear hxv
                  rw [hz] at c0
                  rw [hy] at H1
                  rw [hno] at H2
                  have HFR := Lib.hid hfr
                  have H1 := Lib.hid H1
                  have H2 := Lib.hid H2
                  clear hz hy hno hfr
                  go_wp2_with (go_at_call 15; refine (H1.out).mono ?_; rintro e w6 ⟨rfl, b6⟩; refine Hid.out ?_)
                  refine Lib.hid ?_
                  have B6 := Lib.hid (BAL.out.trans (b6.mono BAL.out.size))
                  clear b6 H1
                  have bal2 := B6.out.trans (((Below.refl w6.heap.size w6).alloc (Nat.le_refl _) (.cells #[.int .i64 (2 * (k : Int) + 1)] 3)).mono B6.out.size)
                  have BAL2 := Lib.hid bal2
                  clear bal2
                  have H2 := Lib.hid (H2.out w6 B6)
                  go_wp2_with (go_at_call 15; refine (H2.out).mono ?_; rintro e w7 ⟨rfl, b7⟩; refine Hid.out ?_)
                  refine Lib.hid ?_
                  have B7 := Lib.hid (BAL2.out.trans (b7.mono BAL2.out.size))
                  clear b7 H2
                  have c0 := below_cell c0 B7.out
                  have d0 := below_cell d0 B7.out
                  go_wp2
                  go_quiet (fail)
                  have M8 := Lib.hid (M.out.fresh (B7.out.trans ((drewN_below w7 nq).mono B7.out.size)))
                  generalize w7.drewN nq = w8 at M8 ⊢
                  clear c0 d0 M
                  have e7 : l ++ frc l (m : Int) (k + 1) = L ++ [(2 * (k : Int), 2 * (k : Int))] := by rw [frc_next, HFR.out, HLL.out, List.append_assoc]
                  obtain ⟨ya, yc, w9, r7, m7⟩ := M8.out.pushC (i := 0) rfl (2 * (k : Int), 2 * (k : Int)) (by omega)
                  have R7 := Lib.hid r7
                  have M7 := Lib.hid (show OMem w4 w9 [.row 40 2 (.slice ya (l ++ frc l (m : Int) (k + 1)).length yc) (l ++ frc l (m : Int) (k + 1)).length (clVs (l ++ frc l (m : Int) (k + 1)))] by
                    rw [e7, List.length_append]; exact m7)
                  have HL7 := Lib.hid (show L.length + 1 = (l ++ frc l (m : Int) (k + 1)).length by rw [e7, List.length_append]; rfl)
                  clear r7 m7 e7
                  go_wp2_with (at_builtin; refine Hid.out ?_)
                  refine Lib.hid ?_
                  refine Lib.wpList_append_run _ rfl _ _ _ _ rfl _ _ rfl rfl _ _ R7.out ?_
                  go_wp2
                  go_roundw
                  case rel => exact ⟨k + 1, ya, yc, by omega, by go_num, by rw [HL7.out], M7.out⟩
                  case measure => (simp [RowKit.intOf]; try omega)
                · obtain rfl : x = false := by rw [hxv (by omega), hz]; rfl
                  clear hxv
                  rw [hz] at c0
                  rw [hy] at H1
                  rw [hno] at H2
                  have HFR := Lib.hid hfr
                  have H1 := Lib.hid H1
                  have H2 := Lib.hid H2
                  clear hz hy hno hfr
                  go_wp2_with (go_at_call 15; refine (H1.out).mono ?_; rintro e w6 ⟨rfl, b6⟩; refine Hid.out ?_)
                  refine Lib.hid ?_
                  have B6 := Lib.hid (BAL.out.trans (b6.mono BAL.out.size))
                  clear b6 H1
                  have bal2 := B6.out.trans (((Below.refl w6.heap.size w6).alloc (Nat.le_refl _) (.cells #[.int .i64 (2 * (k : Int) + 1)] 3)).mono B6.out.size)
                  have BAL2 := Lib.hid bal2
                  clear bal2
                  have H2 := Lib.hid (H2.out w6 B6)
                  go_wp2_with (go_at_call 15; refine (H2.out).mono ?_; rintro e w7 ⟨rfl, b7⟩; refine Hid.out ?_)
                  refine Lib.hid ?_
                  have B7 := Lib.hid (BAL2.out.trans (b7.mono BAL2.out.size))
                  clear b7 H2
                  have c0 := below_cell c0 B7.out
                  have d0 := below_cell d0 B7.out
                  go_wp2
                  go_quiet (fail)
                  have M8 := Lib.hid (M.out.fresh (B7.out.trans ((drewN_below w7 nq).mono B7.out.size)))
                  generalize w7.drewN nq = w8 at M8 ⊢
                  clear c0 d0 M
                  have e7 : l ++ frc l (m : Int) (k + 1) = L ++ [(2 * (k : Int) + 1, 2 * (k : Int) + 1)] := by rw [frc_next, HFR.out, HLL.out, List.append_assoc]
                  obtain ⟨ya, yc, w9, r7, m7⟩ := M8.out.pushC (i := 0) rfl (2 * (k : Int) + 1, 2 * (k : Int) + 1) (by omega)
                  have R7 := Lib.hid r7
                  have M7 := Lib.hid (show OMem w4 w9 [.row 40 2 (.slice ya (l ++ frc l (m : Int) (k + 1)).length yc) (l ++ frc l (m : Int) (k + 1)).length (clVs (l ++ frc l (m : Int) (k + 1)))] by
                    rw [e7, List.length_append]; exact m7)
                  have HL7 := Lib.hid (show L.length + 1 = (l ++ frc l (m : Int) (k + 1)).length by rw [e7, List.length_append]; rfl)
                  clear r7 m7 e7
                  go_wp2_with (at_builtin; refine Hid.out ?_)
                  refine Lib.hid ?_
                  refine Lib.wpList_append_run _ rfl _ _ _ _ rfl _ _ rfl rfl _ _ R7.out ?_
                  go_wp2
                  go_roundw
                  case rel => exact ⟨k + 1, ya, yc, by omega, by go_num, by rw [HL7.out], M7.out⟩
                  case measure => (simp [RowKit.intOf]; try omega)
                · clear hxv
                  rw [hz] at c0
                  rw [hy] at H1
                  rw [hno] at H2
                  have HFR := Lib.hid hfr
                  have H1 := Lib.hid H1
                  have H2 := Lib.hid H2
                  clear hz hy hno hfr
                  go_wp2_with (go_at_call 15; refine (H1.out).mono ?_; rintro e w6 ⟨rfl, b6⟩; refine Hid.out ?_)
                  refine Lib.hid ?_
                  have B6 := Lib.hid (BAL.out.trans (b6.mono BAL.out.size))
                  clear b6 H1
                  have bal2 := B6.out.trans (((Below.refl w6.heap.size w6).alloc (Nat.le_refl _) (.cells #[.int .i64 (2 * (k : Int) + 1)] 3)).mono B6.out.size)
                  have BAL2 := Lib.hid bal2
                  clear bal2
                  have H2 := Lib.hid (H2.out w6 B6)
                  go_wp2_with (go_at_call 15; refine (H2.out).mono ?_; rintro e w7 ⟨rfl, b7⟩; refine Hid.out ?_)
                  refine Lib.hid ?_
                  have B7 := Lib.hid (BAL2.out.trans (b7.mono BAL2.out.size))
                  clear b7 H2
                  have c0 := below_cell c0 B7.out
                  have d0 := below_cell d0 B7.out
                  go_wp2
                  go_quiet (fail)
                  have M8 := Lib.hid (M.out.fresh (B7.out.trans ((drewN_below w7 nq).mono B7.out.size)))
                  generalize w7.drewN nq = w8 at M8 ⊢
                  clear c0 d0 M
                  have e7 : l ++ frc l (m : Int) (k + 1) = L := by rw [frc_next, HFR.out, HLL.out, List.append_nil]
                  have M7 := Lib.hid (show OMem w4 w8 [.row 40 2 (.slice oa (l ++ frc l (m : Int) (k + 1)).length oc) (l ++ frc l (m : Int) (k + 1)).length (clVs (l ++ frc l (m : Int) (k + 1)))] by rw [e7]; exact M8.out)
                  have HL7 := Lib.hid (show L.length = (l ++ frc l (m : Int) (k + 1)).length by rw [e7])
                  clear e7
                  go_wp2
                  go_roundw
                  case rel => exact ⟨k + 1, oa, oc, by omega, by go_num, by rw [HL7.out], M7.out⟩
                  case measure => (simp [RowKit.intOf]; try omega)
              · obtain rfl : k = m := by omega
                have hfo : forced L (k : Int) = ((List.range k).map (forc l (k : Int)), 0) := by
                  rw [HLL.out, forced_again HRI.out (by omega) (Int.le_refl _), forced_ok HCAN.out]; rfl
                have H7 := Lib.hid (A.forced_same (ClAt.of_own (mm.rowAt (i := 0) rfl)) (by omega) HN.out hfo)
                have BM := Lib.hid mm.below
                clear mm M hfo
                go_wp2_with (go_at_call 18; refine (H7.out).mono ?_; rintro e w8 ⟨ru, rfl, hrs, b8⟩; refine Hid.out ?_)
                refine Lib.hid ?_
                have B8 := Lib.hid (BM.out.trans (b8.mono BM.out.size))
                have H8 := q_ints (HUS.out.keep B8.out) hrs (by rw [HUL.out]; omega)
                rw [decide_eq_true rfl] at H8
                have H8 := Lib.hid H8
                clear b8 hrs H7
                go_wp2_with (go_at_call 21; refine (H8.out).mono ?_; rintro e w9 ⟨rfl, b9⟩; refine Hid.out ?_)
                refine Lib.hid ?_
                go_wp2
                go_ret
                exact ⟨rfl, B1.out.trans ((B8.out.trans (b9.mono B8.out.size)).mono B1.out.size)⟩
          · exact (hno HCAN.out).elim
        · have HF := Lib.hid (A.forced_none HV.out (by omega) HN.out HRI.out hcan)
          have hpos := can_zero HRI.out hcan
          have hz : ¬ ((0 : Int) = (m : Int)) := by omega
          have HNC := Lib.hid hcan
          clear hcan
          go_wp2_with (go_at_call 18; refine (HF.out).mono ?_; rintro e w3 ⟨ru, rfl, hus, b3⟩; refine Hid.out ?_)
          refine Lib.hid ?_
          have HS := Lib.hid (A.solve_none (HV.out.keep b3) (by omega) HN.out HRI.out HNC.out)
          obtain ⟨u1, u2, rfl⟩ := hus.slice
          clear hus HF
          go_wp2_with (go_at_call 17; refine (HS.out).mono ?_; rintro e w4 ⟨ra, rc, cy, rfl, has, hcs, b4, -⟩; refine Hid.out ?_)
          refine Lib.hid ?_
          have B1 := Lib.hid ((B1.out.trans (b3.mono B1.out.size)).trans (b4.mono (B1.out.trans (b3.mono B1.out.size)).size))
          obtain ⟨a1, a2, rfl⟩ := has.slice
          obtain ⟨c1, c2, rfl⟩ := hcs.slice
          clear b3 b4 HS has hcs
          go_wp2
          go_ret
          exact ⟨rfl, B1.out⟩
end Go.Proofs.Ytapgcahbccchfaa
