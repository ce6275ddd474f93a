/- Package sat: Follows. -/
import Derived.Test.YtapgcahbccchfaaZfo
namespace Go.Proofs.Ytapgcahbccchfaa
open Go.RowKit Go.Maps Go.ChangeMaps Go.MapKept
open St
attribute [local go_sem ↓] Go.wp_at_zero Go.wp_at_succ

section
variable {w : World}
set_option maxHeartbeats 4000000 in
set_option maxRecDepth 100000 in
theorem p_follows {v u : Value} {l : List Cl} {n : Int} {xs : List Int} (hv : ClAt w v l) (hl : l.length ≤ 1000) (hu : NumsAt w u xs) (hx : xs.length ≤ 1000) :
    Calls Try.prog 15 #[v, .int .i64 n, u] w (Reads w (.bool (follows l n xs))) := by
  have HV := Lib.hid hv
  have HU := Lib.hid hu
  have HQ := p_right (n := n) hv (by omega)
  obtain ⟨a, cap, hva⟩ := hv.slice
  subst hva
  obtain ⟨ua, uc, hua⟩ := hu.slice
  subst hua
  clear hv hu
  unfold Reads
  cases hr : right l n with
  | false =>
    have HR := Lib.hid (follows_wrong (xs := xs) hr)
    rw [hr] at HQ
    have HQ := Lib.hid HQ
    clear hr
    go_enter Try.func15, Try.ntmps15
    go_wp2_with (go_at_call 9; refine (HQ.out).mono ?_; rintro e w2 ⟨rfl, b2⟩; refine Hid.out ?_)
    refine Lib.hid ?_
    have HB := Lib.hid b2
    go_wp2
    go_ret
    exact ⟨ret_bool HR.out.symm, HB.out⟩
  | true =>
    have hn := (right_iff.1 hr).1
    obtain ⟨m, rfl⟩ : ∃ m : Nat, n = (m : Int) := ⟨n.toNat, by omega⟩
    have HRI := Lib.hid hr
    rw [hr] at HQ
    have HQ := Lib.hid HQ
    clear hr
    have q24 := neq_nil
    go_enter Try.func15, Try.ntmps15
    go_wp2_with (go_at_call 9; refine (HQ.out).mono ?_; rintro e w2 ⟨rfl, b2⟩; refine Hid.out ?_)
    refine Lib.hid ?_
    have HB2 := Lib.hid b2
    obtain ⟨w3, r3, o3, g3⟩ := make_row w2 (2 * m) (by omega)
    rw [show ((2 * m : Nat) : Int) = 2 * (m : Int) by omega] at r3
    have HB3 := Lib.hid (below_grown b2 g3 fun x hx => by cases hx)
    have HO3 := Lib.hid o3
    have HGE := Lib.hid b2.size
    clear b2 o3 g3 HQ
    go_wp2
    generalize w2.heap.size = G at HO3 HGE ⊢
    go_loopw [24] (fun i wr => ∃ (k : Nat) (den : List Bool), k ≤ xs.length ∧ i = .int .i64 k ∧ Hid (Den m (xs.take k) den) ∧ Hid (∀ x ∈ xs.take k, 0 ≤ x ∧ x < 2 * (m : Int)) ∧ Hid (WBool wr G den) ∧ Hid (Below w.heap.size w wr)) (fun i _ => xs.length - (RowKit.intOf i).toNat)
    case atStart => exact ⟨0, _, Nat.zero_le _, rfl, Lib.hid (den_start m), Lib.hid (by simp), HO3, HB3⟩
    case round =>
      clear HO3 HB3
      obtain ⟨k, den, hk, rfl, HD, HT, HO, HB⟩ := hrel
      by_cases hlt : k < xs.length
      · obtain ⟨x, hxk⟩ : ∃ x, xs[k]? = some x := ⟨_, List.getElem?_eq_getElem hlt⟩
        have HX := Lib.hid hxk
        obtain ⟨b, off, cap', h1, _, hcs⟩ := (HU.out.keep HB.out).form (by omega)
        cases h1
        have c0 := hcs k x hxk
        clear hcs hxk
        by_cases hin : 0 ≤ x ∧ x < 2 * (m : Int)
        · have HL := Lib.hid (p_lit_yes hn hin)
          have HP := Lib.hid (p_opp (x := x) (by omega))
          have HT2 := Lib.hid (take_all HT.out HX.out hin)
          have hd2 := HD.out.step hin
          rw [show xs.take k ++ [x] = xs.take (k + 1) by rw [List.take_add_one, HX.out]; rfl] at hd2
          have HD2 := Lib.hid hd2
          have ho := opp_lit hin
          obtain ⟨q, hq⟩ : ∃ q : Nat, opp x = (q : Int) := ⟨(opp x).toNat, by omega⟩
          rw [hq] at HP HD2
          rw [Int.toNat_natCast] at HD2
          have hql : q < 2 * m := by omega
          have hdl := HD.out.1
          obtain ⟨zo, hzo⟩ : ∃ zo, den[q]? = some zo := ⟨_, List.getElem?_eq_getElem (by omega)⟩
          have d0 := (HO.out.cell hzo).1
          have d1 := (HO.out.cell hzo).2
          have HO2 := Lib.hid (HO.out.set q true)
          have HB2b := Lib.hid (below_grown HB.out (grown_cell wr G q (.bool true)) fun x hx => by cases hx; exact HGE.out)
          clear hzo hdl hd2 hq ho
          go_wp2_with (go_at_call 23; refine (HL.out _).mono ?_; rintro e w5 ⟨rfl, rfl⟩; refine Hid.out ?_)
          refine Lib.hid ?_
          go_wp2_with (go_at_call 28; refine (HP.out _).mono ?_; rintro e w5 ⟨rfl, rfl⟩; refine Hid.out ?_)
          refine Lib.hid ?_
          go_wp2
          go_roundw
          case rel => exact ⟨k + 1, _, by omega, by go_num, HD2, HT2, HO2, HB2b⟩
          case measure => (simp [RowKit.intOf]; try omega)
        · have HL := Lib.hid (p_lit_no hn hin)
          have HR := Lib.hid (follows_bad (l := l) (List.mem_of_getElem? HX.out) hin)
          go_wp2_with (go_at_call 23; refine (HL.out _).mono ?_; rintro e w5 ⟨rfl, rfl⟩; refine Hid.out ?_)
          refine Lib.hid ?_
          go_wp2
          go_ret
          exact ⟨ret_bool HR.out.symm, HB.out⟩
      · obtain rfl : k = xs.length := by omega
        have hd := HD.out
        have ht := HT.out
        rw [List.take_length] at hd ht
        have hall := den_all HRI.out hl (lits_iff.2 ht) hx hd
        have HAR := Lib.hid hall.1
        have HAF := Lib.hid hall.2
        have HDL := Lib.hid hd.1
        clear hd ht hall HD HT
        have HC := Lib.hid (p_clone (HV.out.keep HB.out) hl)
        go_wp2_with (go_at_call 31; refine (HC.out).mono ?_; rintro e w5 ⟨ca, cc, rfl, o5, b5, n5⟩; refine Hid.out ?_)
        refine Lib.hid ?_
        have HGL := HO.out.lt
        have HO5 := Lib.hid (show w5.ownsRow 0 40 2 (.slice ca l.length cc) l.length (clVs (l ++ dcl den 0)) by simpa [dcl] using o5)
        have HN5 := Lib.hid (show ∀ x, (Value.slice ca l.length cc).ownBlock = some x → G < x from fun x hx => by have := n5 x hx; omega)
        have HW5 := Lib.hid (HO.out.block (b5.block _ HGL))
        have HB5 := Lib.hid (HB.out.trans (b5.mono HB.out.size))
        have HM5 := Lib.hid (show l.length = (l ++ dcl den 0).length by simp [dcl])
        clear o5 b5 n5 HC HGL HO HB
        go_wp2
        go_loopw [10, 41] (fun o i wr => ∃ (k : Nat) (oa : Option Addr) (oc om : Nat), k ≤ 2 * m ∧ i = .int .i64 k ∧ o = .slice oa om oc ∧ Hid (om = (l ++ dcl den k).length) ∧ Hid (wr.ownsRow 0 40 2 (.slice oa om oc) om (clVs (l ++ dcl den k))) ∧
          Hid (∀ x, (Value.slice oa om oc).ownBlock = some x → G < x) ∧ Hid (WBool wr G den) ∧ Hid (Below w.heap.size w wr)) (fun _ i _ => 2 * m - (RowKit.intOf i).toNat)
        case atStart => exact ⟨0, ca, cc, l.length, Nat.zero_le _, rfl, rfl, HM5, HO5, HN5, HW5, HB5⟩
        case round =>
          clear HO5 HN5 HW5 HB5 HM5
          obtain ⟨k, oa, oc, om, hk, rfl, rfl, HM, HO, HN, HW, HB⟩ := hrel
          have hdl := HDL.out
          have hcl := dcl_len den k
          by_cases hlt : k < 2 * m
          · obtain ⟨b, hb⟩ : ∃ b, den[k]? = some b := ⟨_, List.getElem?_eq_getElem (by omega)⟩
            have d0 := (HW.out.cell hb).1
            have hgd : den.getD k false = b := by rw [List.getD_eq_getElem?_getD, hb]; rfl
            cases b with
            | false =>
              have e := dcl_skip hgd
              have HM2 := Lib.hid (show om = (l ++ dcl den (k + 1)).length by rw [e]; exact HM.out)
              have HO2 := Lib.hid (show wr.ownsRow 0 40 2 (.slice oa om oc) om (clVs (l ++ dcl den (k + 1))) by rw [e]; exact HO.out)
              clear e hgd hb hdl hcl
              go_wp2
              go_roundw
              case rel => exact ⟨k + 1, oa, oc, om, by omega, by go_num, rfl, HM2, HO2, HN, HW, HB⟩
              case measure => (simp [RowKit.intOf]; try omega)
            | true =>
              have e := dcl_take hgd
              have hba := (Below.refl wr.heap.size wr).alloc (Nat.le_refl _) (.cells #[.int .i64 (k : Int), .int .i64 (k : Int)] 40)
              have ho1 := ownsRow_block (w' := wr.alloc (.cells #[.int .i64 (k : Int), .int .i64 (k : Int)] 40)) HO.out fun x hx => hba.block x (HO.out.lt x hx).2
              rw [HM.out] at ho1
              have hlen : (l ++ dcl den k).length ≤ 2000 := by rw [List.length_append]; omega
              obtain ⟨a2, c2, w6, r6, o6, g6, hloc⟩ := run_pushC _ _ _ (l ++ dcl den k) [((k : Int), (k : Int))] ho1 (ClAt.of_own (own_clause wr ((k : Int), (k : Int)))) (by simp only [List.length_singleton]; omega)
              rw [← HM.out] at r6 o6 hloc g6
              simp only [List.length_singleton] at r6 o6 hloc
              have RA := Lib.hid r6
              have hsz := hba.size
              have hGl := HW.out.lt
              have HM2 := Lib.hid (show om + 1 = (l ++ dcl den (k + 1)).length by rw [e, ← List.append_assoc, List.length_append, ← HM.out]; rfl)
              have HO2 := Lib.hid (show w6.ownsRow 0 40 2 (.slice a2 (om + 1) c2) (om + 1) (clVs (l ++ dcl den (k + 1))) by rw [e, ← List.append_assoc]; exact o6)
              have HB2b := Lib.hid (below_grown (HB.out.trans (hba.mono HB.out.size)) g6 fun x hx => by have := HN.out x hx; have := HGE.out; omega)
              have HW2 := Lib.hid (HW.out.block ((g6.block G (by omega) (fun q => by have := HN.out G q.symm; omega)).trans (hba.block G hGl)))
              have HN2 := Lib.hid (show ∀ x, (Value.slice a2 (om + 1) c2).ownBlock = some x → G < x from fun x hx => by
                rcases hloc with h | h
                · exact HN.out x (h.symm.trans hx)
                · have := h.symm.trans hx
                  simp at this; omega)
              clear e hgd hb hdl hcl ho1 o6 g6 hloc hlen hba r6 hsz
              go_wp2_with (at_builtin; refine Hid.out ?_)
              refine Lib.hid ?_
              refine Lib.wpList_append_run _ rfl _ _ _ _ rfl _ _ rfl rfl _ _ RA.out ?_
              go_wp2
              go_roundw
              case rel => exact ⟨k + 1, a2, c2, om + 1, by omega, by go_num, rfl, HM2, HO2, HN2, HW2, HB2b⟩
              case measure => (simp [RowKit.intOf]; try omega)
          · obtain rfl : k = 2 * m := by omega
            have hlen : (l ++ dcl den (2 * m)).length ≤ 2000 := by rw [List.length_append]; omega
            have HLEN := Lib.hid hlen
            have hca := ClAt.of_own HO.out
            have HI := Lib.hid (p_impl (n := (m : Int)) hca hlen hn.2 (right_iff.1 HAR.out).2.2)
            clear hlen hca hcl hdl
            go_wp2_with (go_at_call 26; refine (HI.out).mono ?_; rintro e w6 ⟨mb, rfl, him, b6⟩; refine Hid.out ?_)
            refine Lib.hid ?_
            have HB6 := Lib.hid (HB.out.trans (b6.mono HB.out.size))
            have HDC := Lib.hid (p_dec (n := m) him HAR.out HLEN.out)
            clear HI b6 him
            go_wp2_with (go_at_call 32; refine (HDC.out).mono ?_; rintro e w7 ⟨da, db, rfl, b7, hdec⟩; refine Hid.out ?_)
            refine Lib.hid ?_
            have HB := Lib.hid (HB6.out.trans (b7.mono HB6.out.size))
            rcases hdec with ⟨vs, rfl, hvs, hfst⟩ | ⟨a4, m4, c4, cy, rfl, rfl, hcy, href⟩
            · have HR := Lib.hid (show follows l (m : Int) xs = false from by
                cases hf : follows l (m : Int) xs with
                | false => rfl
                | true => exact ((HAF.out.1 hf) ⟨vs, hfst.ok⟩).elim)
              clear hvs hfst b7 HDC
              go_wp2
              go_ret
              exact ⟨ret_bool HR.out.symm, HB.out⟩
            · have HR := Lib.hid (show follows l (m : Int) xs = true from HAF.out.2 (refute_can href))
              clear hcy href b7 HDC
              go_wp2
              go_ret
              exact ⟨ret_bool HR.out.symm, HB.out⟩
end
end Go.Proofs.Ytapgcahbccchfaa
