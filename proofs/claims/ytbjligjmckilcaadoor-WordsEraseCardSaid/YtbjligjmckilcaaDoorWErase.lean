/- The walk of WordsErase. -/
import Derived.Test.YtbjligjmckilcaaDoorWSmall
import Derived.Test.YtbjligjmckilcaaDoorWe
import Derived.BigQuiet
namespace Go.Proofs.YtbjligjmckilcaaDoor
open Go.RowKit Go.Maps Go.ChangeMaps Go.MapKept
open Wd
attribute [local go_sem ↓] Go.wp_at_zero Go.wp_at_succ
theorem txVs_set (l : List S) (k : Nat) (t : S) : (txVs l).set k (.string (bs t)) = txVs (l.set k t) := by simp [txVs, List.map_set]
theorem empty_yes : (bs ([] : S)).toList.isEmpty = true := by rw [bs_toList]; rfl
theorem empty_no {t : S} (h : t ≠ []) : (bs t).toList.isEmpty = false := by
  rw [bs_toList]; cases t with
  | nil => exact (h rfl).elim
  | cons x y => rfl
/-- A copy with one text changed. -/
theorem set_txt {w w' : World} {g c : Nat} {l : List S} (hb : Below w.heap.size w w') (ho : w'.ownsRow 0 9 1 (.slice (some ⟨g, 0, none⟩) l.length c) l.length (txVs l)) (hg : w.heap.size ≤ g) (k : Nat) (t : S) :
    TxAt (w'.setCell ⟨g, k, none⟩ (.string (bs t))) (.slice (some ⟨g, 0, none⟩) l.length c) (l.set k t) ∧ Below w.heap.size w (w'.setCell ⟨g, k, none⟩ (.string (bs t))) := by
  have h1 := own_set ho k (.string (bs t))
  rw [txVs_set] at h1
  refine ⟨?_, ⟨hb.os, hb.tape, hb.output, by rw [set_size]; exact hb.size, fun x hx => by rw [set_other (by simp; omega)]; exact hb.block x hx⟩⟩
  have h2 := TxAt.of_own h1
  exact h2
section
variable {w : World}
set_option maxHeartbeats 4000000 in
set_option maxRecDepth 100000 in
theorem w_erased {v : Value} {l : List S} {k : Nat} (hv : TxAt w v l) (hl : l.length ≤ 20) (hk : k < l.length) : Calls Tryd.prog 21 #[v, .int .i64 (k : Int)] w (Texts w (l.set k [])) := by
  obtain ⟨a, c, w5, r5, o5, b5, n5⟩ := copyT_run hv (by omega)
  obtain ⟨g, c', e1⟩ := own_some o5 (by omega)
  cases e1
  have hg := n5 g rfl
  have R5 := Lib.hid r5
  have f0 := own_fz o5 k
  obtain ⟨t0, ht0⟩ : ∃ t0, l[k]? = some t0 := ⟨_, List.getElem?_eq_getElem hk⟩
  have d0 := own_at o5 (j := k) (y := .string (bs t0)) (by simp [txVs, ht0])
  have h1 := set_txt b5 o5 hg k []
  have HT := Lib.hid h1.1
  have HB := Lib.hid h1.2
  obtain ⟨va, vc, rfl⟩ := hv.slice
  clear r5 o5 b5 n5 h1 hv
  go_enter Tryd.func21, Tryd.ntmps21
  go_wp2_with (at_builtin; refine Hid.out ?_)
  refine Lib.hid ?_
  refine Lib.wpList_append_run _ rfl _ _ _ _ rfl _ _ rfl rfl _ _ R5.out ?_
  go_wp2
  go_ret
  exact ⟨_, rfl, HT.out, HB.out⟩
end
set_option maxHeartbeats 8000000 in
set_option maxRecDepth 100000 in
theorem erase_walk {E : World → Prop} (A : WApi E) {w : World} {v : Value} {l : List S} {q : Int} {x : S} (hE : E w) (hv : TxAt w v l) (hq : 0 ≤ q ∧ q ≤ 255) :
    Calls Tryd.prog 5 #[v, .int .u8 q, .string (bs x)] w fun e w' => e = .returned (.bool true) ∧ Below w.heap.size w w' := by
  have HE := Lib.hid hE
  have HV := Lib.hid hv
  have hz := bs_size x
  obtain ⟨va, vc, rfl⟩ := hv.slice
  clear hE hv
  go_enter Tryd.func5, Tryd.ntmps5
  go_wp2_with (go_at_call 7; refine (small_any A HE.out).mono ?_; rintro e w1 ⟨rfl, m1⟩; refine Hid.out ?_)
  refine Lib.hid ?_
  have HE := Lib.hid (A.keep HE.out m1)
  have HV := Lib.hid (HV.out.keep m1)
  have B := Lib.hid m1
  have HQ := Lib.hid (q_few HV.out)
  clear m1
  cases hfw : few l 20 with
  | false =>
    rw [hfw] at HQ
    have HFW := Lib.hid hfw
    clear hfw
    go_wp2_with (go_at_call 8; refine (HQ.out).mono ?_; rintro e w2 ⟨rfl, rfl⟩; refine Hid.out ?_)
    refine Lib.hid ?_
    go_wp2
    go_ret
    exact ⟨rfl, B.out⟩
  | true =>
    have hl20 := (of_decide_eq_true hfw).1
    rw [hfw] at HQ
    have HFW := Lib.hid hfw
    clear hfw
    go_wp2_with (go_at_call 8; refine (HQ.out).mono ?_; rintro e w2 ⟨rfl, rfl⟩; refine Hid.out ?_)
    refine Lib.hid ?_
    by_cases h0 : l.length = 0
    · have h0' : (l.length : Int) = 0 := by omega
      go_wp2
      go_ret
      exact ⟨rfl, B.out⟩
    · have h0' : ¬ (l.length : Int) = 0 := by omega
      by_cases hx3 : 300 < x.length
      · have hx3' : (300 : Int) < (x.length : Int) := by omega
        go_wp2
        go_ret
        exact ⟨rfl, B.out⟩
      · have hx3' : ¬ (300 : Int) < (x.length : Int) := by omega
        obtain ⟨k, hkq⟩ : ∃ k : Nat, q % (l.length : Int) = (k : Int) := ⟨(q % (l.length : Int)).toNat, by have := Int.emod_nonneg q h0'; omega⟩
        have hkl : k < l.length := by have := Int.emod_lt_of_pos q (show (0 : Int) < l.length by omega); omega
        have hkm : q.tmod (l.length : Int) = (k : Int) := by rw [← hkq]; exact Int.tmod_eq_emod_of_nonneg hq.1
        have H1 := Lib.hid (w_erased HV.out (by omega) hkl)
        clear hkq
        go_wp2_with (go_at_call 21; refine (H1.out).mono ?_; rintro e w2 ⟨lv, rfl, h2, b2⟩; refine Hid.out ?_)
        refine Lib.hid ?_
        have HV := Lib.hid (HV.out.keep b2)
        have HE := Lib.hid (A.keep HE.out b2)
        have B := Lib.hid (B.out.trans (b2.mono B.out.size))
        have HL := Lib.hid h2
        have HFT := Lib.hid (few_fit HFW.out)
        have HFL := Lib.hid (show Fit (l.set k []) from ⟨by rw [List.length_set]; omega, fun y hy => by
          rcases List.mem_or_eq_of_mem_set hy with r | r
          · exact HFT.out.2 y r
          · subst r; simp⟩)
        obtain ⟨la, lc, e1⟩ := h2.slice
        rw [List.length_set] at e1
        cases e1
        clear b2 h2 H1
        have H1 := Lib.hid (A.find_ (s := x) HE.out HV.out HFT.out (by omega))
        go_wp2_with (go_at_call 17; refine (H1.out).mono ?_; rintro e w3 ⟨av, rfl, h3, b3⟩; refine Hid.out ?_)
        refine Lib.hid ?_
        have HV := Lib.hid (HV.out.keep b3)
        have HL := Lib.hid (HL.out.keep b3)
        have HE := Lib.hid (A.keep HE.out b3)
        have B := Lib.hid (B.out.trans (b3.mono B.out.size))
        have HA := Lib.hid h3
        clear b3 h3 H1
        have H1 := A.find_ (s := x) HE.out HL.out HFL.out (by omega)
        rw [find_set hkl] at H1
        have hal := find_len l x
        obtain ⟨a, ha⟩ : ∃ a, find l x = a := ⟨_, rfl⟩
        rw [ha] at HA H1 hal
        have H1 := Lib.hid H1
        clear ha
        go_wp2_with (go_at_call 17; refine (H1.out).mono ?_; rintro e w4 ⟨bv, rfl, h4, b4⟩; refine Hid.out ?_)
        refine Lib.hid ?_
        have HV := Lib.hid (HV.out.keep b4)
        have HL := Lib.hid (HL.out.keep b4)
        have HA := Lib.hid (HA.out.keep b4)
        have HE := Lib.hid (A.keep HE.out b4)
        have B := Lib.hid (B.out.trans (b4.mono B.out.size))
        have HBv := Lib.hid h4
        obtain ⟨aa, ac, e1⟩ := HA.out.slice
        subst e1
        have M0 := Lib.hid ((OMem.start w4).rowNil 3 1)
        clear b4 h4 H1
        go_wp2
        go_loopw [12, 13] (fun o i wr => ∃ (j : Nat) (oa : Option Addr) (oc : Nat), j ≤ a.length ∧ i = .int .i64 j ∧ o = .slice oa ((a.take j).filter (fun z => z != (k : Int))).length oc ∧ OMem w4 wr [.row 3 1 (.slice oa ((a.take j).filter (fun z => z != (k : Int))).length oc) ((a.take j).filter (fun z => z != (k : Int))).length (intVs ((a.take j).filter (fun z => z != (k : Int))))]) (fun _ i _ => a.length - (intOf i).toNat)
        case atStart => exact ⟨0, none, 0, Nat.zero_le _, rfl, rfl, M0.out⟩
        case round =>
          obtain ⟨j, oa, oc, hj, rfl, rfl, mm⟩ := hrel
          have M := Lib.hid mm
          have hfl : ((a.take j).filter (fun z => z != (k : Int))).length ≤ 20 := by
            have := List.length_filter_le (fun z => z != (k : Int)) (a.take j)
            rw [List.length_take] at this; omega
          by_cases hlt : j < a.length
          · obtain ⟨z, hz1⟩ : ∃ z, a[j]? = some z := ⟨_, List.getElem?_eq_getElem hlt⟩
            obtain ⟨ab, ao, acap, e1, _, hcs⟩ := (HA.out.keep mm.below).form (by omega)
            cases e1
            have c0 := hcs j z hz1
            have hnx : (a.take (j + 1)).filter (fun z => z != (k : Int)) = (a.take j).filter (fun z => z != (k : Int)) ++ (if (z != (k : Int)) = true then [z] else []) := by
              rw [List.take_add_one, hz1, List.filter_append]
              congr 1
              show List.filter (fun z => z != (k : Int)) [z] = _
              rw [List.filter_cons]; rfl
            clear hcs hz1
            obtain ⟨F, hF⟩ : ∃ F, (a.take j).filter (fun z => z != (k : Int)) = F := ⟨_, rfl⟩
            obtain ⟨F2, hF2⟩ : ∃ F2, (a.take (j + 1)).filter (fun z => z != (k : Int)) = F2 := ⟨_, rfl⟩
            rw [hF, hF2] at hnx
            rw [hF] at mm hfl M ⊢
            have HF2 := Lib.hid hF2
            clear hF hF2
            by_cases hzk : z = (k : Int)
            · have hd : (z != (k : Int)) = false := by simp [hzk]
              rw [hd, if_neg (by simp), List.append_nil] at hnx
              have HNX := Lib.hid hnx
              subst hzk
              clear mm hd hnx
              go_wp2
              go_roundw
              case rel => exact ⟨j + 1, oa, oc, by omega, by go_num, by rw [HF2.out, HNX.out], by rw [HF2.out, HNX.out]; exact M.out⟩
              case measure => simp [intOf]; omega
            · have hd : (z != (k : Int)) = true := by simp [hzk]
              rw [hd, if_pos rfl] at hnx
              obtain ⟨ya, yc, w9, r9, m9⟩ := mm.pushN (i := 0) rfl z (by omega)
              have R9 := Lib.hid r9
              have HL2 := Lib.hid (show F.length + 1 = F2.length by rw [hnx]; simp)
              have M9 := Lib.hid (show OMem w4 w9 [.row 3 1 (.slice ya F2.length yc) F2.length (intVs F2)] by rw [← HL2.out, hnx]; exact m9)
              clear mm hnx r9 m9
              go_wp2_with (at_builtin; refine Hid.out ?_)
              refine Lib.hid ?_
              go_wp2_with (at_builtin; refine Hid.out ?_)
              refine Lib.hid ?_
              refine Lib.wpList_append_run _ rfl _ _ _ _ rfl _ _ rfl rfl _ _ R9.out ?_
              go_wp2
              go_roundw
              case rel => exact ⟨j + 1, ya, yc, by omega, by go_num, by rw [HF2.out, HL2.out], by rw [HF2.out]; exact M9.out⟩
              case measure => simp [intOf]; omega
          · obtain rfl : j = a.length := by omega
            have HRS := Lib.hid (show NumsAt wr (.slice oa ((a.take a.length).filter (fun z => z != (k : Int))).length oc) (a.filter (fun z => z != (k : Int))) by
              have q := NumsAt.of_own (mm.rowAt (i := 0) rfl)
              rwa [List.take_length] at q ⊢)
            have HB := Lib.hid mm.below
            rw [List.take_length] at HRS ⊢
            clear mm M hfl
            obtain ⟨F, hF⟩ : ∃ F, a.filter (fun z => z != (k : Int)) = F := ⟨_, rfl⟩
            rw [hF] at HRS HBv ⊢
            have hFl : F.length ≤ 20 := by rw [← hF]; have := List.length_filter_le (fun z => z != (k : Int)) a; omega
            clear hF
            have HV := Lib.hid (HV.out.keep HB.out)
            have HL := Lib.hid (HL.out.keep HB.out)
            have HBv := Lib.hid (HBv.out.keep HB.out)
            have HE := Lib.hid (A.keep HE.out HB.out)
            have B := Lib.hid (B.out.trans (HB.out.mono B.out.size))
            generalize wr = w5 at HRS HV HL HBv HE B ⊢
            clear HB
            have M0 := Lib.hid ((OMem.start w5).rowNil 9 1)
            go_wp2
            go_loopw [14, 15] (fun o i wr => ∃ (j : Nat) (oa : Option Addr) (oc : Nat), j ≤ l.length ∧ i = .int .i64 j ∧ o = .slice oa j oc ∧ OMem w5 wr [.row 9 1 (.slice oa j oc) j (txVs (List.replicate j []))]) (fun _ i _ => l.length - (intOf i).toNat)
            case atStart => exact ⟨0, none, 0, Nat.zero_le _, rfl, rfl, M0.out⟩
            case round =>
              obtain ⟨j, oa2, oc2, hj, rfl, rfl, mm⟩ := hrel
              by_cases hlt : j < l.length
              · have hrl : (List.replicate j ([] : S)).length = j := List.length_replicate
                have hrn : List.replicate j ([] : S) ++ [[]] = List.replicate (j + 1) [] := List.replicate_succ'.symm
                have mm2 : OMem w5 wr [.row 9 1 (.slice oa2 (List.replicate j ([] : S)).length oc2) (List.replicate j ([] : S)).length (txVs (List.replicate j []))] := by rw [hrl]; exact mm
                obtain ⟨ya, yc, w9, r9, m9⟩ := mm2.pushT (i := 0) rfl ([] : S) (by omega)
                rw [hrl, hrn] at m9
                rw [hrl] at r9
                have R9 := Lib.hid r9
                have M9 := Lib.hid (show OMem w5 w9 [.row 9 1 (.slice ya (j + 1) yc) (j + 1) (txVs (List.replicate (j + 1) []))] from m9)
                clear mm mm2 r9 m9 hrl hrn
                go_wp2_with (at_builtin; refine Hid.out ?_)
                refine Lib.hid ?_
                go_wp2_with (at_builtin; refine Hid.out ?_)
                refine Lib.hid ?_
                refine Lib.wpList_append_run _ rfl _ _ _ _ rfl _ _ rfl rfl _ _ R9.out ?_
                go_wp2
                go_roundw
                case rel => exact ⟨j + 1, ya, yc, by omega, by go_num, rfl, M9.out⟩
                case measure => simp [intOf]; omega
              · obtain rfl : j = l.length := by omega
                have hrl : (List.replicate l.length ([] : S)).length = l.length := List.length_replicate
                have hno := TxAt.of_own (mm.rowAt (i := 0) rfl)
                have HB := Lib.hid mm.below
                have HV := Lib.hid (HV.out.keep HB.out)
                have HL := Lib.hid (HL.out.keep HB.out)
                have HBv := Lib.hid (HBv.out.keep HB.out)
                have HRS := Lib.hid (HRS.out.keep HB.out)
                have HE := Lib.hid (A.keep HE.out HB.out)
                have B := Lib.hid (B.out.trans (HB.out.mono B.out.size))
                have HNO := Lib.hid hno
                clear mm HB hno
                generalize wr = w6 at HRS HV HL HBv HE B HNO ⊢
                obtain ⟨ca, cc, w7, r7, o7, b7, n7⟩ := copyT_run HNO.out (by omega)
                rw [hrl] at r7 o7
                obtain ⟨g, c', e1⟩ := own_some o7 (by omega)
                cases e1
                have hg := n7 g rfl
                obtain ⟨t0, ht0⟩ : ∃ t0, l[k]? = some t0 := ⟨_, List.getElem?_eq_getElem hkl⟩
                have d0 := own_at o7 (j := k) (y := .string (bs [])) (by simp [txVs, hkl])
                have f0 := own_fz o7 k
                have h8 := set_txt (l := List.replicate l.length ([] : S)) b7 (by rw [hrl]; exact o7) hg k t0
                rw [hrl] at h8
                obtain ⟨vb, vo, vcap, e1, _, hcs⟩ := (HV.out.keep b7).form (by omega)
                cases e1
                have c0 := hcs k t0 ht0
                have HT0 := Lib.hid ht0
                have HAL := Lib.hid h8.1
                have hB8 := Lib.hid h8.2
                have R7 := Lib.hid r7
                clear hcs ht0 h8 o7 b7 n7 r7
                go_wp2_with (at_builtin; refine Hid.out ?_)
                refine Lib.hid ?_
                go_wp2_with (at_builtin; refine Hid.out ?_)
                refine Lib.hid ?_
                refine Lib.wpList_append_run _ rfl _ _ _ _ rfl _ _ rfl rfl _ _ R7.out ?_
                have H1 := A.digest_ (A.keep HE.out hB8.out) HAL.out (show Fit ((List.replicate l.length []).set k t0) from ⟨by simp; omega, fun y hy => by
                  rcases List.mem_or_eq_of_mem_set hy with r | r
                  · rw [(List.mem_replicate.1 r).2]; simp
                  · subst r; exact HFT.out.2 y (List.mem_of_getElem? HT0.out)⟩)
                rw [digest_alone hkl] at H1
                have H1 := Lib.hid H1
                go_wp2_with (go_at_call 19; refine (H1.out).mono ?_; rintro e w8 ⟨rfl, b8⟩; refine Hid.out ?_)
                refine Lib.hid ?_
                have B8 := Lib.hid (hB8.out.trans (b8.mono hB8.out.size))
                have HV := Lib.hid (HV.out.keep B8.out)
                have HL := Lib.hid (HL.out.keep B8.out)
                have HBv := Lib.hid (HBv.out.keep B8.out)
                have HRS := Lib.hid (HRS.out.keep B8.out)
                have HNO := Lib.hid (HNO.out.keep B8.out)
                have HE := Lib.hid (A.keep HE.out B8.out)
                have B := Lib.hid (B.out.trans (B8.out.mono B.out.size))
                obtain ⟨R, hR1, hR2⟩ := digest_split hkl
                rw [List.getD_eq_getElem?_getD, HT0.out, Option.getD_some] at hR1
                have hdl := dline_len (k := k) (t := t0) (itoa_small k (by omega))
                have hXl := dig_len l (k := l.length) fun i hi => itoa_small i (by omega)
                have hD0 : t0 = [] → dline k t0 = [] := fun e => by rw [e, dline_nil]
                have hD1 : t0 ≠ [] → dline k t0 ≠ [] := dline_ne
                have H1 := A.digest_ HE.out HV.out HFT.out
                have H2 := fun (w' : World) (bb : Hid (Below w8.heap.size w8 w')) => A.digest_ (A.keep HE.out bb.out) (HL.out.keep bb.out) HFL.out
                rw [hR2] at H2
                have hX : digest l = dig l l.length := rfl
                rw [← hX, hR1] at hXl
                rw [hR1] at H1
                clear b8 B8 hB8 HAL c0 hX hR1 hR2 d0 f0
                generalize dline k t0 = D at *
                generalize dig l k = P at *
                obtain ⟨X, hXX⟩ : ∃ X, P ++ D ++ R = X := ⟨_, rfl⟩
                obtain ⟨Y, hYY⟩ : ∃ Y, P ++ R = Y := ⟨_, rfl⟩
                rw [hXX] at H1 hXl
                rw [hYY] at H2
                have hlx : X.length = Y.length + D.length := by rw [← hXX, ← hYY]; simp; omega
                have hPY : P.length ≤ Y.length := by rw [← hYY]; simp
                have HZ := Lib.hid (show Y.take P.length ++ D ++ Y.drop P.length = X by rw [← hXX, ← hYY]; simp)
                have H1 := Lib.hid H1
                have H2 := Lib.hid H2
                clear hXX hYY
                go_wp2_with (go_at_call 19; refine (H1.out).mono ?_; rintro e w9 ⟨rfl, b9⟩; refine Hid.out ?_)
                refine Lib.hid ?_
                have B9 := Lib.hid b9
                clear b9
                have H2 := Lib.hid (H2.out w9 B9)
                go_wp2_with (go_at_call 19; refine (H2.out).mono ?_; rintro e w10 ⟨rfl, b10⟩; refine Hid.out ?_)
                refine Lib.hid ?_
                have B10 := Lib.hid (B9.out.trans (b10.mono B9.out.size))
                have H3 := Lib.hid (ints_yes (HRS.out.keep B10.out) (HBv.out.keep B10.out) (by omega))
                clear b10
                go_wp2_with (go_at_call 16; refine (H3.out).mono ?_; rintro e w11 ⟨rfl, b11⟩; refine Hid.out ?_)
                refine Lib.hid ?_
                have B11 := Lib.hid (B10.out.trans (b11.mono B10.out.size))
                have H4 := A.digest_ (A.keep HE.out B11.out) (HNO.out.keep B11.out) ⟨by simp; omega, fun y hy => by rw [(List.mem_replicate.1 hy).2]; simp⟩
                rw [digest_none] at H4
                have H4 := Lib.hid H4
                clear b11
                go_wp2_with (go_at_call 19; refine (H4.out).mono ?_; rintro e w12 ⟨rfl, b12⟩; refine Hid.out ?_)
                refine Lib.hid ?_
                have B12 := Lib.hid (B11.out.trans (b12.mono B11.out.size))
                have hs0 := empty_yes
                have z1 := bs_size X
                have z2 := bs_size Y
                have z3 := bs_size D
                have hlx' : (X.length : Int) = (Y.length : Int) + (D.length : Int) := by omega
                obtain ⟨vb2, vo2, vcap2, e1, _, hcs⟩ := (HV.out.keep B12.out).form (by omega)
                cases e1
                have c0 := hcs k t0 HT0.out
                clear hcs b12
                by_cases ht0 : t0 = []
                · have hd0 := hD0 ht0
                  subst hd0
                  subst ht0
                  clear hD0 hD1
                  go_wp2
                  go_loopw [20] (fun i wr => ∃ j : Nat, j ≤ P.length ∧ i = .int .i64 j ∧ Hid (Below w12.heap.size w12 wr)) (fun i _ => P.length + 1 - (intOf i).toNat)
                  case atStart => exact ⟨0, Nat.zero_le _, rfl, Lib.hid (Below.refl _ _)⟩
                  case round =>
                    obtain ⟨j, hj, rfl, HB⟩ := hrel
                    have BE := Lib.hid (fun n => B.out.trans ((B12.out.trans ((HB.out.trans ((drewN_below wr n).mono HB.out.size)).mono B12.out.size)).mono B.out.size))
                    have q0 : (j : Int) ≤ (Y.length : Int) := by omega
                    have x1 : (bs Y).extract 0 j = bs (Y.take j) := by rw [bs_extract, List.drop_zero, Nat.sub_zero]
                    have x2 : (bs Y).extract j Y.length = bs (Y.drop j) := by rw [bs_extract, List.take_of_length_le (by simp)]
                    have l1 : (Y.take j).length = j := by rw [List.length_take]; omega
                    have l2 : (Y.drop j).length = Y.length - j := List.length_drop
                    have x3 : bs (Y.take j) ++ bs ([] : S) = bs (Y.take j ++ ([] : S)) := bs_append _ _
                    have x4 : bs (Y.take j ++ ([] : S)) ++ bs (Y.drop j) = bs (Y.take j ++ ([] : S) ++ Y.drop j) := bs_append _ _
                    have s1 : (bs (Y.take j)).size = j := by rw [bs_size, l1]
                    have s2 : (bs (Y.take j ++ ([] : S))).size = j + (([] : S)).length := by rw [bs_size, List.length_append, l1]
                    have s3 : (bs (Y.drop j)).size = Y.length - j := by rw [bs_size, l2]
                    have n1 : ¬ 9223372036854775807 < j + (([] : S)).length := by omega
                    have n2 : ¬ 9223372036854775807 < j + (([] : S)).length + (Y.length - j) := by omega
                    have HZj := Lib.hid (fun e : j = P.length => show Y.take j ++ ([] : S) ++ Y.drop j = X by rw [e]; exact HZ.out)
                    obtain ⟨Z, hZ⟩ : ∃ Z, Y.take j ++ ([] : S) ++ Y.drop j = Z := ⟨_, rfl⟩
                    rw [hZ] at x4 HZj
                    clear hZ
                    obtain ⟨Ya, hYa⟩ : ∃ Ya, Y.take j ++ ([] : S) = Ya := ⟨_, rfl⟩
                    rw [hYa] at x3 x4 s2
                    clear hYa l1 l2
                    by_cases hzx : Z = X
                    · subst hzx
                      go_wp2
                      go_quiet (fail)
                      go_wp2
                      go_ret
                      exact ⟨rfl, BE.out _⟩
                    · have hne := str_ne hzx
                      have hjp : j ≠ P.length := fun e => hzx (HZj.out e)
                      go_wp2
                      go_quiet (fail)
                      go_wp2
                      go_roundw
                      case rel => exact ⟨j + 1, by omega, by go_num, Lib.hid (HB.out.trans ((drewN_below _ _).mono HB.out.size))⟩
                      case measure => simp [intOf]; omega
                · have hd0 := empty_no (hD1 ht0)
                  have hs1 := empty_no ht0
                  clear hD0 hD1
                  go_wp2
                  go_loopw [20] (fun i wr => ∃ j : Nat, j ≤ P.length ∧ i = .int .i64 j ∧ Hid (Below w12.heap.size w12 wr)) (fun i _ => P.length + 1 - (intOf i).toNat)
                  case atStart => exact ⟨0, Nat.zero_le _, rfl, Lib.hid (Below.refl _ _)⟩
                  case round =>
                    obtain ⟨j, hj, rfl, HB⟩ := hrel
                    have BE := Lib.hid (fun n => B.out.trans ((B12.out.trans ((HB.out.trans ((drewN_below wr n).mono HB.out.size)).mono B12.out.size)).mono B.out.size))
                    have q0 : (j : Int) ≤ (Y.length : Int) := by omega
                    have x1 : (bs Y).extract 0 j = bs (Y.take j) := by rw [bs_extract, List.drop_zero, Nat.sub_zero]
                    have x2 : (bs Y).extract j Y.length = bs (Y.drop j) := by rw [bs_extract, List.take_of_length_le (by simp)]
                    have l1 : (Y.take j).length = j := by rw [List.length_take]; omega
                    have l2 : (Y.drop j).length = Y.length - j := List.length_drop
                    have x3 : bs (Y.take j) ++ bs D = bs (Y.take j ++ D) := bs_append _ _
                    have x4 : bs (Y.take j ++ D) ++ bs (Y.drop j) = bs (Y.take j ++ D ++ Y.drop j) := bs_append _ _
                    have s1 : (bs (Y.take j)).size = j := by rw [bs_size, l1]
                    have s2 : (bs (Y.take j ++ D)).size = j + (D).length := by rw [bs_size, List.length_append, l1]
                    have s3 : (bs (Y.drop j)).size = Y.length - j := by rw [bs_size, l2]
                    have n1 : ¬ 9223372036854775807 < j + (D).length := by omega
                    have n2 : ¬ 9223372036854775807 < j + (D).length + (Y.length - j) := by omega
                    have HZj := Lib.hid (fun e : j = P.length => show Y.take j ++ D ++ Y.drop j = X by rw [e]; exact HZ.out)
                    obtain ⟨Z, hZ⟩ : ∃ Z, Y.take j ++ D ++ Y.drop j = Z := ⟨_, rfl⟩
                    rw [hZ] at x4 HZj
                    clear hZ
                    obtain ⟨Ya, hYa⟩ : ∃ Ya, Y.take j ++ D = Ya := ⟨_, rfl⟩
                    rw [hYa] at x3 x4 s2
                    clear hYa l1 l2
                    by_cases hzx : Z = X
                    · subst hzx
                      go_wp2
                      go_quiet (fail)
                      go_wp2
                      go_ret
                      exact ⟨rfl, BE.out _⟩
                    · have hne := str_ne hzx
                      have hjp : j ≠ P.length := fun e => hzx (HZj.out e)
                      go_wp2
                      go_quiet (fail)
                      go_wp2
                      go_roundw
                      case rel => exact ⟨j + 1, by omega, by go_num, Lib.hid (HB.out.trans ((drewN_below _ _).mono HB.out.size))⟩
                      case measure => simp [intOf]; omega
end Go.Proofs.YtbjligjmckilcaaDoor
