/- The walk of GraphSorted. -/
import Derived.Test.YtaecihkhcedijaaGOrders
namespace Go.Proofs.Ytaecihkhcedijaa
open Go.RowKit Go.Maps Go.ChangeMaps Go.MapKept
open Gp
attribute [local go_sem ↓] Go.wp_at_zero Go.wp_at_succ

/-- Before none of the first ones. -/
noncomputable def fre (G : List Nd) (o : List Int) (y : Int) (j : Nat) : Bool := (o.take j).all fun z => !ancB G y z
theorem fre_zero (G : List Nd) (o : List Int) (y : Int) : fre G o y 0 = true := by simp [fre]
theorem fre_next {G : List Nd} {o : List Int} {y z : Int} {j : Nat} (h : o[j]? = some z) : fre G o y (j + 1) = (fre G o y j && !ancB G y z) := by
  unfold fre; rw [List.take_add_one, h, List.all_append]; simp
theorem fre_all {G : List Nd} {o : List Int} {y : Int} (ok : Ok G) (ho : ∀ z, z ∈ o ↔ z ∈ ids G) (hy : y ∈ ids G) : (heads G).contains y = fre G o y o.length := by
  unfold fre
  rw [List.take_length, Bool.eq_iff_iff, List.contains_iff_mem, mem_heads ok, List.all_eq_true]
  constructor
  · rintro ⟨_, h⟩ z _
    rw [ancB_no (h z)]; rfl
  · intro h
    refine ⟨hy, fun z hz => ?_⟩
    have := h z ((ho z).2 (hz.lt ok).2.2)
    rw [ancB_iff.2 hz] at this
    cases this
theorem lv_at {G : List Nd} {o : List Int} (h : o.Pairwise (Lv G)) {i j : Nat} {y z : Int} (hij : j < i) (hy : o[i]? = some y) (hz : o[j]? = some z) : Lv G z y := by
  obtain ⟨hi, rfl⟩ := List.getElem?_eq_some_iff.1 hy
  obtain ⟨hj, rfl⟩ := List.getElem?_eq_some_iff.1 hz
  exact List.pairwise_iff_getElem.1 h j i hj hi hij
theorem lv_no {G : List Nd} {y z : Int} (ok : Ok G) (h : Lv G z y) : ancB G y z = false := ancB_no fun q => by have := lev_anc ok q; unfold Lv at h; omega
/-- The first ones that are named. -/
def les (o ys : List Int) (i : Nat) : List Int := (o.take i).filter fun x => ys.contains x
theorem les_yes {o ys : List Int} {i : Nat} {y : Int} (h : o[i]? = some y) (hc : ys.contains y = true) : les o ys (i + 1) = les o ys i ++ [y] := by
  unfold les
  rw [List.take_add_one, h, List.filter_append]
  have e : List.filter (fun x => ys.contains x) (some y).toList = [y] := by show List.filter _ [y] = [y]; rw [List.filter_cons, hc]; rfl
  rw [e]
theorem les_no {o ys : List Int} {i : Nat} {y : Int} (h : o[i]? = some y) (hc : ys.contains y = false) : les o ys (i + 1) = les o ys i := by
  unfold les
  rw [List.take_add_one, h, List.filter_append]
  have e : List.filter (fun x => ys.contains x) (some y).toList = [] := by show List.filter _ [y] = []; rw [List.filter_cons, hc]; rfl
  rw [e, List.append_nil]
theorem les_le (o ys : List Int) (i : Nat) : (les o ys i).length ≤ i := Nat.le_trans (List.length_filter_le _ _) (by rw [List.length_take]; omega)
set_option maxHeartbeats 4000000 in
set_option maxRecDepth 100000 in
theorem sorted_walk (A : GApi) {w : World} {v u : Value} {l : List Nd} {ys : List Int} (hv : NodesAt w v l) (hu : NumsAt w u ys) :
    Calls Try.prog 6 #[v, u] w fun e w' => e = .returned (.bool true) ∧ Below w.heap.size w w' := by
  have HV := Lib.hid hv
  have HU := Lib.hid hu
  obtain ⟨a, cap, rfl, -⟩ := hv
  obtain ⟨ua, uc, rfl⟩ := hu.slice
  clear hu
  cases hf : few l 20 with
  | false =>
    have HFW := Lib.hid (fun (w1 : World) (h : Below w.heap.size w w1) => few20 (HV.out.keep h) hf)
    clear hf
    go_enter Try.func6, Try.ntmps6
    go_wp2_with (go_at_call 9; refine (small_any A _).mono ?_; rintro e w1 ⟨rfl, m1⟩; refine Hid.out ?_)
    refine Lib.hid ?_
    have B1 := Lib.hid m1
    clear m1
    go_wp2_with (go_at_call 10; refine (HFW.out _ B1.out).mono ?_; rintro e w2 ⟨rfl, rfl⟩; refine Hid.out ?_)
    refine Lib.hid ?_
    go_wp2
    go_ret
    exact ⟨rfl, B1.out⟩
  | true =>
    have HFW := Lib.hid (fun (w1 : World) (h : Below w.heap.size w w1) => few20 (HV.out.keep h) hf)
    obtain ⟨hl, hf30⟩ := few_true hf
    have HF := Lib.hid (fun n hn => Nat.le_trans (hf30 n hn) (by decide : 30 ≤ 100))
    clear hf hf30
    by_cases hys : 20 < ys.length
    · have hys2 : (20 : Int) < (ys.length : Int) := by omega
      go_enter Try.func6, Try.ntmps6
      go_wp2_with (go_at_call 9; refine (small_any A _).mono ?_; rintro e w1 ⟨rfl, m1⟩; refine Hid.out ?_)
      refine Lib.hid ?_
      have B1 := Lib.hid m1
      clear m1
      go_wp2_with (go_at_call 10; refine (HFW.out _ B1.out).mono ?_; rintro e w2 ⟨rfl, rfl⟩; refine Hid.out ?_)
      refine Lib.hid ?_
      go_wp2
      go_ret
      exact ⟨rfl, B1.out⟩
    · have hys2 : ¬ (20 : Int) < (ys.length : Int) := by omega
      go_enter Try.func6, Try.ntmps6
      go_wp2_with (go_at_call 9; refine (small_any A _).mono ?_; rintro e w1 ⟨rfl, m1⟩; refine Hid.out ?_)
      refine Lib.hid ?_
      have B1 := Lib.hid m1
      have HK1 := Lib.hid (known_any A (OMem.start w1) (HV.out.keep B1.out) HF.out (Nat.le_trans hl (by decide)))
      clear m1
      go_wp2_with (go_at_call 10; refine (HFW.out _ B1.out).mono ?_; rintro e w2 ⟨rfl, rfl⟩; refine Hid.out ?_)
      refine Lib.hid ?_
      go_wp2_with (go_at_call 35; refine (HK1.out).mono ?_; rintro e w2 ⟨b, rfl, m2⟩; refine Hid.out ?_)
      refine Lib.hid ?_
      have M2 := show OMem w1 w2 [A.ob b (known l)] from m2
      have FG := known_full l
      have hGl : (known l).length ≤ 20 := Nat.le_trans (few_nodes FG.ok FG.sub) hl
      have HAA := all_any A M2 (i := 0) rfl (by omega) ((HV.out.keep B1.out).keep M2.below) (by omega : l.length ≤ 100)
      have HX := Lib.hid (show ∀ z, z ∈ all (known l) l ↔ z ∈ ids (known l) from fun z => full_all FG)
      have hAS : (all (known l) l).length ≤ 20 := Nat.le_trans (all_small _ _) hl
      have hAL := all_len FG
      have OK := Lib.hid FG.ok
      have M2 := Lib.hid M2
      clear HFW HK1 m2 FG
      generalize all (known l) l = xs at *
      generalize known l = G at *
      have HAA := Lib.hid HAA
      have HAL := Lib.hid hAL
      clear hAL
      have HO1 := Lib.hid (sorted_len OK.out (xs := xs ++ xs) fun x hx => List.mem_append.2 (.inl ((HX.out x).2 hx)))
      have HO2 := Lib.hid (sorted_pw OK.out (xs := xs ++ xs))
      have HO3 := Lib.hid (show ∀ z, z ∈ sorted G (xs ++ xs) ↔ z ∈ ids G from fun z => by rw [Gp.mem_sorted OK.out]; exact ⟨fun q => q.1, fun q => ⟨q, List.mem_append.2 (.inl ((HX.out z).2 q))⟩⟩)
      have HO4 := Lib.hid (sorted_some OK.out (xs := xs ++ xs) (ys := ys) fun x hx => List.mem_append.2 (.inl ((HX.out x).2 hx)))
      go_wp2_with (go_at_call 36; refine (HAA.out).mono ?_; rintro e w3 ⟨v3, rfl, hv3, m3⟩; refine Hid.out ?_)
      refine Lib.hid ?_
      have M3 := Lib.hid (M2.out.fresh m3)
      have HXS := Lib.hid hv3
      obtain ⟨xa, xc, rfl⟩ := hv3.slice
      obtain ⟨ca, cc, w4, r4, o4, b4, ob4⟩ := copyN_run hv3 (by omega)
      obtain ⟨da, dc, w5, r5, hv5, b5⟩ := addN_run b4 o4 ob4 (hv3.keep b4) (by omega)
      have R4 := Lib.hid r4
      have R5 := Lib.hid r5
      have HSO := Lib.hid (A.sorted_ (M3.out.fresh b5) (i := 0) rfl (by omega) hv5 (by rw [List.length_append]; omega))
      have B5 := Lib.hid b5
      clear m3 HAA M2 hv3 r4 r5 o4 b4 ob4 b5 hv5
      go_wp2_with (at_builtin; refine Hid.out ?_)
      refine Lib.hid ?_
      refine Lib.wpList_append_run _ rfl _ _ _ _ rfl _ _ rfl rfl _ _ R4.out ?_
      go_wp2_with (at_builtin; refine Hid.out ?_)
      refine Lib.hid ?_
      refine Lib.wpList_append_run _ rfl _ _ _ _ rfl _ _ rfl rfl _ _ R5.out ?_
      generalize sorted G (xs ++ xs) = o at *
      have hq : ((o.length : Nat) : Int) = ((xs.length : Nat) : Int) := by rw [HO1.out, HAL.out]
      have ho20 : o.length ≤ 20 := by omega
      go_wp2_with (go_at_call 32; refine (HSO.out).mono ?_; rintro e w6 ⟨v6, rfl, hv6, m6⟩; refine Hid.out ?_)
      refine Lib.hid ?_
      have M6 := Lib.hid ((M3.out.fresh B5.out).fresh m6)
      have HXS := Lib.hid ((HXS.out.keep B5.out).keep m6)
      have HOS := Lib.hid hv6
      obtain ⟨oa, oc, rfl⟩ := hv6.slice
      have HHD := Lib.hid (A.heads_ M6.out (i := 0) rfl (by omega))
      clear m6 hv6 HSO R4 R5 M3 B5
      go_wp2_with (go_at_call 26; refine (HHD.out).mono ?_; rintro e wh ⟨vh, rfl, hvh, mh⟩; refine Hid.out ?_)
      refine Lib.hid ?_
      have MG := Lib.hid (M6.out.fresh mh)
      have HXS := Lib.hid (HXS.out.keep mh)
      have HOS := Lib.hid (HOS.out.keep mh)
      have HHS := Lib.hid hvh
      have BH := Lib.hid (B1.out.trans (MG.out.below.mono B1.out.size))
      have HU := Lib.hid (HU.out.keep BH.out)
      clear mh hvh HHD M6 hq
      go_wp2
      go_loopw [9, 11] (fun lv i wr => ∃ (k : Nat) (la : Option Addr) (lc : Nat), k ≤ o.length ∧ i = .int .i64 k ∧ lv = .slice la (les o ys k).length lc ∧ OMem wh wr [.row 3 1 (.slice la (les o ys k).length lc) (les o ys k).length (intVs (les o ys k))]) (fun _ i _ => o.length - (intOf i).toNat)
      case atStart => exact ⟨0, none, 0, Nat.zero_le _, rfl, rfl, (OMem.start wh).rowNil _ _⟩
      case round =>
        obtain ⟨i, la, lc, hi, rfl, rfl, mr⟩ := hrel
        have MR := Lib.hid mr
        have hles := les_le o ys i
        by_cases hlt : i < o.length
        · obtain ⟨y, hy⟩ : ∃ y, o[i]? = some y := ⟨_, List.getElem?_eq_getElem hlt⟩
          have HY := Lib.hid hy
          have HYI := Lib.hid ((HO3.out y).1 (List.mem_of_getElem? hy))
          obtain ⟨b1, off1, cap1, h1, _, hc⟩ := HOS.out.form (by omega)
          cases h1
          have HOC := Lib.hid hc
          clear hc hy mr
          go_wp2
          go_loopw [12, 13] (fun fv i1 wr => ∃ j : Nat, j ≤ o.length ∧ i1 = .int .i64 j ∧ fv = .bool (fre G o y j) ∧ OMem wh wr [.row 3 1 (.slice la (les o ys i).length lc) (les o ys i).length (intVs (les o ys i))]) (fun _ i _ => o.length - (intOf i).toNat)
          case atStart => exact ⟨0, Nat.zero_le _, rfl, by rw [fre_zero], MR.out⟩
          case round =>
            obtain ⟨j, hj, rfl, rfl, mj⟩ := hrel
            have MJ := Lib.hid mj
            by_cases hlt2 : j < o.length
            · obtain ⟨z, hz⟩ : ∃ z, o[j]? = some z := ⟨_, List.getElem?_eq_getElem hlt2⟩
              have HZ := Lib.hid hz
              have HFN := fre_next (G := G) (y := y) hz
              have e0 := below_cell (HOC.out j z hz) mj.below
              have e1 := below_cell (HOC.out i y HY.out) mj.below
              have HL := Lib.hid (A.level_ z (MG.out.fresh mj.below) (i := 0) rfl (by omega))
              clear hz mj
              go_wp2_with (go_at_call 17; refine (HL.out).mono ?_; rintro e w7 ⟨rfl, m7⟩; refine Hid.out ?_)
              refine Lib.hid ?_
              have e0 := below_cell e0 m7
              have e1 := below_cell e1 m7
              have MJ := Lib.hid (MJ.out.fresh m7)
              have HL := Lib.hid (A.level_ y (MG.out.fresh MJ.out.below) (i := 0) rfl (by omega))
              clear m7
              go_wp2_with (go_at_call 17; refine (HL.out).mono ?_; rintro e w8 ⟨rfl, m8⟩; refine Hid.out ?_)
              refine Lib.hid ?_
              have e0 := below_cell e0 m8
              have e1 := below_cell e1 m8
              have MJ := Lib.hid (MJ.out.fresh m8)
              clear m8 HL
              by_cases hji : j < i
              · have hlv := lv_at HO2.out hji HY.out HZ.out
                have hno := lv_no OK.out hlv
                have hlt3 : (j : Int) < (i : Int) := by omega
                by_cases h2 : lev G z = lev G y
                · have hzy : z < y := by unfold Lv at hlv; omega
                  rw [h2]
                  go_wp2
                  go_quiet (fail)
                  go_wp2
                  have S0 := And.intro (below_cell (HOC.out i y HY.out) ((MJ.out.fresh (drewN_below _ nq)).drew).below) (below_cell (HOC.out j z HZ.out) ((MJ.out.fresh (drewN_below _ nq)).drew).below)
                  have MD := Lib.hid (MJ.out.fresh (drewN_below _ nq)).drew
                  have H1 := A.before_ y z (MG.out.fresh MD.out.below) (i := 0) rfl (by omega)
                  rw [hno] at H1
                  have H1 := Lib.hid H1
                  clear hno hlv
                  refine region_till 21 (fun wx => wx.cell? ⟨b1, off1 + i, none⟩ = some (.int .i64 y) ∧ wx.cell? ⟨b1, off1 + j, none⟩ = some (.int .i64 z)) (by kernel_rfl) ?_
                  refine till_take 0 60 false (v := ?v0bg) (by kernel_rfl) (by kernel_rfl) (by kernel_rfl) (by kernel_rfl) (by kernel_rfl) (fun _ _ _ h => h) ?hw0bg S0 ?hy0bg ?rest0bg
                  case hw0bg => (simp only [List.getElem?_toArray, List.getElem?_cons_zero, Option.elim]; rfl)
                  case hy0bg => (simp only [List.getElem?_toArray, List.getElem?_cons_zero, Option.elim]; intro wx _; go_simp; with_reducible rfl)
                  simp only [dstOf, List.getElem?_toArray, List.getElem?_cons_zero, Option.bind, Act.put, List.setIfInBounds_toArray, List.set_cons_zero, List.set_cons_succ]
                  refine till_take 1 60 false (v := ?v1bg) (by kernel_rfl) (by kernel_rfl) (by kernel_rfl) (by kernel_rfl) (by kernel_rfl) (fun _ _ _ h => h) ?hw1bg S0 ?hy1bg ?rest1bg
                  case hw1bg => (simp only [List.getElem?_toArray, List.getElem?_cons_zero, List.getElem?_cons_succ, Option.elim]; rfl)
                  case hy1bg => (simp only [List.getElem?_toArray, List.getElem?_cons_zero, List.getElem?_cons_succ, Option.elim]; intro wx _; go_simp; with_reducible rfl)
                  simp only [dstOf, List.getElem?_toArray, List.getElem?_cons_zero, List.getElem?_cons_succ, Option.bind, Act.put, List.setIfInBounds_toArray, List.set_cons_zero, List.set_cons_succ]
                  refine till_take 2 60 false (v := ?v2bg) (by kernel_rfl) (by kernel_rfl) (by kernel_rfl) (by kernel_rfl) (by kernel_rfl) (fun _ _ _ h => h) ?hw2bg S0 ?hy2bg ?rest2bg
                  case hw2bg => (simp only [List.getElem?_toArray, List.getElem?_cons_zero, List.getElem?_cons_succ, Option.elim]; rfl)
                  case hy2bg => (simp only [List.getElem?_toArray, List.getElem?_cons_zero, List.getElem?_cons_succ, Option.elim]; intro wx _; go_simp; with_reducible rfl)
                  simp only [dstOf, List.getElem?_toArray, List.getElem?_cons_zero, List.getElem?_cons_succ, Option.bind, Act.put, List.setIfInBounds_toArray, List.set_cons_zero, List.set_cons_succ]
                  refine till_take 3 60 false (v := ?v3bg) (by kernel_rfl) (by kernel_rfl) (by kernel_rfl) (by kernel_rfl) (by kernel_rfl) (fun _ _ _ h => h) ?hw3bg S0 ?hy3bg ?rest3bg
                  case hw3bg => (simp only [List.getElem?_toArray, List.getElem?_cons_zero, List.getElem?_cons_succ, Option.elim]; rfl)
                  case hy3bg => (simp only [List.getElem?_toArray, List.getElem?_cons_zero, List.getElem?_cons_succ, Option.elim]; intro wx _; go_simp; with_reducible rfl)
                  simp only [dstOf, List.getElem?_toArray, List.getElem?_cons_zero, List.getElem?_cons_succ, Option.bind, Act.put, List.setIfInBounds_toArray, List.set_cons_zero, List.set_cons_succ]
                  refine till_take 4 60 false (v := ?v4bg) (by kernel_rfl) (by kernel_rfl) (by kernel_rfl) (by kernel_rfl) (by kernel_rfl) (fun _ _ _ h => h) ?hw4bg S0 ?hy4bg ?rest4bg
                  case hw4bg => (simp only [List.getElem?_toArray, List.getElem?_cons_zero, List.getElem?_cons_succ, Option.elim]; rfl)
                  case hy4bg => (simp only [List.getElem?_toArray, List.getElem?_cons_zero, List.getElem?_cons_succ, Option.elim]; intro wx _; go_simp; with_reducible rfl)
                  simp only [dstOf, List.getElem?_toArray, List.getElem?_cons_zero, List.getElem?_cons_succ, Option.bind, Act.put, List.setIfInBounds_toArray, List.set_cons_zero, List.set_cons_succ]
                  refine till_take 5 60 false (v := ?v5bg) (by kernel_rfl) (by kernel_rfl) (by kernel_rfl) (by kernel_rfl) (by kernel_rfl) (fun _ _ _ h => h) ?hw5bg S0 ?hy5bg ?rest5bg
                  case hw5bg => (simp only [List.getElem?_toArray, List.getElem?_cons_zero, List.getElem?_cons_succ, Option.elim]; rfl)
                  case hy5bg => (simp only [List.getElem?_toArray, List.getElem?_cons_zero, List.getElem?_cons_succ, Option.elim]; intro wx _; go_simp; with_reducible rfl)
                  simp only [dstOf, List.getElem?_toArray, List.getElem?_cons_zero, List.getElem?_cons_succ, Option.bind, Act.put, List.setIfInBounds_toArray, List.set_cons_zero, List.set_cons_succ]
                  refine till_take 6 60 false (v := ?v6bg) (by kernel_rfl) (by kernel_rfl) (by kernel_rfl) (by kernel_rfl) (by kernel_rfl) (fun _ _ _ h => h) ?hw6bg S0 ?hy6bg ?rest6bg
                  case hw6bg => (simp only [List.getElem?_toArray, List.getElem?_cons_zero, List.getElem?_cons_succ, Option.elim]; rfl)
                  case hy6bg => (simp only [List.getElem?_toArray, List.getElem?_cons_zero, List.getElem?_cons_succ, Option.elim]; intro wx _; go_simp; with_reducible rfl)
                  simp only [dstOf, List.getElem?_toArray, List.getElem?_cons_zero, List.getElem?_cons_succ, Option.bind, Act.put, List.setIfInBounds_toArray, List.set_cons_zero, List.set_cons_succ]
                  refine till_take 7 60 false (v := ?v7bg) (by kernel_rfl) (by kernel_rfl) (by kernel_rfl) (by kernel_rfl) (by kernel_rfl) (fun _ _ _ h => h) ?hw7bg S0 ?hy7bg ?rest7bg
                  case hw7bg => (simp only [List.getElem?_toArray, List.getElem?_cons_zero, List.getElem?_cons_succ, Option.elim]; rfl)
                  case hy7bg => (simp only [List.getElem?_toArray, List.getElem?_cons_zero, List.getElem?_cons_succ, Option.elim]; intro wx _; go_simp; with_reducible rfl)
                  simp only [dstOf, List.getElem?_toArray, List.getElem?_cons_zero, List.getElem?_cons_succ, Option.bind, Act.put, List.setIfInBounds_toArray, List.set_cons_zero, List.set_cons_succ]
                  refine till_take 8 60 false (v := ?v8bg) (by kernel_rfl) (by kernel_rfl) (by kernel_rfl) (by kernel_rfl) (by kernel_rfl) (fun _ _ _ h => h) ?hw8bg S0 ?hy8bg ?rest8bg
                  case hw8bg => (simp only [List.getElem?_toArray, List.getElem?_cons_zero, List.getElem?_cons_succ, Option.elim]; rfl)
                  case hy8bg => (simp only [List.getElem?_toArray, List.getElem?_cons_zero, List.getElem?_cons_succ, Option.elim]; intro wx _; go_simp; with_reducible rfl)
                  simp only [dstOf, List.getElem?_toArray, List.getElem?_cons_zero, List.getElem?_cons_succ, Option.bind, Act.put, List.setIfInBounds_toArray, List.set_cons_zero, List.set_cons_succ]
                  refine till_take 9 60 false (v := ?v9bg) (by kernel_rfl) (by kernel_rfl) (by kernel_rfl) (by kernel_rfl) (by kernel_rfl) (fun _ _ _ h => h) ?hw9bg S0 ?hy9bg ?rest9bg
                  case hw9bg => (simp only [List.getElem?_toArray, List.getElem?_cons_zero, List.getElem?_cons_succ, Option.elim]; rfl)
                  case hy9bg => (simp only [List.getElem?_toArray, List.getElem?_cons_zero, List.getElem?_cons_succ, Option.elim]; intro wx _; go_simp; with_reducible rfl)
                  simp only [dstOf, List.getElem?_toArray, List.getElem?_cons_zero, List.getElem?_cons_succ, Option.bind, Act.put, List.setIfInBounds_toArray, List.set_cons_zero, List.set_cons_succ]
                  refine till_take 10 60 false (v := ?v10bg) (by kernel_rfl) (by kernel_rfl) (by kernel_rfl) (by kernel_rfl) (by kernel_rfl) (fun _ _ _ h => h) ?hw10bg S0 ?hy10bg ?rest10bg
                  case hw10bg => (simp only [List.getElem?_toArray, List.getElem?_cons_zero, List.getElem?_cons_succ, Option.elim]; rfl)
                  case hy10bg => (simp only [List.getElem?_toArray, List.getElem?_cons_zero, List.getElem?_cons_succ, Option.elim]; intro wx _; go_simp; with_reducible rfl)
                  simp only [dstOf, List.getElem?_toArray, List.getElem?_cons_zero, List.getElem?_cons_succ, Option.bind, Act.put, List.setIfInBounds_toArray, List.set_cons_zero, List.set_cons_succ]
                  refine till_take 11 60 false (v := ?v11bg) (by kernel_rfl) (by kernel_rfl) (by kernel_rfl) (by kernel_rfl) (by kernel_rfl) (fun _ _ _ h => h) ?hw11bg S0 ?hy11bg ?rest11bg
                  case hw11bg => (simp only [List.getElem?_toArray, List.getElem?_cons_zero, List.getElem?_cons_succ, Option.elim]; rfl)
                  case hy11bg => (simp only [List.getElem?_toArray, List.getElem?_cons_zero, List.getElem?_cons_succ, Option.elim]; intro wx _; go_simp; with_reducible rfl)
                  simp only [dstOf, List.getElem?_toArray, List.getElem?_cons_zero, List.getElem?_cons_succ, Option.bind, Act.put, List.setIfInBounds_toArray, List.set_cons_zero, List.set_cons_succ]
                  refine till_take 12 60 false (v := ?v12bg) (by kernel_rfl) (by kernel_rfl) (by kernel_rfl) (by kernel_rfl) (by kernel_rfl) (fun _ _ _ h => h) ?hw12bg S0 ?hy12bg ?rest12bg
                  case hw12bg => (simp only [List.getElem?_toArray, List.getElem?_cons_zero, List.getElem?_cons_succ, Option.elim]; rfl)
                  case hy12bg => (simp only [List.getElem?_toArray, List.getElem?_cons_zero, List.getElem?_cons_succ, Option.elim]; intro wx _; go_simp; with_reducible rfl)
                  simp only [dstOf, List.getElem?_toArray, List.getElem?_cons_zero, List.getElem?_cons_succ, Option.bind, Act.put, List.setIfInBounds_toArray, List.set_cons_zero, List.set_cons_succ]
                  refine till_take 13 60 false (v := ?v13bg) (by kernel_rfl) (by kernel_rfl) (by kernel_rfl) (by kernel_rfl) (by kernel_rfl) (fun _ _ _ h => h) ?hw13bg S0 ?hy13bg ?rest13bg
                  case hw13bg => (simp only [List.getElem?_toArray, List.getElem?_cons_zero, List.getElem?_cons_succ, Option.elim]; rfl)
                  case hy13bg => (simp only [List.getElem?_toArray, List.getElem?_cons_zero, List.getElem?_cons_succ, Option.elim]; intro wx _; go_simp; with_reducible rfl)
                  simp only [dstOf, List.getElem?_toArray, List.getElem?_cons_zero, List.getElem?_cons_succ, Option.bind, Act.put, List.setIfInBounds_toArray, List.set_cons_zero, List.set_cons_succ]
                  refine till_take 14 60 false (v := ?v14bg) (by kernel_rfl) (by kernel_rfl) (by kernel_rfl) (by kernel_rfl) (by kernel_rfl) (fun _ _ _ h => h) ?hw14bg S0 ?hy14bg ?rest14bg
                  case hw14bg => (simp only [List.getElem?_toArray, List.getElem?_cons_zero, List.getElem?_cons_succ, Option.elim]; rfl)
                  case hy14bg => (simp only [List.getElem?_toArray, List.getElem?_cons_zero, List.getElem?_cons_succ, Option.elim]; intro wx _; go_simp; with_reducible rfl)
                  simp only [dstOf, List.getElem?_toArray, List.getElem?_cons_zero, List.getElem?_cons_succ, Option.bind, Act.put, List.setIfInBounds_toArray, List.set_cons_zero, List.set_cons_succ]
                  refine till_take 15 60 false (v := ?v15bg) (by kernel_rfl) (by kernel_rfl) (by kernel_rfl) (by kernel_rfl) (by kernel_rfl) (fun _ _ _ h => h) ?hw15bg S0 ?hy15bg ?rest15bg
                  case hw15bg => (simp only [List.getElem?_toArray, List.getElem?_cons_zero, List.getElem?_cons_succ, Option.elim]; rfl)
                  case hy15bg => (simp only [List.getElem?_toArray, List.getElem?_cons_zero, List.getElem?_cons_succ, Option.elim]; intro wx _; go_simp; with_reducible rfl)
                  simp only [dstOf, List.getElem?_toArray, List.getElem?_cons_zero, List.getElem?_cons_succ, Option.bind, Act.put, List.setIfInBounds_toArray, List.set_cons_zero, List.set_cons_succ]
                  refine till_take 16 60 true (v := ?v16bg) (by kernel_rfl) (by kernel_rfl) (by kernel_rfl) (by kernel_rfl) (by kernel_rfl) (fun _ _ _ h => h) ?hw16bg S0 ?hy16bg ?rest16bg
                  case hw16bg => (simp only [List.getElem?_toArray, List.getElem?_cons_zero, List.getElem?_cons_succ, Option.elim]; rfl)
                  case hy16bg => (simp only [List.getElem?_toArray, List.getElem?_cons_zero, List.getElem?_cons_succ, Option.elim]; intro wx hx; have x0 := (hx trivial).1; have x1 := (hx trivial).2; go_simp; with_reducible rfl)
                  simp only [dstOf, List.getElem?_toArray, List.getElem?_cons_zero, List.getElem?_cons_succ, Option.bind, Act.put, List.setIfInBounds_toArray, List.set_cons_zero, List.set_cons_succ]
                  refine till_take 17 60 false (v := ?v17bg) (by kernel_rfl) (by kernel_rfl) (by kernel_rfl) (by kernel_rfl) (by kernel_rfl) (fun _ _ _ h => h) ?hw17bg S0 ?hy17bg ?rest17bg
                  case hw17bg => (simp only [List.getElem?_toArray, List.getElem?_cons_zero, List.getElem?_cons_succ, Option.elim]; rfl)
                  case hy17bg => (simp only [List.getElem?_toArray, List.getElem?_cons_zero, List.getElem?_cons_succ, Option.elim]; intro wx _; go_simp; with_reducible rfl)
                  simp only [dstOf, List.getElem?_toArray, List.getElem?_cons_zero, List.getElem?_cons_succ, Option.bind, Act.put, List.setIfInBounds_toArray, List.set_cons_zero, List.set_cons_succ]
                  refine till_take 18 60 false (v := ?v18bg) (by kernel_rfl) (by kernel_rfl) (by kernel_rfl) (by kernel_rfl) (by kernel_rfl) (fun _ _ _ h => h) ?hw18bg S0 ?hy18bg ?rest18bg
                  case hw18bg => (simp only [List.getElem?_toArray, List.getElem?_cons_zero, List.getElem?_cons_succ, Option.elim]; rfl)
                  case hy18bg => (simp only [List.getElem?_toArray, List.getElem?_cons_zero, List.getElem?_cons_succ, Option.elim]; intro wx _; go_simp; with_reducible rfl)
                  simp only [dstOf, List.getElem?_toArray, List.getElem?_cons_zero, List.getElem?_cons_succ, Option.bind, Act.put, List.setIfInBounds_toArray, List.set_cons_zero, List.set_cons_succ]
                  refine till_take 19 60 false (v := ?v19bg) (by kernel_rfl) (by kernel_rfl) (by kernel_rfl) (by kernel_rfl) (by kernel_rfl) (fun _ _ _ h => h) ?hw19bg S0 ?hy19bg ?rest19bg
                  case hw19bg => (simp only [List.getElem?_toArray, List.getElem?_cons_zero, List.getElem?_cons_succ, Option.elim]; rfl)
                  case hy19bg => (simp only [List.getElem?_toArray, List.getElem?_cons_zero, List.getElem?_cons_succ, Option.elim]; intro wx _; go_simp; with_reducible rfl)
                  simp only [dstOf, List.getElem?_toArray, List.getElem?_cons_zero, List.getElem?_cons_succ, Option.bind, Act.put, List.setIfInBounds_toArray, List.set_cons_zero, List.set_cons_succ]
                  refine till_take 20 60 true (v := ?v20bg) (by kernel_rfl) (by kernel_rfl) (by kernel_rfl) (by kernel_rfl) (by kernel_rfl) (fun _ _ _ h => h) ?hw20bg S0 ?hy20bg ?rest20bg
                  case hw20bg => (simp only [List.getElem?_toArray, List.getElem?_cons_zero, List.getElem?_cons_succ, Option.elim]; rfl)
                  case hy20bg => (simp only [List.getElem?_toArray, List.getElem?_cons_zero, List.getElem?_cons_succ, Option.elim]; intro wx hx; have x0 := (hx trivial).1; have x1 := (hx trivial).2; go_simp; with_reducible rfl)
                  simp only [dstOf, List.getElem?_toArray, List.getElem?_cons_zero, List.getElem?_cons_succ, Option.bind, Act.put, List.setIfInBounds_toArray, List.set_cons_zero, List.set_cons_succ]
                  refine till_step 21 (by kernel_rfl) (by kernel_rfl) (fun K hK => ?_)
                  simp only [List.getElem?_toArray, List.getElem?_cons_zero, List.getElem?_cons_succ, Option.elim]
                  rw [if_pos (by rfl)]
                  go_simp
                  go_at_call 19
                  refine (H1.out).mono ?_
                  rintro e w9 ⟨rfl, m9⟩
                  refine hK.out _ _ ?_
                  clear hK K
                  try simp only [Act.put, List.setIfInBounds_toArray, List.set_cons_zero, List.set_cons_succ]
                  have MD := Lib.hid (MD.out.fresh m9)
                  clear H1 m9 S0
                  refine till_late 22 (v := ?v22bg) (by kernel_rfl) (by kernel_rfl) (by kernel_rfl) (by kernel_rfl) (fun _ _ _ h => h) (by kernel_rfl) ?hw22bg ?hy22bg ?rest22bg
                  case hw22bg => (simp only [List.getElem?_toArray, List.getElem?_cons_zero, List.getElem?_cons_succ, Option.elim]; rfl)
                  case hy22bg => (simp only [List.getElem?_toArray, List.getElem?_cons_zero, List.getElem?_cons_succ, Option.elim]; intro wx; go_simp; with_reducible rfl)
                  simp only [dstOf, List.getElem?_toArray, List.getElem?_cons_zero, List.getElem?_cons_succ, Option.bind, Act.put, List.setIfInBounds_toArray, List.set_cons_zero, List.set_cons_succ]
                  refine till_late 23 (v := ?v23bg) (by kernel_rfl) (by kernel_rfl) (by kernel_rfl) (by kernel_rfl) (fun _ _ _ h => h) (by kernel_rfl) ?hw23bg ?hy23bg ?rest23bg
                  case hw23bg => (simp only [List.getElem?_toArray, List.getElem?_cons_zero, List.getElem?_cons_succ, Option.elim]; rfl)
                  case hy23bg => (simp only [List.getElem?_toArray, List.getElem?_cons_zero, List.getElem?_cons_succ, Option.elim]; intro wx; go_simp; with_reducible rfl)
                  simp only [dstOf, List.getElem?_toArray, List.getElem?_cons_zero, List.getElem?_cons_succ, Option.bind, Act.put, List.setIfInBounds_toArray, List.set_cons_zero, List.set_cons_succ]
                  refine till_end (by kernel_rfl) ?_ _
                  go_wp2
                  cases ht : fre G o y j with
                  | false =>
                    rw [ht] at HFN
                    have HFN := Lib.hid HFN
                    clear ht
                    go_wp2
                    go_quiet (fail)
                    go_wp2
                    go_roundw
                    case rel => exact ⟨j + 1, by omega, by go_num, by rw [HFN.out]; rfl, MD.out.fresh (drewN_below _ _)⟩
                    case measure => simp [intOf]; omega
                  | true =>
                    rw [ht, Bool.true_and] at HFN
                    have HFN := Lib.hid HFN
                    generalize hwq : w9 = wq
                    have MJ := Lib.hid (show OMem wh wq [.row 3 1 (.slice la (les o ys i).length lc) (les o ys i).length (intVs (les o ys i))] by rw [← hwq]; exact MD.out)
                    have S0 := And.intro (below_cell (HOC.out i y HY.out) (MJ.out.drew).below) (below_cell (HOC.out j z HZ.out) (MJ.out.drew).below)
                    have MD := Lib.hid MJ.out.drew
                    have H1 := Lib.hid (A.before_ y z (MG.out.fresh MD.out.below) (i := 0) rfl (by omega))
                    clear ht hwq e0 e1
                    go_wp2
                    refine region_till 11 (fun wx => wx.cell? ⟨b1, off1 + i, none⟩ = some (.int .i64 y) ∧ wx.cell? ⟨b1, off1 + j, none⟩ = some (.int .i64 z)) (by kernel_rfl) ?_
                    refine till_take 0 60 false (v := ?v0bf) (by kernel_rfl) (by kernel_rfl) (by kernel_rfl) (by kernel_rfl) (by kernel_rfl) (fun _ _ _ h => h) ?hw0bf S0 ?hy0bf ?rest0bf
                    case hw0bf => (simp only [List.getElem?_toArray, List.getElem?_cons_zero, Option.elim]; rfl)
                    case hy0bf => (simp only [List.getElem?_toArray, List.getElem?_cons_zero, Option.elim]; intro wx _; go_simp; with_reducible rfl)
                    simp only [dstOf, List.getElem?_toArray, List.getElem?_cons_zero, Option.bind, Act.put, List.setIfInBounds_toArray, List.set_cons_zero, List.set_cons_succ]
                    refine till_take 1 60 false (v := ?v1bf) (by kernel_rfl) (by kernel_rfl) (by kernel_rfl) (by kernel_rfl) (by kernel_rfl) (fun _ _ _ h => h) ?hw1bf S0 ?hy1bf ?rest1bf
                    case hw1bf => (simp only [List.getElem?_toArray, List.getElem?_cons_zero, List.getElem?_cons_succ, Option.elim]; rfl)
                    case hy1bf => (simp only [List.getElem?_toArray, List.getElem?_cons_zero, List.getElem?_cons_succ, Option.elim]; intro wx _; go_simp; with_reducible rfl)
                    simp only [dstOf, List.getElem?_toArray, List.getElem?_cons_zero, List.getElem?_cons_succ, Option.bind, Act.put, List.setIfInBounds_toArray, List.set_cons_zero, List.set_cons_succ]
                    refine till_take 2 60 false (v := ?v2bf) (by kernel_rfl) (by kernel_rfl) (by kernel_rfl) (by kernel_rfl) (by kernel_rfl) (fun _ _ _ h => h) ?hw2bf S0 ?hy2bf ?rest2bf
                    case hw2bf => (simp only [List.getElem?_toArray, List.getElem?_cons_zero, List.getElem?_cons_succ, Option.elim]; rfl)
                    case hy2bf => (simp only [List.getElem?_toArray, List.getElem?_cons_zero, List.getElem?_cons_succ, Option.elim]; intro wx _; go_simp; with_reducible rfl)
                    simp only [dstOf, List.getElem?_toArray, List.getElem?_cons_zero, List.getElem?_cons_succ, Option.bind, Act.put, List.setIfInBounds_toArray, List.set_cons_zero, List.set_cons_succ]
                    refine till_take 3 60 false (v := ?v3bf) (by kernel_rfl) (by kernel_rfl) (by kernel_rfl) (by kernel_rfl) (by kernel_rfl) (fun _ _ _ h => h) ?hw3bf S0 ?hy3bf ?rest3bf
                    case hw3bf => (simp only [List.getElem?_toArray, List.getElem?_cons_zero, List.getElem?_cons_succ, Option.elim]; rfl)
                    case hy3bf => (simp only [List.getElem?_toArray, List.getElem?_cons_zero, List.getElem?_cons_succ, Option.elim]; intro wx _; go_simp; with_reducible rfl)
                    simp only [dstOf, List.getElem?_toArray, List.getElem?_cons_zero, List.getElem?_cons_succ, Option.bind, Act.put, List.setIfInBounds_toArray, List.set_cons_zero, List.set_cons_succ]
                    refine till_take 4 60 false (v := ?v4bf) (by kernel_rfl) (by kernel_rfl) (by kernel_rfl) (by kernel_rfl) (by kernel_rfl) (fun _ _ _ h => h) ?hw4bf S0 ?hy4bf ?rest4bf
                    case hw4bf => (simp only [List.getElem?_toArray, List.getElem?_cons_zero, List.getElem?_cons_succ, Option.elim]; rfl)
                    case hy4bf => (simp only [List.getElem?_toArray, List.getElem?_cons_zero, List.getElem?_cons_succ, Option.elim]; intro wx _; go_simp; with_reducible rfl)
                    simp only [dstOf, List.getElem?_toArray, List.getElem?_cons_zero, List.getElem?_cons_succ, Option.bind, Act.put, List.setIfInBounds_toArray, List.set_cons_zero, List.set_cons_succ]
                    refine till_take 5 60 false (v := ?v5bf) (by kernel_rfl) (by kernel_rfl) (by kernel_rfl) (by kernel_rfl) (by kernel_rfl) (fun _ _ _ h => h) ?hw5bf S0 ?hy5bf ?rest5bf
                    case hw5bf => (simp only [List.getElem?_toArray, List.getElem?_cons_zero, List.getElem?_cons_succ, Option.elim]; rfl)
                    case hy5bf => (simp only [List.getElem?_toArray, List.getElem?_cons_zero, List.getElem?_cons_succ, Option.elim]; intro wx _; go_simp; with_reducible rfl)
                    simp only [dstOf, List.getElem?_toArray, List.getElem?_cons_zero, List.getElem?_cons_succ, Option.bind, Act.put, List.setIfInBounds_toArray, List.set_cons_zero, List.set_cons_succ]
                    refine till_take 6 60 true (v := ?v6bf) (by kernel_rfl) (by kernel_rfl) (by kernel_rfl) (by kernel_rfl) (by kernel_rfl) (fun _ _ _ h => h) ?hw6bf S0 ?hy6bf ?rest6bf
                    case hw6bf => (simp only [List.getElem?_toArray, List.getElem?_cons_zero, List.getElem?_cons_succ, Option.elim]; rfl)
                    case hy6bf => (simp only [List.getElem?_toArray, List.getElem?_cons_zero, List.getElem?_cons_succ, Option.elim]; intro wx hx; have x0 := (hx trivial).1; have x1 := (hx trivial).2; go_simp; with_reducible rfl)
                    simp only [dstOf, List.getElem?_toArray, List.getElem?_cons_zero, List.getElem?_cons_succ, Option.bind, Act.put, List.setIfInBounds_toArray, List.set_cons_zero, List.set_cons_succ]
                    refine till_take 7 60 false (v := ?v7bf) (by kernel_rfl) (by kernel_rfl) (by kernel_rfl) (by kernel_rfl) (by kernel_rfl) (fun _ _ _ h => h) ?hw7bf S0 ?hy7bf ?rest7bf
                    case hw7bf => (simp only [List.getElem?_toArray, List.getElem?_cons_zero, List.getElem?_cons_succ, Option.elim]; rfl)
                    case hy7bf => (simp only [List.getElem?_toArray, List.getElem?_cons_zero, List.getElem?_cons_succ, Option.elim]; intro wx _; go_simp; with_reducible rfl)
                    simp only [dstOf, List.getElem?_toArray, List.getElem?_cons_zero, List.getElem?_cons_succ, Option.bind, Act.put, List.setIfInBounds_toArray, List.set_cons_zero, List.set_cons_succ]
                    refine till_take 8 60 false (v := ?v8bf) (by kernel_rfl) (by kernel_rfl) (by kernel_rfl) (by kernel_rfl) (by kernel_rfl) (fun _ _ _ h => h) ?hw8bf S0 ?hy8bf ?rest8bf
                    case hw8bf => (simp only [List.getElem?_toArray, List.getElem?_cons_zero, List.getElem?_cons_succ, Option.elim]; rfl)
                    case hy8bf => (simp only [List.getElem?_toArray, List.getElem?_cons_zero, List.getElem?_cons_succ, Option.elim]; intro wx _; go_simp; with_reducible rfl)
                    simp only [dstOf, List.getElem?_toArray, List.getElem?_cons_zero, List.getElem?_cons_succ, Option.bind, Act.put, List.setIfInBounds_toArray, List.set_cons_zero, List.set_cons_succ]
                    refine till_take 9 60 false (v := ?v9bf) (by kernel_rfl) (by kernel_rfl) (by kernel_rfl) (by kernel_rfl) (by kernel_rfl) (fun _ _ _ h => h) ?hw9bf S0 ?hy9bf ?rest9bf
                    case hw9bf => (simp only [List.getElem?_toArray, List.getElem?_cons_zero, List.getElem?_cons_succ, Option.elim]; rfl)
                    case hy9bf => (simp only [List.getElem?_toArray, List.getElem?_cons_zero, List.getElem?_cons_succ, Option.elim]; intro wx _; go_simp; with_reducible rfl)
                    simp only [dstOf, List.getElem?_toArray, List.getElem?_cons_zero, List.getElem?_cons_succ, Option.bind, Act.put, List.setIfInBounds_toArray, List.set_cons_zero, List.set_cons_succ]
                    refine till_take 10 60 true (v := ?v10bf) (by kernel_rfl) (by kernel_rfl) (by kernel_rfl) (by kernel_rfl) (by kernel_rfl) (fun _ _ _ h => h) ?hw10bf S0 ?hy10bf ?rest10bf
                    case hw10bf => (simp only [List.getElem?_toArray, List.getElem?_cons_zero, List.getElem?_cons_succ, Option.elim]; rfl)
                    case hy10bf => (simp only [List.getElem?_toArray, List.getElem?_cons_zero, List.getElem?_cons_succ, Option.elim]; intro wx hx; have x0 := (hx trivial).1; have x1 := (hx trivial).2; go_simp; with_reducible rfl)
                    simp only [dstOf, List.getElem?_toArray, List.getElem?_cons_zero, List.getElem?_cons_succ, Option.bind, Act.put, List.setIfInBounds_toArray, List.set_cons_zero, List.set_cons_succ]
                    refine till_step 11 (by kernel_rfl) (by kernel_rfl) (fun K hK => ?_)
                    simp only [List.getElem?_toArray, List.getElem?_cons_zero, List.getElem?_cons_succ, Option.elim]
                    rw [if_pos (by rfl)]
                    go_simp
                    go_at_call 19
                    refine (H1.out).mono ?_
                    rintro e w9 ⟨rfl, m9⟩
                    refine hK.out _ _ ?_
                    clear hK K
                    try simp only [Act.put, List.setIfInBounds_toArray, List.set_cons_zero, List.set_cons_succ]
                    have MD := Lib.hid (MD.out.fresh m9)
                    clear H1 m9 S0
                    refine till_late 12 (v := ?v12bf) (by kernel_rfl) (by kernel_rfl) (by kernel_rfl) (by kernel_rfl) (fun _ _ _ h => h) (by kernel_rfl) ?hw12bf ?hy12bf ?rest12bf
                    case hw12bf => (simp only [List.getElem?_toArray, List.getElem?_cons_zero, List.getElem?_cons_succ, Option.elim]; rfl)
                    case hy12bf => (simp only [List.getElem?_toArray, List.getElem?_cons_zero, List.getElem?_cons_succ, Option.elim]; intro wx; go_simp; with_reducible rfl)
                    simp only [dstOf, List.getElem?_toArray, List.getElem?_cons_zero, List.getElem?_cons_succ, Option.bind, Act.put, List.setIfInBounds_toArray, List.set_cons_zero, List.set_cons_succ]
                    refine till_late 13 (v := ?v13bf) (by kernel_rfl) (by kernel_rfl) (by kernel_rfl) (by kernel_rfl) (fun _ _ _ h => h) (by kernel_rfl) ?hw13bf ?hy13bf ?rest13bf
                    case hw13bf => (simp only [List.getElem?_toArray, List.getElem?_cons_zero, List.getElem?_cons_succ, Option.elim]; rfl)
                    case hy13bf => (simp only [List.getElem?_toArray, List.getElem?_cons_zero, List.getElem?_cons_succ, Option.elim]; intro wx; go_simp; with_reducible rfl)
                    simp only [dstOf, List.getElem?_toArray, List.getElem?_cons_zero, List.getElem?_cons_succ, Option.bind, Act.put, List.setIfInBounds_toArray, List.set_cons_zero, List.set_cons_succ]
                    refine till_late 14 (v := ?v14bf) (by kernel_rfl) (by kernel_rfl) (by kernel_rfl) (by kernel_rfl) (fun _ _ _ h => h) (by kernel_rfl) ?hw14bf ?hy14bf ?rest14bf
                    case hw14bf => (simp only [List.getElem?_toArray, List.getElem?_cons_zero, List.getElem?_cons_succ, Option.elim]; rfl)
                    case hy14bf => (simp only [List.getElem?_toArray, List.getElem?_cons_zero, List.getElem?_cons_succ, Option.elim]; intro wx; go_simp; with_reducible rfl)
                    simp only [dstOf, List.getElem?_toArray, List.getElem?_cons_zero, List.getElem?_cons_succ, Option.bind, Act.put, List.setIfInBounds_toArray, List.set_cons_zero, List.set_cons_succ]
                    refine till_end (by kernel_rfl) ?_ _
                    go_wp2
                    go_roundw
                    case rel => exact ⟨j + 1, by omega, by go_num, by rw [HFN.out], MD.out⟩
                    case measure => simp [intOf]; omega
                · have h1 : lev G z < lev G y := by unfold Lv at hlv; omega
                  go_wp2
                  go_quiet (fail)
                  go_wp2
                  have S0 := And.intro (below_cell (HOC.out i y HY.out) ((MJ.out.fresh (drewN_below _ nq)).drew).below) (below_cell (HOC.out j z HZ.out) ((MJ.out.fresh (drewN_below _ nq)).drew).below)
                  have MD := Lib.hid (MJ.out.fresh (drewN_below _ nq)).drew
                  have H1 := A.before_ y z (MG.out.fresh MD.out.below) (i := 0) rfl (by omega)
                  rw [hno] at H1
                  have H1 := Lib.hid H1
                  clear hno hlv
                  refine region_till 21 (fun wx => wx.cell? ⟨b1, off1 + i, none⟩ = some (.int .i64 y) ∧ wx.cell? ⟨b1, off1 + j, none⟩ = some (.int .i64 z)) (by kernel_rfl) ?_
                  refine till_take 0 60 false (v := ?v0cg) (by kernel_rfl) (by kernel_rfl) (by kernel_rfl) (by kernel_rfl) (by kernel_rfl) (fun _ _ _ h => h) ?hw0cg S0 ?hy0cg ?rest0cg
                  case hw0cg => (simp only [List.getElem?_toArray, List.getElem?_cons_zero, Option.elim]; rfl)
                  case hy0cg => (simp only [List.getElem?_toArray, List.getElem?_cons_zero, Option.elim]; intro wx _; go_simp; with_reducible rfl)
                  simp only [dstOf, List.getElem?_toArray, List.getElem?_cons_zero, Option.bind, Act.put, List.setIfInBounds_toArray, List.set_cons_zero, List.set_cons_succ]
                  refine till_take 1 60 false (v := ?v1cg) (by kernel_rfl) (by kernel_rfl) (by kernel_rfl) (by kernel_rfl) (by kernel_rfl) (fun _ _ _ h => h) ?hw1cg S0 ?hy1cg ?rest1cg
                  case hw1cg => (simp only [List.getElem?_toArray, List.getElem?_cons_zero, List.getElem?_cons_succ, Option.elim]; rfl)
                  case hy1cg => (simp only [List.getElem?_toArray, List.getElem?_cons_zero, List.getElem?_cons_succ, Option.elim]; intro wx _; go_simp; with_reducible rfl)
                  simp only [dstOf, List.getElem?_toArray, List.getElem?_cons_zero, List.getElem?_cons_succ, Option.bind, Act.put, List.setIfInBounds_toArray, List.set_cons_zero, List.set_cons_succ]
                  refine till_take 2 60 false (v := ?v2cg) (by kernel_rfl) (by kernel_rfl) (by kernel_rfl) (by kernel_rfl) (by kernel_rfl) (fun _ _ _ h => h) ?hw2cg S0 ?hy2cg ?rest2cg
                  case hw2cg => (simp only [List.getElem?_toArray, List.getElem?_cons_zero, List.getElem?_cons_succ, Option.elim]; rfl)
                  case hy2cg => (simp only [List.getElem?_toArray, List.getElem?_cons_zero, List.getElem?_cons_succ, Option.elim]; intro wx _; go_simp; with_reducible rfl)
                  simp only [dstOf, List.getElem?_toArray, List.getElem?_cons_zero, List.getElem?_cons_succ, Option.bind, Act.put, List.setIfInBounds_toArray, List.set_cons_zero, List.set_cons_succ]
                  refine till_take 3 60 false (v := ?v3cg) (by kernel_rfl) (by kernel_rfl) (by kernel_rfl) (by kernel_rfl) (by kernel_rfl) (fun _ _ _ h => h) ?hw3cg S0 ?hy3cg ?rest3cg
                  case hw3cg => (simp only [List.getElem?_toArray, List.getElem?_cons_zero, List.getElem?_cons_succ, Option.elim]; rfl)
                  case hy3cg => (simp only [List.getElem?_toArray, List.getElem?_cons_zero, List.getElem?_cons_succ, Option.elim]; intro wx _; go_simp; with_reducible rfl)
                  simp only [dstOf, List.getElem?_toArray, List.getElem?_cons_zero, List.getElem?_cons_succ, Option.bind, Act.put, List.setIfInBounds_toArray, List.set_cons_zero, List.set_cons_succ]
                  refine till_take 4 60 false (v := ?v4cg) (by kernel_rfl) (by kernel_rfl) (by kernel_rfl) (by kernel_rfl) (by kernel_rfl) (fun _ _ _ h => h) ?hw4cg S0 ?hy4cg ?rest4cg
                  case hw4cg => (simp only [List.getElem?_toArray, List.getElem?_cons_zero, List.getElem?_cons_succ, Option.elim]; rfl)
                  case hy4cg => (simp only [List.getElem?_toArray, List.getElem?_cons_zero, List.getElem?_cons_succ, Option.elim]; intro wx _; go_simp; with_reducible rfl)
                  simp only [dstOf, List.getElem?_toArray, List.getElem?_cons_zero, List.getElem?_cons_succ, Option.bind, Act.put, List.setIfInBounds_toArray, List.set_cons_zero, List.set_cons_succ]
                  refine till_take 5 60 false (v := ?v5cg) (by kernel_rfl) (by kernel_rfl) (by kernel_rfl) (by kernel_rfl) (by kernel_rfl) (fun _ _ _ h => h) ?hw5cg S0 ?hy5cg ?rest5cg
                  case hw5cg => (simp only [List.getElem?_toArray, List.getElem?_cons_zero, List.getElem?_cons_succ, Option.elim]; rfl)
                  case hy5cg => (simp only [List.getElem?_toArray, List.getElem?_cons_zero, List.getElem?_cons_succ, Option.elim]; intro wx _; go_simp; with_reducible rfl)
                  simp only [dstOf, List.getElem?_toArray, List.getElem?_cons_zero, List.getElem?_cons_succ, Option.bind, Act.put, List.setIfInBounds_toArray, List.set_cons_zero, List.set_cons_succ]
                  refine till_take 6 60 false (v := ?v6cg) (by kernel_rfl) (by kernel_rfl) (by kernel_rfl) (by kernel_rfl) (by kernel_rfl) (fun _ _ _ h => h) ?hw6cg S0 ?hy6cg ?rest6cg
                  case hw6cg => (simp only [List.getElem?_toArray, List.getElem?_cons_zero, List.getElem?_cons_succ, Option.elim]; rfl)
                  case hy6cg => (simp only [List.getElem?_toArray, List.getElem?_cons_zero, List.getElem?_cons_succ, Option.elim]; intro wx _; go_simp; with_reducible rfl)
                  simp only [dstOf, List.getElem?_toArray, List.getElem?_cons_zero, List.getElem?_cons_succ, Option.bind, Act.put, List.setIfInBounds_toArray, List.set_cons_zero, List.set_cons_succ]
                  refine till_take 7 60 false (v := ?v7cg) (by kernel_rfl) (by kernel_rfl) (by kernel_rfl) (by kernel_rfl) (by kernel_rfl) (fun _ _ _ h => h) ?hw7cg S0 ?hy7cg ?rest7cg
                  case hw7cg => (simp only [List.getElem?_toArray, List.getElem?_cons_zero, List.getElem?_cons_succ, Option.elim]; rfl)
                  case hy7cg => (simp only [List.getElem?_toArray, List.getElem?_cons_zero, List.getElem?_cons_succ, Option.elim]; intro wx _; go_simp; with_reducible rfl)
                  simp only [dstOf, List.getElem?_toArray, List.getElem?_cons_zero, List.getElem?_cons_succ, Option.bind, Act.put, List.setIfInBounds_toArray, List.set_cons_zero, List.set_cons_succ]
                  refine till_take 8 60 false (v := ?v8cg) (by kernel_rfl) (by kernel_rfl) (by kernel_rfl) (by kernel_rfl) (by kernel_rfl) (fun _ _ _ h => h) ?hw8cg S0 ?hy8cg ?rest8cg
                  case hw8cg => (simp only [List.getElem?_toArray, List.getElem?_cons_zero, List.getElem?_cons_succ, Option.elim]; rfl)
                  case hy8cg => (simp only [List.getElem?_toArray, List.getElem?_cons_zero, List.getElem?_cons_succ, Option.elim]; intro wx _; go_simp; with_reducible rfl)
                  simp only [dstOf, List.getElem?_toArray, List.getElem?_cons_zero, List.getElem?_cons_succ, Option.bind, Act.put, List.setIfInBounds_toArray, List.set_cons_zero, List.set_cons_succ]
                  refine till_take 9 60 false (v := ?v9cg) (by kernel_rfl) (by kernel_rfl) (by kernel_rfl) (by kernel_rfl) (by kernel_rfl) (fun _ _ _ h => h) ?hw9cg S0 ?hy9cg ?rest9cg
                  case hw9cg => (simp only [List.getElem?_toArray, List.getElem?_cons_zero, List.getElem?_cons_succ, Option.elim]; rfl)
                  case hy9cg => (simp only [List.getElem?_toArray, List.getElem?_cons_zero, List.getElem?_cons_succ, Option.elim]; intro wx _; go_simp; with_reducible rfl)
                  simp only [dstOf, List.getElem?_toArray, List.getElem?_cons_zero, List.getElem?_cons_succ, Option.bind, Act.put, List.setIfInBounds_toArray, List.set_cons_zero, List.set_cons_succ]
                  refine till_take 10 60 false (v := ?v10cg) (by kernel_rfl) (by kernel_rfl) (by kernel_rfl) (by kernel_rfl) (by kernel_rfl) (fun _ _ _ h => h) ?hw10cg S0 ?hy10cg ?rest10cg
                  case hw10cg => (simp only [List.getElem?_toArray, List.getElem?_cons_zero, List.getElem?_cons_succ, Option.elim]; rfl)
                  case hy10cg => (simp only [List.getElem?_toArray, List.getElem?_cons_zero, List.getElem?_cons_succ, Option.elim]; intro wx _; go_simp; with_reducible rfl)
                  simp only [dstOf, List.getElem?_toArray, List.getElem?_cons_zero, List.getElem?_cons_succ, Option.bind, Act.put, List.setIfInBounds_toArray, List.set_cons_zero, List.set_cons_succ]
                  refine till_take 11 60 false (v := ?v11cg) (by kernel_rfl) (by kernel_rfl) (by kernel_rfl) (by kernel_rfl) (by kernel_rfl) (fun _ _ _ h => h) ?hw11cg S0 ?hy11cg ?rest11cg
                  case hw11cg => (simp only [List.getElem?_toArray, List.getElem?_cons_zero, List.getElem?_cons_succ, Option.elim]; rfl)
                  case hy11cg => (simp only [List.getElem?_toArray, List.getElem?_cons_zero, List.getElem?_cons_succ, Option.elim]; intro wx _; go_simp; with_reducible rfl)
                  simp only [dstOf, List.getElem?_toArray, List.getElem?_cons_zero, List.getElem?_cons_succ, Option.bind, Act.put, List.setIfInBounds_toArray, List.set_cons_zero, List.set_cons_succ]
                  refine till_take 12 60 false (v := ?v12cg) (by kernel_rfl) (by kernel_rfl) (by kernel_rfl) (by kernel_rfl) (by kernel_rfl) (fun _ _ _ h => h) ?hw12cg S0 ?hy12cg ?rest12cg
                  case hw12cg => (simp only [List.getElem?_toArray, List.getElem?_cons_zero, List.getElem?_cons_succ, Option.elim]; rfl)
                  case hy12cg => (simp only [List.getElem?_toArray, List.getElem?_cons_zero, List.getElem?_cons_succ, Option.elim]; intro wx _; go_simp; with_reducible rfl)
                  simp only [dstOf, List.getElem?_toArray, List.getElem?_cons_zero, List.getElem?_cons_succ, Option.bind, Act.put, List.setIfInBounds_toArray, List.set_cons_zero, List.set_cons_succ]
                  refine till_take 13 60 false (v := ?v13cg) (by kernel_rfl) (by kernel_rfl) (by kernel_rfl) (by kernel_rfl) (by kernel_rfl) (fun _ _ _ h => h) ?hw13cg S0 ?hy13cg ?rest13cg
                  case hw13cg => (simp only [List.getElem?_toArray, List.getElem?_cons_zero, List.getElem?_cons_succ, Option.elim]; rfl)
                  case hy13cg => (simp only [List.getElem?_toArray, List.getElem?_cons_zero, List.getElem?_cons_succ, Option.elim]; intro wx _; go_simp; with_reducible rfl)
                  simp only [dstOf, List.getElem?_toArray, List.getElem?_cons_zero, List.getElem?_cons_succ, Option.bind, Act.put, List.setIfInBounds_toArray, List.set_cons_zero, List.set_cons_succ]
                  refine till_take 14 60 false (v := ?v14cg) (by kernel_rfl) (by kernel_rfl) (by kernel_rfl) (by kernel_rfl) (by kernel_rfl) (fun _ _ _ h => h) ?hw14cg S0 ?hy14cg ?rest14cg
                  case hw14cg => (simp only [List.getElem?_toArray, List.getElem?_cons_zero, List.getElem?_cons_succ, Option.elim]; rfl)
                  case hy14cg => (simp only [List.getElem?_toArray, List.getElem?_cons_zero, List.getElem?_cons_succ, Option.elim]; intro wx _; go_simp; with_reducible rfl)
                  simp only [dstOf, List.getElem?_toArray, List.getElem?_cons_zero, List.getElem?_cons_succ, Option.bind, Act.put, List.setIfInBounds_toArray, List.set_cons_zero, List.set_cons_succ]
                  refine till_take 15 60 false (v := ?v15cg) (by kernel_rfl) (by kernel_rfl) (by kernel_rfl) (by kernel_rfl) (by kernel_rfl) (fun _ _ _ h => h) ?hw15cg S0 ?hy15cg ?rest15cg
                  case hw15cg => (simp only [List.getElem?_toArray, List.getElem?_cons_zero, List.getElem?_cons_succ, Option.elim]; rfl)
                  case hy15cg => (simp only [List.getElem?_toArray, List.getElem?_cons_zero, List.getElem?_cons_succ, Option.elim]; intro wx _; go_simp; with_reducible rfl)
                  simp only [dstOf, List.getElem?_toArray, List.getElem?_cons_zero, List.getElem?_cons_succ, Option.bind, Act.put, List.setIfInBounds_toArray, List.set_cons_zero, List.set_cons_succ]
                  refine till_take 16 60 true (v := ?v16cg) (by kernel_rfl) (by kernel_rfl) (by kernel_rfl) (by kernel_rfl) (by kernel_rfl) (fun _ _ _ h => h) ?hw16cg S0 ?hy16cg ?rest16cg
                  case hw16cg => (simp only [List.getElem?_toArray, List.getElem?_cons_zero, List.getElem?_cons_succ, Option.elim]; rfl)
                  case hy16cg => (simp only [List.getElem?_toArray, List.getElem?_cons_zero, List.getElem?_cons_succ, Option.elim]; intro wx hx; have x0 := (hx trivial).1; have x1 := (hx trivial).2; go_simp; with_reducible rfl)
                  simp only [dstOf, List.getElem?_toArray, List.getElem?_cons_zero, List.getElem?_cons_succ, Option.bind, Act.put, List.setIfInBounds_toArray, List.set_cons_zero, List.set_cons_succ]
                  refine till_take 17 60 false (v := ?v17cg) (by kernel_rfl) (by kernel_rfl) (by kernel_rfl) (by kernel_rfl) (by kernel_rfl) (fun _ _ _ h => h) ?hw17cg S0 ?hy17cg ?rest17cg
                  case hw17cg => (simp only [List.getElem?_toArray, List.getElem?_cons_zero, List.getElem?_cons_succ, Option.elim]; rfl)
                  case hy17cg => (simp only [List.getElem?_toArray, List.getElem?_cons_zero, List.getElem?_cons_succ, Option.elim]; intro wx _; go_simp; with_reducible rfl)
                  simp only [dstOf, List.getElem?_toArray, List.getElem?_cons_zero, List.getElem?_cons_succ, Option.bind, Act.put, List.setIfInBounds_toArray, List.set_cons_zero, List.set_cons_succ]
                  refine till_take 18 60 false (v := ?v18cg) (by kernel_rfl) (by kernel_rfl) (by kernel_rfl) (by kernel_rfl) (by kernel_rfl) (fun _ _ _ h => h) ?hw18cg S0 ?hy18cg ?rest18cg
                  case hw18cg => (simp only [List.getElem?_toArray, List.getElem?_cons_zero, List.getElem?_cons_succ, Option.elim]; rfl)
                  case hy18cg => (simp only [List.getElem?_toArray, List.getElem?_cons_zero, List.getElem?_cons_succ, Option.elim]; intro wx _; go_simp; with_reducible rfl)
                  simp only [dstOf, List.getElem?_toArray, List.getElem?_cons_zero, List.getElem?_cons_succ, Option.bind, Act.put, List.setIfInBounds_toArray, List.set_cons_zero, List.set_cons_succ]
                  refine till_take 19 60 false (v := ?v19cg) (by kernel_rfl) (by kernel_rfl) (by kernel_rfl) (by kernel_rfl) (by kernel_rfl) (fun _ _ _ h => h) ?hw19cg S0 ?hy19cg ?rest19cg
                  case hw19cg => (simp only [List.getElem?_toArray, List.getElem?_cons_zero, List.getElem?_cons_succ, Option.elim]; rfl)
                  case hy19cg => (simp only [List.getElem?_toArray, List.getElem?_cons_zero, List.getElem?_cons_succ, Option.elim]; intro wx _; go_simp; with_reducible rfl)
                  simp only [dstOf, List.getElem?_toArray, List.getElem?_cons_zero, List.getElem?_cons_succ, Option.bind, Act.put, List.setIfInBounds_toArray, List.set_cons_zero, List.set_cons_succ]
                  refine till_take 20 60 true (v := ?v20cg) (by kernel_rfl) (by kernel_rfl) (by kernel_rfl) (by kernel_rfl) (by kernel_rfl) (fun _ _ _ h => h) ?hw20cg S0 ?hy20cg ?rest20cg
                  case hw20cg => (simp only [List.getElem?_toArray, List.getElem?_cons_zero, List.getElem?_cons_succ, Option.elim]; rfl)
                  case hy20cg => (simp only [List.getElem?_toArray, List.getElem?_cons_zero, List.getElem?_cons_succ, Option.elim]; intro wx hx; have x0 := (hx trivial).1; have x1 := (hx trivial).2; go_simp; with_reducible rfl)
                  simp only [dstOf, List.getElem?_toArray, List.getElem?_cons_zero, List.getElem?_cons_succ, Option.bind, Act.put, List.setIfInBounds_toArray, List.set_cons_zero, List.set_cons_succ]
                  refine till_step 21 (by kernel_rfl) (by kernel_rfl) (fun K hK => ?_)
                  simp only [List.getElem?_toArray, List.getElem?_cons_zero, List.getElem?_cons_succ, Option.elim]
                  rw [if_pos (by rfl)]
                  go_simp
                  go_at_call 19
                  refine (H1.out).mono ?_
                  rintro e w9 ⟨rfl, m9⟩
                  refine hK.out _ _ ?_
                  clear hK K
                  try simp only [Act.put, List.setIfInBounds_toArray, List.set_cons_zero, List.set_cons_succ]
                  have MD := Lib.hid (MD.out.fresh m9)
                  clear H1 m9 S0
                  refine till_late 22 (v := ?v22cg) (by kernel_rfl) (by kernel_rfl) (by kernel_rfl) (by kernel_rfl) (fun _ _ _ h => h) (by kernel_rfl) ?hw22cg ?hy22cg ?rest22cg
                  case hw22cg => (simp only [List.getElem?_toArray, List.getElem?_cons_zero, List.getElem?_cons_succ, Option.elim]; rfl)
                  case hy22cg => (simp only [List.getElem?_toArray, List.getElem?_cons_zero, List.getElem?_cons_succ, Option.elim]; intro wx; go_simp; with_reducible rfl)
                  simp only [dstOf, List.getElem?_toArray, List.getElem?_cons_zero, List.getElem?_cons_succ, Option.bind, Act.put, List.setIfInBounds_toArray, List.set_cons_zero, List.set_cons_succ]
                  refine till_late 23 (v := ?v23cg) (by kernel_rfl) (by kernel_rfl) (by kernel_rfl) (by kernel_rfl) (fun _ _ _ h => h) (by kernel_rfl) ?hw23cg ?hy23cg ?rest23cg
                  case hw23cg => (simp only [List.getElem?_toArray, List.getElem?_cons_zero, List.getElem?_cons_succ, Option.elim]; rfl)
                  case hy23cg => (simp only [List.getElem?_toArray, List.getElem?_cons_zero, List.getElem?_cons_succ, Option.elim]; intro wx; go_simp; with_reducible rfl)
                  simp only [dstOf, List.getElem?_toArray, List.getElem?_cons_zero, List.getElem?_cons_succ, Option.bind, Act.put, List.setIfInBounds_toArray, List.set_cons_zero, List.set_cons_succ]
                  refine till_end (by kernel_rfl) ?_ _
                  go_wp2
                  cases ht : fre G o y j with
                  | false =>
                    rw [ht] at HFN
                    have HFN := Lib.hid HFN
                    clear ht
                    go_wp2
                    go_quiet (fail)
                    go_wp2
                    go_roundw
                    case rel => exact ⟨j + 1, by omega, by go_num, by rw [HFN.out]; rfl, MD.out.fresh (drewN_below _ _)⟩
                    case measure => simp [intOf]; omega
                  | true =>
                    rw [ht, Bool.true_and] at HFN
                    have HFN := Lib.hid HFN
                    generalize hwq : w9 = wq
                    have MJ := Lib.hid (show OMem wh wq [.row 3 1 (.slice la (les o ys i).length lc) (les o ys i).length (intVs (les o ys i))] by rw [← hwq]; exact MD.out)
                    have S0 := And.intro (below_cell (HOC.out i y HY.out) (MJ.out.drew).below) (below_cell (HOC.out j z HZ.out) (MJ.out.drew).below)
                    have MD := Lib.hid MJ.out.drew
                    have H1 := Lib.hid (A.before_ y z (MG.out.fresh MD.out.below) (i := 0) rfl (by omega))
                    clear ht hwq e0 e1
                    go_wp2
                    refine region_till 11 (fun wx => wx.cell? ⟨b1, off1 + i, none⟩ = some (.int .i64 y) ∧ wx.cell? ⟨b1, off1 + j, none⟩ = some (.int .i64 z)) (by kernel_rfl) ?_
                    refine till_take 0 60 false (v := ?v0cf) (by kernel_rfl) (by kernel_rfl) (by kernel_rfl) (by kernel_rfl) (by kernel_rfl) (fun _ _ _ h => h) ?hw0cf S0 ?hy0cf ?rest0cf
                    case hw0cf => (simp only [List.getElem?_toArray, List.getElem?_cons_zero, Option.elim]; rfl)
                    case hy0cf => (simp only [List.getElem?_toArray, List.getElem?_cons_zero, Option.elim]; intro wx _; go_simp; with_reducible rfl)
                    simp only [dstOf, List.getElem?_toArray, List.getElem?_cons_zero, Option.bind, Act.put, List.setIfInBounds_toArray, List.set_cons_zero, List.set_cons_succ]
                    refine till_take 1 60 false (v := ?v1cf) (by kernel_rfl) (by kernel_rfl) (by kernel_rfl) (by kernel_rfl) (by kernel_rfl) (fun _ _ _ h => h) ?hw1cf S0 ?hy1cf ?rest1cf
                    case hw1cf => (simp only [List.getElem?_toArray, List.getElem?_cons_zero, List.getElem?_cons_succ, Option.elim]; rfl)
                    case hy1cf => (simp only [List.getElem?_toArray, List.getElem?_cons_zero, List.getElem?_cons_succ, Option.elim]; intro wx _; go_simp; with_reducible rfl)
                    simp only [dstOf, List.getElem?_toArray, List.getElem?_cons_zero, List.getElem?_cons_succ, Option.bind, Act.put, List.setIfInBounds_toArray, List.set_cons_zero, List.set_cons_succ]
                    refine till_take 2 60 false (v := ?v2cf) (by kernel_rfl) (by kernel_rfl) (by kernel_rfl) (by kernel_rfl) (by kernel_rfl) (fun _ _ _ h => h) ?hw2cf S0 ?hy2cf ?rest2cf
                    case hw2cf => (simp only [List.getElem?_toArray, List.getElem?_cons_zero, List.getElem?_cons_succ, Option.elim]; rfl)
                    case hy2cf => (simp only [List.getElem?_toArray, List.getElem?_cons_zero, List.getElem?_cons_succ, Option.elim]; intro wx _; go_simp; with_reducible rfl)
                    simp only [dstOf, List.getElem?_toArray, List.getElem?_cons_zero, List.getElem?_cons_succ, Option.bind, Act.put, List.setIfInBounds_toArray, List.set_cons_zero, List.set_cons_succ]
                    refine till_take 3 60 false (v := ?v3cf) (by kernel_rfl) (by kernel_rfl) (by kernel_rfl) (by kernel_rfl) (by kernel_rfl) (fun _ _ _ h => h) ?hw3cf S0 ?hy3cf ?rest3cf
                    case hw3cf => (simp only [List.getElem?_toArray, List.getElem?_cons_zero, List.getElem?_cons_succ, Option.elim]; rfl)
                    case hy3cf => (simp only [List.getElem?_toArray, List.getElem?_cons_zero, List.getElem?_cons_succ, Option.elim]; intro wx _; go_simp; with_reducible rfl)
                    simp only [dstOf, List.getElem?_toArray, List.getElem?_cons_zero, List.getElem?_cons_succ, Option.bind, Act.put, List.setIfInBounds_toArray, List.set_cons_zero, List.set_cons_succ]
                    refine till_take 4 60 false (v := ?v4cf) (by kernel_rfl) (by kernel_rfl) (by kernel_rfl) (by kernel_rfl) (by kernel_rfl) (fun _ _ _ h => h) ?hw4cf S0 ?hy4cf ?rest4cf
                    case hw4cf => (simp only [List.getElem?_toArray, List.getElem?_cons_zero, List.getElem?_cons_succ, Option.elim]; rfl)
                    case hy4cf => (simp only [List.getElem?_toArray, List.getElem?_cons_zero, List.getElem?_cons_succ, Option.elim]; intro wx _; go_simp; with_reducible rfl)
                    simp only [dstOf, List.getElem?_toArray, List.getElem?_cons_zero, List.getElem?_cons_succ, Option.bind, Act.put, List.setIfInBounds_toArray, List.set_cons_zero, List.set_cons_succ]
                    refine till_take 5 60 false (v := ?v5cf) (by kernel_rfl) (by kernel_rfl) (by kernel_rfl) (by kernel_rfl) (by kernel_rfl) (fun _ _ _ h => h) ?hw5cf S0 ?hy5cf ?rest5cf
                    case hw5cf => (simp only [List.getElem?_toArray, List.getElem?_cons_zero, List.getElem?_cons_succ, Option.elim]; rfl)
                    case hy5cf => (simp only [List.getElem?_toArray, List.getElem?_cons_zero, List.getElem?_cons_succ, Option.elim]; intro wx _; go_simp; with_reducible rfl)
                    simp only [dstOf, List.getElem?_toArray, List.getElem?_cons_zero, List.getElem?_cons_succ, Option.bind, Act.put, List.setIfInBounds_toArray, List.set_cons_zero, List.set_cons_succ]
                    refine till_take 6 60 true (v := ?v6cf) (by kernel_rfl) (by kernel_rfl) (by kernel_rfl) (by kernel_rfl) (by kernel_rfl) (fun _ _ _ h => h) ?hw6cf S0 ?hy6cf ?rest6cf
                    case hw6cf => (simp only [List.getElem?_toArray, List.getElem?_cons_zero, List.getElem?_cons_succ, Option.elim]; rfl)
                    case hy6cf => (simp only [List.getElem?_toArray, List.getElem?_cons_zero, List.getElem?_cons_succ, Option.elim]; intro wx hx; have x0 := (hx trivial).1; have x1 := (hx trivial).2; go_simp; with_reducible rfl)
                    simp only [dstOf, List.getElem?_toArray, List.getElem?_cons_zero, List.getElem?_cons_succ, Option.bind, Act.put, List.setIfInBounds_toArray, List.set_cons_zero, List.set_cons_succ]
                    refine till_take 7 60 false (v := ?v7cf) (by kernel_rfl) (by kernel_rfl) (by kernel_rfl) (by kernel_rfl) (by kernel_rfl) (fun _ _ _ h => h) ?hw7cf S0 ?hy7cf ?rest7cf
                    case hw7cf => (simp only [List.getElem?_toArray, List.getElem?_cons_zero, List.getElem?_cons_succ, Option.elim]; rfl)
                    case hy7cf => (simp only [List.getElem?_toArray, List.getElem?_cons_zero, List.getElem?_cons_succ, Option.elim]; intro wx _; go_simp; with_reducible rfl)
                    simp only [dstOf, List.getElem?_toArray, List.getElem?_cons_zero, List.getElem?_cons_succ, Option.bind, Act.put, List.setIfInBounds_toArray, List.set_cons_zero, List.set_cons_succ]
                    refine till_take 8 60 false (v := ?v8cf) (by kernel_rfl) (by kernel_rfl) (by kernel_rfl) (by kernel_rfl) (by kernel_rfl) (fun _ _ _ h => h) ?hw8cf S0 ?hy8cf ?rest8cf
                    case hw8cf => (simp only [List.getElem?_toArray, List.getElem?_cons_zero, List.getElem?_cons_succ, Option.elim]; rfl)
                    case hy8cf => (simp only [List.getElem?_toArray, List.getElem?_cons_zero, List.getElem?_cons_succ, Option.elim]; intro wx _; go_simp; with_reducible rfl)
                    simp only [dstOf, List.getElem?_toArray, List.getElem?_cons_zero, List.getElem?_cons_succ, Option.bind, Act.put, List.setIfInBounds_toArray, List.set_cons_zero, List.set_cons_succ]
                    refine till_take 9 60 false (v := ?v9cf) (by kernel_rfl) (by kernel_rfl) (by kernel_rfl) (by kernel_rfl) (by kernel_rfl) (fun _ _ _ h => h) ?hw9cf S0 ?hy9cf ?rest9cf
                    case hw9cf => (simp only [List.getElem?_toArray, List.getElem?_cons_zero, List.getElem?_cons_succ, Option.elim]; rfl)
                    case hy9cf => (simp only [List.getElem?_toArray, List.getElem?_cons_zero, List.getElem?_cons_succ, Option.elim]; intro wx _; go_simp; with_reducible rfl)
                    simp only [dstOf, List.getElem?_toArray, List.getElem?_cons_zero, List.getElem?_cons_succ, Option.bind, Act.put, List.setIfInBounds_toArray, List.set_cons_zero, List.set_cons_succ]
                    refine till_take 10 60 true (v := ?v10cf) (by kernel_rfl) (by kernel_rfl) (by kernel_rfl) (by kernel_rfl) (by kernel_rfl) (fun _ _ _ h => h) ?hw10cf S0 ?hy10cf ?rest10cf
                    case hw10cf => (simp only [List.getElem?_toArray, List.getElem?_cons_zero, List.getElem?_cons_succ, Option.elim]; rfl)
                    case hy10cf => (simp only [List.getElem?_toArray, List.getElem?_cons_zero, List.getElem?_cons_succ, Option.elim]; intro wx hx; have x0 := (hx trivial).1; have x1 := (hx trivial).2; go_simp; with_reducible rfl)
                    simp only [dstOf, List.getElem?_toArray, List.getElem?_cons_zero, List.getElem?_cons_succ, Option.bind, Act.put, List.setIfInBounds_toArray, List.set_cons_zero, List.set_cons_succ]
                    refine till_step 11 (by kernel_rfl) (by kernel_rfl) (fun K hK => ?_)
                    simp only [List.getElem?_toArray, List.getElem?_cons_zero, List.getElem?_cons_succ, Option.elim]
                    rw [if_pos (by rfl)]
                    go_simp
                    go_at_call 19
                    refine (H1.out).mono ?_
                    rintro e w9 ⟨rfl, m9⟩
                    refine hK.out _ _ ?_
                    clear hK K
                    try simp only [Act.put, List.setIfInBounds_toArray, List.set_cons_zero, List.set_cons_succ]
                    have MD := Lib.hid (MD.out.fresh m9)
                    clear H1 m9 S0
                    refine till_late 12 (v := ?v12cf) (by kernel_rfl) (by kernel_rfl) (by kernel_rfl) (by kernel_rfl) (fun _ _ _ h => h) (by kernel_rfl) ?hw12cf ?hy12cf ?rest12cf
                    case hw12cf => (simp only [List.getElem?_toArray, List.getElem?_cons_zero, List.getElem?_cons_succ, Option.elim]; rfl)
                    case hy12cf => (simp only [List.getElem?_toArray, List.getElem?_cons_zero, List.getElem?_cons_succ, Option.elim]; intro wx; go_simp; with_reducible rfl)
                    simp only [dstOf, List.getElem?_toArray, List.getElem?_cons_zero, List.getElem?_cons_succ, Option.bind, Act.put, List.setIfInBounds_toArray, List.set_cons_zero, List.set_cons_succ]
                    refine till_late 13 (v := ?v13cf) (by kernel_rfl) (by kernel_rfl) (by kernel_rfl) (by kernel_rfl) (fun _ _ _ h => h) (by kernel_rfl) ?hw13cf ?hy13cf ?rest13cf
                    case hw13cf => (simp only [List.getElem?_toArray, List.getElem?_cons_zero, List.getElem?_cons_succ, Option.elim]; rfl)
                    case hy13cf => (simp only [List.getElem?_toArray, List.getElem?_cons_zero, List.getElem?_cons_succ, Option.elim]; intro wx; go_simp; with_reducible rfl)
                    simp only [dstOf, List.getElem?_toArray, List.getElem?_cons_zero, List.getElem?_cons_succ, Option.bind, Act.put, List.setIfInBounds_toArray, List.set_cons_zero, List.set_cons_succ]
                    refine till_late 14 (v := ?v14cf) (by kernel_rfl) (by kernel_rfl) (by kernel_rfl) (by kernel_rfl) (fun _ _ _ h => h) (by kernel_rfl) ?hw14cf ?hy14cf ?rest14cf
                    case hw14cf => (simp only [List.getElem?_toArray, List.getElem?_cons_zero, List.getElem?_cons_succ, Option.elim]; rfl)
                    case hy14cf => (simp only [List.getElem?_toArray, List.getElem?_cons_zero, List.getElem?_cons_succ, Option.elim]; intro wx; go_simp; with_reducible rfl)
                    simp only [dstOf, List.getElem?_toArray, List.getElem?_cons_zero, List.getElem?_cons_succ, Option.bind, Act.put, List.setIfInBounds_toArray, List.set_cons_zero, List.set_cons_succ]
                    refine till_end (by kernel_rfl) ?_ _
                    go_wp2
                    go_roundw
                    case rel => exact ⟨j + 1, by omega, by go_num, by rw [HFN.out], MD.out⟩
                    case measure => simp [intOf]; omega
              · have hjn : ¬ ((j : Int) < (i : Int)) := by omega
                have hge : lev G y ≤ lev G z := by
                  by_cases hji2 : i < j
                  · have := lv_at HO2.out hji2 HZ.out HY.out
                    unfold Lv at this; omega
                  · obtain rfl : j = i := by omega
                    have := HY.out.symm.trans HZ.out
                    cases this; exact Int.le_refl _
                have h1 : ¬ lev G z < lev G y := by omega
                by_cases h2 : lev G z = lev G y
                · rw [h2]
                  go_wp2
                  go_quiet (fail)
                  go_wp2
                  go_quiet (fail)
                  go_wp2
                  cases ht : fre G o y j with
                  | false =>
                    rw [ht] at HFN
                    have HFN := Lib.hid HFN
                    clear ht
                    go_wp2
                    go_quiet (fail)
                    go_wp2
                    go_roundw
                    case rel => exact ⟨j + 1, by omega, by go_num, by rw [HFN.out]; rfl, MJ.out.fresh (drewN_below _ _)⟩
                    case measure => simp [intOf]; omega
                  | true =>
                    rw [ht, Bool.true_and] at HFN
                    have HFN := Lib.hid HFN
                    generalize hwq : (w8.drewN _).drewN _ = wq
                    have MJ := Lib.hid (show OMem wh wq [.row 3 1 (.slice la (les o ys i).length lc) (les o ys i).length (intVs (les o ys i))] by rw [← hwq]; exact ((MJ.out.fresh (drewN_below _ _)).fresh (drewN_below _ _)))
                    have S0 := And.intro (below_cell (HOC.out i y HY.out) (MJ.out.drew).below) (below_cell (HOC.out j z HZ.out) (MJ.out.drew).below)
                    have MD := Lib.hid MJ.out.drew
                    have H1 := Lib.hid (A.before_ y z (MG.out.fresh MD.out.below) (i := 0) rfl (by omega))
                    clear ht hwq e0 e1
                    go_wp2
                    refine region_till 11 (fun wx => wx.cell? ⟨b1, off1 + i, none⟩ = some (.int .i64 y) ∧ wx.cell? ⟨b1, off1 + j, none⟩ = some (.int .i64 z)) (by kernel_rfl) ?_
                    refine till_take 0 60 false (v := ?v0af) (by kernel_rfl) (by kernel_rfl) (by kernel_rfl) (by kernel_rfl) (by kernel_rfl) (fun _ _ _ h => h) ?hw0af S0 ?hy0af ?rest0af
                    case hw0af => (simp only [List.getElem?_toArray, List.getElem?_cons_zero, Option.elim]; rfl)
                    case hy0af => (simp only [List.getElem?_toArray, List.getElem?_cons_zero, Option.elim]; intro wx _; go_simp; with_reducible rfl)
                    simp only [dstOf, List.getElem?_toArray, List.getElem?_cons_zero, Option.bind, Act.put, List.setIfInBounds_toArray, List.set_cons_zero, List.set_cons_succ]
                    refine till_take 1 60 false (v := ?v1af) (by kernel_rfl) (by kernel_rfl) (by kernel_rfl) (by kernel_rfl) (by kernel_rfl) (fun _ _ _ h => h) ?hw1af S0 ?hy1af ?rest1af
                    case hw1af => (simp only [List.getElem?_toArray, List.getElem?_cons_zero, List.getElem?_cons_succ, Option.elim]; rfl)
                    case hy1af => (simp only [List.getElem?_toArray, List.getElem?_cons_zero, List.getElem?_cons_succ, Option.elim]; intro wx _; go_simp; with_reducible rfl)
                    simp only [dstOf, List.getElem?_toArray, List.getElem?_cons_zero, List.getElem?_cons_succ, Option.bind, Act.put, List.setIfInBounds_toArray, List.set_cons_zero, List.set_cons_succ]
                    refine till_take 2 60 false (v := ?v2af) (by kernel_rfl) (by kernel_rfl) (by kernel_rfl) (by kernel_rfl) (by kernel_rfl) (fun _ _ _ h => h) ?hw2af S0 ?hy2af ?rest2af
                    case hw2af => (simp only [List.getElem?_toArray, List.getElem?_cons_zero, List.getElem?_cons_succ, Option.elim]; rfl)
                    case hy2af => (simp only [List.getElem?_toArray, List.getElem?_cons_zero, List.getElem?_cons_succ, Option.elim]; intro wx _; go_simp; with_reducible rfl)
                    simp only [dstOf, List.getElem?_toArray, List.getElem?_cons_zero, List.getElem?_cons_succ, Option.bind, Act.put, List.setIfInBounds_toArray, List.set_cons_zero, List.set_cons_succ]
                    refine till_take 3 60 false (v := ?v3af) (by kernel_rfl) (by kernel_rfl) (by kernel_rfl) (by kernel_rfl) (by kernel_rfl) (fun _ _ _ h => h) ?hw3af S0 ?hy3af ?rest3af
                    case hw3af => (simp only [List.getElem?_toArray, List.getElem?_cons_zero, List.getElem?_cons_succ, Option.elim]; rfl)
                    case hy3af => (simp only [List.getElem?_toArray, List.getElem?_cons_zero, List.getElem?_cons_succ, Option.elim]; intro wx _; go_simp; with_reducible rfl)
                    simp only [dstOf, List.getElem?_toArray, List.getElem?_cons_zero, List.getElem?_cons_succ, Option.bind, Act.put, List.setIfInBounds_toArray, List.set_cons_zero, List.set_cons_succ]
                    refine till_take 4 60 false (v := ?v4af) (by kernel_rfl) (by kernel_rfl) (by kernel_rfl) (by kernel_rfl) (by kernel_rfl) (fun _ _ _ h => h) ?hw4af S0 ?hy4af ?rest4af
                    case hw4af => (simp only [List.getElem?_toArray, List.getElem?_cons_zero, List.getElem?_cons_succ, Option.elim]; rfl)
                    case hy4af => (simp only [List.getElem?_toArray, List.getElem?_cons_zero, List.getElem?_cons_succ, Option.elim]; intro wx _; go_simp; with_reducible rfl)
                    simp only [dstOf, List.getElem?_toArray, List.getElem?_cons_zero, List.getElem?_cons_succ, Option.bind, Act.put, List.setIfInBounds_toArray, List.set_cons_zero, List.set_cons_succ]
                    refine till_take 5 60 false (v := ?v5af) (by kernel_rfl) (by kernel_rfl) (by kernel_rfl) (by kernel_rfl) (by kernel_rfl) (fun _ _ _ h => h) ?hw5af S0 ?hy5af ?rest5af
                    case hw5af => (simp only [List.getElem?_toArray, List.getElem?_cons_zero, List.getElem?_cons_succ, Option.elim]; rfl)
                    case hy5af => (simp only [List.getElem?_toArray, List.getElem?_cons_zero, List.getElem?_cons_succ, Option.elim]; intro wx _; go_simp; with_reducible rfl)
                    simp only [dstOf, List.getElem?_toArray, List.getElem?_cons_zero, List.getElem?_cons_succ, Option.bind, Act.put, List.setIfInBounds_toArray, List.set_cons_zero, List.set_cons_succ]
                    refine till_take 6 60 true (v := ?v6af) (by kernel_rfl) (by kernel_rfl) (by kernel_rfl) (by kernel_rfl) (by kernel_rfl) (fun _ _ _ h => h) ?hw6af S0 ?hy6af ?rest6af
                    case hw6af => (simp only [List.getElem?_toArray, List.getElem?_cons_zero, List.getElem?_cons_succ, Option.elim]; rfl)
                    case hy6af => (simp only [List.getElem?_toArray, List.getElem?_cons_zero, List.getElem?_cons_succ, Option.elim]; intro wx hx; have x0 := (hx trivial).1; have x1 := (hx trivial).2; go_simp; with_reducible rfl)
                    simp only [dstOf, List.getElem?_toArray, List.getElem?_cons_zero, List.getElem?_cons_succ, Option.bind, Act.put, List.setIfInBounds_toArray, List.set_cons_zero, List.set_cons_succ]
                    refine till_take 7 60 false (v := ?v7af) (by kernel_rfl) (by kernel_rfl) (by kernel_rfl) (by kernel_rfl) (by kernel_rfl) (fun _ _ _ h => h) ?hw7af S0 ?hy7af ?rest7af
                    case hw7af => (simp only [List.getElem?_toArray, List.getElem?_cons_zero, List.getElem?_cons_succ, Option.elim]; rfl)
                    case hy7af => (simp only [List.getElem?_toArray, List.getElem?_cons_zero, List.getElem?_cons_succ, Option.elim]; intro wx _; go_simp; with_reducible rfl)
                    simp only [dstOf, List.getElem?_toArray, List.getElem?_cons_zero, List.getElem?_cons_succ, Option.bind, Act.put, List.setIfInBounds_toArray, List.set_cons_zero, List.set_cons_succ]
                    refine till_take 8 60 false (v := ?v8af) (by kernel_rfl) (by kernel_rfl) (by kernel_rfl) (by kernel_rfl) (by kernel_rfl) (fun _ _ _ h => h) ?hw8af S0 ?hy8af ?rest8af
                    case hw8af => (simp only [List.getElem?_toArray, List.getElem?_cons_zero, List.getElem?_cons_succ, Option.elim]; rfl)
                    case hy8af => (simp only [List.getElem?_toArray, List.getElem?_cons_zero, List.getElem?_cons_succ, Option.elim]; intro wx _; go_simp; with_reducible rfl)
                    simp only [dstOf, List.getElem?_toArray, List.getElem?_cons_zero, List.getElem?_cons_succ, Option.bind, Act.put, List.setIfInBounds_toArray, List.set_cons_zero, List.set_cons_succ]
                    refine till_take 9 60 false (v := ?v9af) (by kernel_rfl) (by kernel_rfl) (by kernel_rfl) (by kernel_rfl) (by kernel_rfl) (fun _ _ _ h => h) ?hw9af S0 ?hy9af ?rest9af
                    case hw9af => (simp only [List.getElem?_toArray, List.getElem?_cons_zero, List.getElem?_cons_succ, Option.elim]; rfl)
                    case hy9af => (simp only [List.getElem?_toArray, List.getElem?_cons_zero, List.getElem?_cons_succ, Option.elim]; intro wx _; go_simp; with_reducible rfl)
                    simp only [dstOf, List.getElem?_toArray, List.getElem?_cons_zero, List.getElem?_cons_succ, Option.bind, Act.put, List.setIfInBounds_toArray, List.set_cons_zero, List.set_cons_succ]
                    refine till_take 10 60 true (v := ?v10af) (by kernel_rfl) (by kernel_rfl) (by kernel_rfl) (by kernel_rfl) (by kernel_rfl) (fun _ _ _ h => h) ?hw10af S0 ?hy10af ?rest10af
                    case hw10af => (simp only [List.getElem?_toArray, List.getElem?_cons_zero, List.getElem?_cons_succ, Option.elim]; rfl)
                    case hy10af => (simp only [List.getElem?_toArray, List.getElem?_cons_zero, List.getElem?_cons_succ, Option.elim]; intro wx hx; have x0 := (hx trivial).1; have x1 := (hx trivial).2; go_simp; with_reducible rfl)
                    simp only [dstOf, List.getElem?_toArray, List.getElem?_cons_zero, List.getElem?_cons_succ, Option.bind, Act.put, List.setIfInBounds_toArray, List.set_cons_zero, List.set_cons_succ]
                    refine till_step 11 (by kernel_rfl) (by kernel_rfl) (fun K hK => ?_)
                    simp only [List.getElem?_toArray, List.getElem?_cons_zero, List.getElem?_cons_succ, Option.elim]
                    rw [if_pos (by rfl)]
                    go_simp
                    go_at_call 19
                    refine (H1.out).mono ?_
                    rintro e w9 ⟨rfl, m9⟩
                    refine hK.out _ _ ?_
                    clear hK K
                    try simp only [Act.put, List.setIfInBounds_toArray, List.set_cons_zero, List.set_cons_succ]
                    have MD := Lib.hid (MD.out.fresh m9)
                    clear H1 m9 S0
                    refine till_late 12 (v := ?v12af) (by kernel_rfl) (by kernel_rfl) (by kernel_rfl) (by kernel_rfl) (fun _ _ _ h => h) (by kernel_rfl) ?hw12af ?hy12af ?rest12af
                    case hw12af => (simp only [List.getElem?_toArray, List.getElem?_cons_zero, List.getElem?_cons_succ, Option.elim]; rfl)
                    case hy12af => (simp only [List.getElem?_toArray, List.getElem?_cons_zero, List.getElem?_cons_succ, Option.elim]; intro wx; go_simp; with_reducible rfl)
                    simp only [dstOf, List.getElem?_toArray, List.getElem?_cons_zero, List.getElem?_cons_succ, Option.bind, Act.put, List.setIfInBounds_toArray, List.set_cons_zero, List.set_cons_succ]
                    refine till_late 13 (v := ?v13af) (by kernel_rfl) (by kernel_rfl) (by kernel_rfl) (by kernel_rfl) (fun _ _ _ h => h) (by kernel_rfl) ?hw13af ?hy13af ?rest13af
                    case hw13af => (simp only [List.getElem?_toArray, List.getElem?_cons_zero, List.getElem?_cons_succ, Option.elim]; rfl)
                    case hy13af => (simp only [List.getElem?_toArray, List.getElem?_cons_zero, List.getElem?_cons_succ, Option.elim]; intro wx; go_simp; with_reducible rfl)
                    simp only [dstOf, List.getElem?_toArray, List.getElem?_cons_zero, List.getElem?_cons_succ, Option.bind, Act.put, List.setIfInBounds_toArray, List.set_cons_zero, List.set_cons_succ]
                    refine till_late 14 (v := ?v14af) (by kernel_rfl) (by kernel_rfl) (by kernel_rfl) (by kernel_rfl) (fun _ _ _ h => h) (by kernel_rfl) ?hw14af ?hy14af ?rest14af
                    case hw14af => (simp only [List.getElem?_toArray, List.getElem?_cons_zero, List.getElem?_cons_succ, Option.elim]; rfl)
                    case hy14af => (simp only [List.getElem?_toArray, List.getElem?_cons_zero, List.getElem?_cons_succ, Option.elim]; intro wx; go_simp; with_reducible rfl)
                    simp only [dstOf, List.getElem?_toArray, List.getElem?_cons_zero, List.getElem?_cons_succ, Option.bind, Act.put, List.setIfInBounds_toArray, List.set_cons_zero, List.set_cons_succ]
                    refine till_end (by kernel_rfl) ?_ _
                    go_wp2
                    go_roundw
                    case rel => exact ⟨j + 1, by omega, by go_num, by rw [HFN.out], MD.out⟩
                    case measure => simp [intOf]; omega
                · go_wp2
                  go_quiet (fail)
                  go_wp2
                  go_quiet (fail)
                  go_wp2
                  cases ht : fre G o y j with
                  | false =>
                    rw [ht] at HFN
                    have HFN := Lib.hid HFN
                    clear ht
                    go_wp2
                    go_quiet (fail)
                    go_wp2
                    go_roundw
                    case rel => exact ⟨j + 1, by omega, by go_num, by rw [HFN.out]; rfl, MJ.out.fresh (drewN_below _ _)⟩
                    case measure => simp [intOf]; omega
                  | true =>
                    rw [ht, Bool.true_and] at HFN
                    have HFN := Lib.hid HFN
                    generalize hwq : (w8.drewN _).drewN _ = wq
                    have MJ := Lib.hid (show OMem wh wq [.row 3 1 (.slice la (les o ys i).length lc) (les o ys i).length (intVs (les o ys i))] by rw [← hwq]; exact ((MJ.out.fresh (drewN_below _ _)).fresh (drewN_below _ _)))
                    have S0 := And.intro (below_cell (HOC.out i y HY.out) (MJ.out.drew).below) (below_cell (HOC.out j z HZ.out) (MJ.out.drew).below)
                    have MD := Lib.hid MJ.out.drew
                    have H1 := Lib.hid (A.before_ y z (MG.out.fresh MD.out.below) (i := 0) rfl (by omega))
                    clear ht hwq e0 e1
                    go_wp2
                    refine region_till 11 (fun wx => wx.cell? ⟨b1, off1 + i, none⟩ = some (.int .i64 y) ∧ wx.cell? ⟨b1, off1 + j, none⟩ = some (.int .i64 z)) (by kernel_rfl) ?_
                    refine till_take 0 60 false (v := ?v0df) (by kernel_rfl) (by kernel_rfl) (by kernel_rfl) (by kernel_rfl) (by kernel_rfl) (fun _ _ _ h => h) ?hw0df S0 ?hy0df ?rest0df
                    case hw0df => (simp only [List.getElem?_toArray, List.getElem?_cons_zero, Option.elim]; rfl)
                    case hy0df => (simp only [List.getElem?_toArray, List.getElem?_cons_zero, Option.elim]; intro wx _; go_simp; with_reducible rfl)
                    simp only [dstOf, List.getElem?_toArray, List.getElem?_cons_zero, Option.bind, Act.put, List.setIfInBounds_toArray, List.set_cons_zero, List.set_cons_succ]
                    refine till_take 1 60 false (v := ?v1df) (by kernel_rfl) (by kernel_rfl) (by kernel_rfl) (by kernel_rfl) (by kernel_rfl) (fun _ _ _ h => h) ?hw1df S0 ?hy1df ?rest1df
                    case hw1df => (simp only [List.getElem?_toArray, List.getElem?_cons_zero, List.getElem?_cons_succ, Option.elim]; rfl)
                    case hy1df => (simp only [List.getElem?_toArray, List.getElem?_cons_zero, List.getElem?_cons_succ, Option.elim]; intro wx _; go_simp; with_reducible rfl)
                    simp only [dstOf, List.getElem?_toArray, List.getElem?_cons_zero, List.getElem?_cons_succ, Option.bind, Act.put, List.setIfInBounds_toArray, List.set_cons_zero, List.set_cons_succ]
                    refine till_take 2 60 false (v := ?v2df) (by kernel_rfl) (by kernel_rfl) (by kernel_rfl) (by kernel_rfl) (by kernel_rfl) (fun _ _ _ h => h) ?hw2df S0 ?hy2df ?rest2df
                    case hw2df => (simp only [List.getElem?_toArray, List.getElem?_cons_zero, List.getElem?_cons_succ, Option.elim]; rfl)
                    case hy2df => (simp only [List.getElem?_toArray, List.getElem?_cons_zero, List.getElem?_cons_succ, Option.elim]; intro wx _; go_simp; with_reducible rfl)
                    simp only [dstOf, List.getElem?_toArray, List.getElem?_cons_zero, List.getElem?_cons_succ, Option.bind, Act.put, List.setIfInBounds_toArray, List.set_cons_zero, List.set_cons_succ]
                    refine till_take 3 60 false (v := ?v3df) (by kernel_rfl) (by kernel_rfl) (by kernel_rfl) (by kernel_rfl) (by kernel_rfl) (fun _ _ _ h => h) ?hw3df S0 ?hy3df ?rest3df
                    case hw3df => (simp only [List.getElem?_toArray, List.getElem?_cons_zero, List.getElem?_cons_succ, Option.elim]; rfl)
                    case hy3df => (simp only [List.getElem?_toArray, List.getElem?_cons_zero, List.getElem?_cons_succ, Option.elim]; intro wx _; go_simp; with_reducible rfl)
                    simp only [dstOf, List.getElem?_toArray, List.getElem?_cons_zero, List.getElem?_cons_succ, Option.bind, Act.put, List.setIfInBounds_toArray, List.set_cons_zero, List.set_cons_succ]
                    refine till_take 4 60 false (v := ?v4df) (by kernel_rfl) (by kernel_rfl) (by kernel_rfl) (by kernel_rfl) (by kernel_rfl) (fun _ _ _ h => h) ?hw4df S0 ?hy4df ?rest4df
                    case hw4df => (simp only [List.getElem?_toArray, List.getElem?_cons_zero, List.getElem?_cons_succ, Option.elim]; rfl)
                    case hy4df => (simp only [List.getElem?_toArray, List.getElem?_cons_zero, List.getElem?_cons_succ, Option.elim]; intro wx _; go_simp; with_reducible rfl)
                    simp only [dstOf, List.getElem?_toArray, List.getElem?_cons_zero, List.getElem?_cons_succ, Option.bind, Act.put, List.setIfInBounds_toArray, List.set_cons_zero, List.set_cons_succ]
                    refine till_take 5 60 false (v := ?v5df) (by kernel_rfl) (by kernel_rfl) (by kernel_rfl) (by kernel_rfl) (by kernel_rfl) (fun _ _ _ h => h) ?hw5df S0 ?hy5df ?rest5df
                    case hw5df => (simp only [List.getElem?_toArray, List.getElem?_cons_zero, List.getElem?_cons_succ, Option.elim]; rfl)
                    case hy5df => (simp only [List.getElem?_toArray, List.getElem?_cons_zero, List.getElem?_cons_succ, Option.elim]; intro wx _; go_simp; with_reducible rfl)
                    simp only [dstOf, List.getElem?_toArray, List.getElem?_cons_zero, List.getElem?_cons_succ, Option.bind, Act.put, List.setIfInBounds_toArray, List.set_cons_zero, List.set_cons_succ]
                    refine till_take 6 60 true (v := ?v6df) (by kernel_rfl) (by kernel_rfl) (by kernel_rfl) (by kernel_rfl) (by kernel_rfl) (fun _ _ _ h => h) ?hw6df S0 ?hy6df ?rest6df
                    case hw6df => (simp only [List.getElem?_toArray, List.getElem?_cons_zero, List.getElem?_cons_succ, Option.elim]; rfl)
                    case hy6df => (simp only [List.getElem?_toArray, List.getElem?_cons_zero, List.getElem?_cons_succ, Option.elim]; intro wx hx; have x0 := (hx trivial).1; have x1 := (hx trivial).2; go_simp; with_reducible rfl)
                    simp only [dstOf, List.getElem?_toArray, List.getElem?_cons_zero, List.getElem?_cons_succ, Option.bind, Act.put, List.setIfInBounds_toArray, List.set_cons_zero, List.set_cons_succ]
                    refine till_take 7 60 false (v := ?v7df) (by kernel_rfl) (by kernel_rfl) (by kernel_rfl) (by kernel_rfl) (by kernel_rfl) (fun _ _ _ h => h) ?hw7df S0 ?hy7df ?rest7df
                    case hw7df => (simp only [List.getElem?_toArray, List.getElem?_cons_zero, List.getElem?_cons_succ, Option.elim]; rfl)
                    case hy7df => (simp only [List.getElem?_toArray, List.getElem?_cons_zero, List.getElem?_cons_succ, Option.elim]; intro wx _; go_simp; with_reducible rfl)
                    simp only [dstOf, List.getElem?_toArray, List.getElem?_cons_zero, List.getElem?_cons_succ, Option.bind, Act.put, List.setIfInBounds_toArray, List.set_cons_zero, List.set_cons_succ]
                    refine till_take 8 60 false (v := ?v8df) (by kernel_rfl) (by kernel_rfl) (by kernel_rfl) (by kernel_rfl) (by kernel_rfl) (fun _ _ _ h => h) ?hw8df S0 ?hy8df ?rest8df
                    case hw8df => (simp only [List.getElem?_toArray, List.getElem?_cons_zero, List.getElem?_cons_succ, Option.elim]; rfl)
                    case hy8df => (simp only [List.getElem?_toArray, List.getElem?_cons_zero, List.getElem?_cons_succ, Option.elim]; intro wx _; go_simp; with_reducible rfl)
                    simp only [dstOf, List.getElem?_toArray, List.getElem?_cons_zero, List.getElem?_cons_succ, Option.bind, Act.put, List.setIfInBounds_toArray, List.set_cons_zero, List.set_cons_succ]
                    refine till_take 9 60 false (v := ?v9df) (by kernel_rfl) (by kernel_rfl) (by kernel_rfl) (by kernel_rfl) (by kernel_rfl) (fun _ _ _ h => h) ?hw9df S0 ?hy9df ?rest9df
                    case hw9df => (simp only [List.getElem?_toArray, List.getElem?_cons_zero, List.getElem?_cons_succ, Option.elim]; rfl)
                    case hy9df => (simp only [List.getElem?_toArray, List.getElem?_cons_zero, List.getElem?_cons_succ, Option.elim]; intro wx _; go_simp; with_reducible rfl)
                    simp only [dstOf, List.getElem?_toArray, List.getElem?_cons_zero, List.getElem?_cons_succ, Option.bind, Act.put, List.setIfInBounds_toArray, List.set_cons_zero, List.set_cons_succ]
                    refine till_take 10 60 true (v := ?v10df) (by kernel_rfl) (by kernel_rfl) (by kernel_rfl) (by kernel_rfl) (by kernel_rfl) (fun _ _ _ h => h) ?hw10df S0 ?hy10df ?rest10df
                    case hw10df => (simp only [List.getElem?_toArray, List.getElem?_cons_zero, List.getElem?_cons_succ, Option.elim]; rfl)
                    case hy10df => (simp only [List.getElem?_toArray, List.getElem?_cons_zero, List.getElem?_cons_succ, Option.elim]; intro wx hx; have x0 := (hx trivial).1; have x1 := (hx trivial).2; go_simp; with_reducible rfl)
                    simp only [dstOf, List.getElem?_toArray, List.getElem?_cons_zero, List.getElem?_cons_succ, Option.bind, Act.put, List.setIfInBounds_toArray, List.set_cons_zero, List.set_cons_succ]
                    refine till_step 11 (by kernel_rfl) (by kernel_rfl) (fun K hK => ?_)
                    simp only [List.getElem?_toArray, List.getElem?_cons_zero, List.getElem?_cons_succ, Option.elim]
                    rw [if_pos (by rfl)]
                    go_simp
                    go_at_call 19
                    refine (H1.out).mono ?_
                    rintro e w9 ⟨rfl, m9⟩
                    refine hK.out _ _ ?_
                    clear hK K
                    try simp only [Act.put, List.setIfInBounds_toArray, List.set_cons_zero, List.set_cons_succ]
                    have MD := Lib.hid (MD.out.fresh m9)
                    clear H1 m9 S0
                    refine till_late 12 (v := ?v12df) (by kernel_rfl) (by kernel_rfl) (by kernel_rfl) (by kernel_rfl) (fun _ _ _ h => h) (by kernel_rfl) ?hw12df ?hy12df ?rest12df
                    case hw12df => (simp only [List.getElem?_toArray, List.getElem?_cons_zero, List.getElem?_cons_succ, Option.elim]; rfl)
                    case hy12df => (simp only [List.getElem?_toArray, List.getElem?_cons_zero, List.getElem?_cons_succ, Option.elim]; intro wx; go_simp; with_reducible rfl)
                    simp only [dstOf, List.getElem?_toArray, List.getElem?_cons_zero, List.getElem?_cons_succ, Option.bind, Act.put, List.setIfInBounds_toArray, List.set_cons_zero, List.set_cons_succ]
                    refine till_late 13 (v := ?v13df) (by kernel_rfl) (by kernel_rfl) (by kernel_rfl) (by kernel_rfl) (fun _ _ _ h => h) (by kernel_rfl) ?hw13df ?hy13df ?rest13df
                    case hw13df => (simp only [List.getElem?_toArray, List.getElem?_cons_zero, List.getElem?_cons_succ, Option.elim]; rfl)
                    case hy13df => (simp only [List.getElem?_toArray, List.getElem?_cons_zero, List.getElem?_cons_succ, Option.elim]; intro wx; go_simp; with_reducible rfl)
                    simp only [dstOf, List.getElem?_toArray, List.getElem?_cons_zero, List.getElem?_cons_succ, Option.bind, Act.put, List.setIfInBounds_toArray, List.set_cons_zero, List.set_cons_succ]
                    refine till_late 14 (v := ?v14df) (by kernel_rfl) (by kernel_rfl) (by kernel_rfl) (by kernel_rfl) (fun _ _ _ h => h) (by kernel_rfl) ?hw14df ?hy14df ?rest14df
                    case hw14df => (simp only [List.getElem?_toArray, List.getElem?_cons_zero, List.getElem?_cons_succ, Option.elim]; rfl)
                    case hy14df => (simp only [List.getElem?_toArray, List.getElem?_cons_zero, List.getElem?_cons_succ, Option.elim]; intro wx; go_simp; with_reducible rfl)
                    simp only [dstOf, List.getElem?_toArray, List.getElem?_cons_zero, List.getElem?_cons_succ, Option.bind, Act.put, List.setIfInBounds_toArray, List.set_cons_zero, List.set_cons_succ]
                    refine till_end (by kernel_rfl) ?_ _
                    go_wp2
                    go_roundw
                    case rel => exact ⟨j + 1, by omega, by go_num, by rw [HFN.out], MD.out⟩
                    case measure => simp [intOf]; omega
            · obtain rfl : j = o.length := by omega
              have H1 := s_has y (HXS.out.keep mj.below) (by omega)
              rw [show xs.contains y = true from List.contains_iff_mem.2 ((HX.out y).2 HYI.out)] at H1
              have H2 := s_has y (HHS.out.keep mj.below) (Nat.le_trans (heads_len G) (by omega))
              rw [fre_all OK.out HO3.out HYI.out] at H2
              have H3 := s_has y (HU.out.keep mj.below) (by omega)
              have e1 := below_cell (HOC.out i y HY.out) mj.below
              have H1 := Lib.hid H1
              generalize fre G o y o.length = fv at *
              have H2 := Lib.hid H2
              cases hc : ys.contains y with
              | true =>
                rw [hc] at H3
                have H3 := Lib.hid H3
                have HLS := Lib.hid (les_yes HY.out hc)
                obtain ⟨ya, yc, wp, r5, m5⟩ := mj.pushN (i := 0) rfl y (by omega)
                have R5 := Lib.hid r5
                have M5 := Lib.hid (show OMem wh wp [.row 3 1 (.slice ya ((les o ys i).length + 1) yc) ((les o ys i).length + 1) (intVs (les o ys i ++ [y]))] from m5)
                clear hc r5 m5 mj
                go_wp2_with (go_at_call 39; refine (H1.out).mono ?_; rintro e w7 ⟨rfl, rfl⟩; refine Hid.out ?_)
                refine Lib.hid ?_
                go_wp2_with (go_at_call 39; refine (H2.out).mono ?_; rintro e w7 ⟨rfl, rfl⟩; refine Hid.out ?_)
                refine Lib.hid ?_
                go_wp2_with (go_at_call 39; refine (H3.out).mono ?_; rintro e w7 ⟨rfl, rfl⟩; refine Hid.out ?_)
                refine Lib.hid ?_
                go_wp2_with (at_builtin; refine Hid.out ?_)
                refine Lib.hid ?_
                refine Lib.wpList_append_run _ rfl _ _ _ _ rfl _ _ rfl rfl _ _ R5.out ?_
                go_wp2
                go_roundw
                case rel => exact ⟨i + 1, ya, yc, by omega, by go_num, by rw [HLS.out, List.length_append]; rfl, by rw [HLS.out, List.length_append]; exact M5.out⟩
                case measure => simp [intOf]; omega
              | false =>
                rw [hc] at H3
                have H3 := Lib.hid H3
                have HLS := Lib.hid (les_no HY.out hc)
                clear hc mj
                go_wp2_with (go_at_call 39; refine (H1.out).mono ?_; rintro e w7 ⟨rfl, rfl⟩; refine Hid.out ?_)
                refine Lib.hid ?_
                go_wp2_with (go_at_call 39; refine (H2.out).mono ?_; rintro e w7 ⟨rfl, rfl⟩; refine Hid.out ?_)
                refine Lib.hid ?_
                go_wp2_with (go_at_call 39; refine (H3.out).mono ?_; rintro e w7 ⟨rfl, rfl⟩; refine Hid.out ?_)
                refine Lib.hid ?_
                go_wp2
                go_roundw
                case rel => exact ⟨i + 1, la, lc, by omega, by go_num, by rw [HLS.out], by rw [HLS.out]; exact MJ.out⟩
                case measure => simp [intOf]; omega
        · obtain rfl : i = o.length := by omega
          have HE : les o ys o.length = sorted G ys := by unfold les; rw [List.take_length]; exact HO4.out
          rw [HE] at mr
          rw [HE]
          have HS1 := Lib.hid (A.sorted_ (MG.out.fresh mr.below) (i := 0) rfl (by omega) (HU.out.keep mr.below) (by omega))
          have MR := Lib.hid mr
          clear mr HE hles
          go_wp2_with (go_at_call 32; refine (HS1.out).mono ?_; rintro e w7 ⟨v7, rfl, hv7, m7⟩; refine Hid.out ?_)
          refine Lib.hid ?_
          have MR := Lib.hid (MR.out.fresh m7)
          have HS2 := Lib.hid (nums_eq hv7 (NumsAt.of_own (MR.out.rowAt (i := 0) rfl)) (Nat.le_trans (sorted_le OK.out ys) (by omega)))
          clear m7 hv7
          go_wp2_with (go_at_call 21; refine (HS2.out).mono ?_; rintro e w8 ⟨rfl, m8⟩; refine Hid.out ?_)
          refine Lib.hid ?_
          have BF := Lib.hid (BH.out.trans ((MR.out.fresh m8).below.mono BH.out.size))
          clear m8
          go_wp2
          go_ret
          exact ⟨rfl, BF.out⟩
end Go.Proofs.Ytaecihkhcedijaa
