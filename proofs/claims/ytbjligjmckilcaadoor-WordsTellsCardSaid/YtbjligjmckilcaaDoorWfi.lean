/- Find of package words. -/
import Derived.Test.YtbjligjmckilcaaDoorWln
namespace Go.Proofs.YtbjligjmckilcaaDoor
open Go.RowKit Go.Maps Go.ChangeMaps Go.MapKept
open Wd
attribute [local go_sem ↓] Go.wp_at_zero Go.wp_at_succ
section
variable {w : World}
theorem contains_ok {v : Value} {l : List S} {x : S} (hv : TxAt w v l) (hl : l.length ≤ 1000) :
    Calls Tryd.prog 29 #[v, .string (bs x)] w fun e w' => e = .returned (.bool (l.contains x)) ∧ w = w' := by
  by_cases h0 : l.length = 0
  · obtain ⟨a, c, rfl⟩ := hv.slice
    have e : l.contains x = false := by rw [List.eq_nil_of_length_eq_zero h0]; rfl
    rw [h0, e]
    exact (Any.slices_Contains_string_empty Tryd.lcontains a c (bs x) w).mono fun _ _ ⟨h1, h2⟩ => ⟨h1, h2.symm⟩
  · obtain ⟨b, off, cap, rfl, _, hc⟩ := hv.form (by omega)
    have h := Any.slices_Contains_string Tryd.lcontains b off l.length cap (l.map bs) (bs x) w (by simp) (by omega) (fun j hj => by
      rw [List.length_map] at hj
      rw [hc j _ (List.getElem?_eq_getElem hj), List.getD_eq_getElem?_getD, List.getElem?_map, List.getElem?_eq_getElem hj]; rfl)
    refine h.mono fun e w' ⟨h1, h2⟩ => ⟨?_, h2.symm⟩
    rw [h1, List.take_of_length_le (by simp)]
    congr 2
    rw [Bool.eq_iff_iff, Lib.containsS_iff, List.contains_iff_mem]
    constructor
    · intro q
      obtain ⟨y, hy, e⟩ := List.mem_map.1 q
      rw [← bs_inj e]; exact hy
    · exact fun q => List.mem_map_of_mem q
set_option maxHeartbeats 4000000 in
set_option maxRecDepth 100000 in
theorem p_find {v : Value} {l : List S} {s : S} (hv : TxAt w v l) (hl : Fit l) (hs : s.length ≤ 1000) :
    Calls Tryd.prog 17 #[v, .string (bs s)] w (Ints w (find l s)) := by
  obtain ⟨hl0, hfw⟩ := hl
  have HFW := Lib.hid hfw
  have HV := Lib.hid hv
  obtain ⟨a, cap, rfl, -⟩ := hv
  clear hfw
  have H0 := Lib.hid (p_words (w := w) hs)
  go_enter Tryd.func17, Tryd.ntmps17
  go_wp2_with (go_at_call 10; refine (H0.out).mono ?_; rintro e w1 ⟨wv, rfl, hwv, b1⟩; refine Hid.out ?_)
  refine Lib.hid ?_
  have B1 := Lib.hid b1
  have HV := Lib.hid (HV.out.keep b1)
  clear b1 H0
  by_cases h1 : (words s).length = 1
  · obtain ⟨x, hx⟩ : ∃ x, words s = [x] := List.length_eq_one_iff.1 h1
    have HF := Lib.hid (find_one (texts := l) hx)
    rw [hx] at hwv
    obtain ⟨vb, vo, vcap, rfl, _, hvc⟩ := hwv.form (by simp)
    have v0 := hvc 0 x rfl
    rw [Nat.add_zero] at v0
    have V0 := Lib.hid v0
    have M0 := Lib.hid ((OMem.start w1).rowNil 3 1)
    clear v0 hvc hwv hx h1
    rw [show ([x] : List S).length = 1 from rfl]
    go_wp2
    go_loopw [6, 16] (fun o i wr => ∃ (k : Nat) (oa : Option Addr) (oc : Nat), k ≤ l.length ∧ i = .int .i64 k ∧ o = .slice oa (fnd l x k).length oc ∧ OMem w1 wr [.row 3 1 (.slice oa (fnd l x k).length oc) (fnd l x k).length (intVs (fnd l x k))]) (fun _ i _ => l.length - (intOf i).toNat)
    case atStart => exact ⟨0, none, 0, Nat.zero_le _, rfl, rfl, M0.out⟩
    case round =>
      obtain ⟨k, oa, oc, hk, rfl, rfl, mm⟩ := hrel
      have HB2 := Lib.hid (mm.below.trans ((below_drew wr).mono mm.below.size))
      by_cases hlt : k < l.length
      · obtain ⟨t, ht⟩ : ∃ t, l[k]? = some t := ⟨_, List.getElem?_eq_getElem hlt⟩
        obtain ⟨b, off, cap', h1, _, hcs⟩ := (HV.out.keep mm.below).form (by omega)
        cases h1
        have c0 := hcs k t ht
        have htl := HFW.out t (List.mem_of_getElem? ht)
        have hfn := fnd_next l x k
        rw [List.getD_eq_getElem?_getD, ht, Option.getD_some] at hfn
        have hfl := fnd_len l x k
        have v0 := below_cell V0.out mm.below
        have HS := Lib.hid (show ∀ wx, Below wr.heap.size wr wx → wx.cell? ⟨vb, vo, none⟩ = some (.string (bs x)) from fun wx hx => below_cell v0 hx)
        have S0 := HS.out _ (below_drew wr)
        have H1 := Lib.hid (p_words (w := wr.drew) (s := t) (by omega))
        clear hcs ht v0
        cases hx : has x t with
        | true =>
          rw [hx, if_pos rfl] at hfn
          have HX := Lib.hid hx
          have HFN := Lib.hid hfn
          clear hfn hx
          go_wp2
          refine region_till 5 (fun wx => wx.cell? ⟨vb, vo, none⟩ = some (.string (bs x))) (by kernel_rfl) ?_
          refine till_take 0 30 false (v := ?v0a) (by kernel_rfl) (by kernel_rfl) (by kernel_rfl) (by kernel_rfl) (by kernel_rfl) (fun _ _ _ h => h) ?hw0a S0 ?hy0a ?rest0a
          case hw0a => (simp only [List.getElem?_toArray, List.getElem?_cons_zero, Option.elim]; rfl)
          case hy0a => (simp only [List.getElem?_toArray, List.getElem?_cons_zero, Option.elim]; intro wx _; go_simp; with_reducible rfl)
          simp only [dstOf, List.getElem?_toArray, List.getElem?_cons_zero, Option.bind, Act.put, List.setIfInBounds_toArray, List.set_cons_zero, List.set_cons_succ]
          refine till_take 2 30 false (v := ?v2a) (by kernel_rfl) (by kernel_rfl) (by kernel_rfl) (by kernel_rfl) (by kernel_rfl) (fun _ _ _ h => h) ?hw2a S0 ?hy2a ?rest2a
          case hw2a => (simp only [List.getElem?_toArray, List.getElem?_cons_zero, List.getElem?_cons_succ, Option.elim]; rfl)
          case hy2a => (simp only [List.getElem?_toArray, List.getElem?_cons_zero, List.getElem?_cons_succ, Option.elim]; intro wx _; go_simp; with_reducible rfl)
          simp only [dstOf, List.getElem?_toArray, List.getElem?_cons_zero, List.getElem?_cons_succ, Option.bind, Act.put, List.setIfInBounds_toArray, List.set_cons_zero, List.set_cons_succ]
          refine till_take 3 30 false (v := ?v3a) (by kernel_rfl) (by kernel_rfl) (by kernel_rfl) (by kernel_rfl) (by kernel_rfl) (fun _ _ _ h => h) ?hw3a S0 ?hy3a ?rest3a
          case hw3a => (simp only [List.getElem?_toArray, List.getElem?_cons_zero, List.getElem?_cons_succ, Option.elim]; rfl)
          case hy3a => (simp only [List.getElem?_toArray, List.getElem?_cons_zero, List.getElem?_cons_succ, Option.elim]; intro wx _; go_simp; with_reducible rfl)
          simp only [dstOf, List.getElem?_toArray, List.getElem?_cons_zero, List.getElem?_cons_succ, Option.bind, Act.put, List.setIfInBounds_toArray, List.set_cons_zero, List.set_cons_succ]
          refine till_take 4 30 true (v := ?v4a) (by kernel_rfl) (by kernel_rfl) (by kernel_rfl) (by kernel_rfl) (by kernel_rfl) (fun _ _ _ h => h) ?hw4a S0 ?hy4a ?rest4a
          case hw4a => (simp only [List.getElem?_toArray, List.getElem?_cons_zero, List.getElem?_cons_succ, Option.elim]; rfl)
          case hy4a => (simp only [List.getElem?_toArray, List.getElem?_cons_zero, List.getElem?_cons_succ, Option.elim]; intro wx hx; have x1 := hx trivial; go_simp; with_reducible rfl)
          simp only [dstOf, List.getElem?_toArray, List.getElem?_cons_zero, List.getElem?_cons_succ, Option.bind, Act.put, List.setIfInBounds_toArray, List.set_cons_zero, List.set_cons_succ]
          refine till_before 1 (by kernel_rfl) (fun K hK => ?_)
          simp only [List.getElem?_toArray, List.getElem?_cons_zero, List.getElem?_cons_succ, Option.elim]
          rw [if_pos (by rfl)]
          go_simp
          go_at_call 10
          refine (H1.out).mono ?_
          rintro e w7 ⟨wv, rfl, hwv, b7⟩
          refine hK.out _ _ (HS.out _ ((below_drew wr).trans (b7.mono (below_drew wr).size))) ?_
          clear hK K
          try simp only [Act.put, List.setIfInBounds_toArray, List.set_cons_zero, List.set_cons_succ]
          have S0 := HS.out _ ((below_drew wr).trans (b7.mono (below_drew wr).size))
          have B7 := Lib.hid (HB2.out.trans (b7.mono HB2.out.size))
          have M7 := Lib.hid ((mm.fresh (below_drew wr)).fresh b7)
          have H2 := contains_ok (x := x) hwv (by have := words_count t; omega)
          have hh : (words t).contains x = true := HX.out
          rw [hh] at H2
          have H2 := Lib.hid H2
          clear b7 H1 hwv hh mm
          refine till_step 5 (by kernel_rfl) (by kernel_rfl) (fun K hK => ?_)
          simp only [List.getElem?_toArray, List.getElem?_cons_zero, List.getElem?_cons_succ, Option.elim]
          rw [if_pos (by rfl)]
          go_simp
          go_at_call 29
          refine (H2.out).mono ?_
          rintro e w8 ⟨rfl, rfl⟩
          refine hK.out _ _ ?_
          clear hK K
          try simp only [Act.put, List.setIfInBounds_toArray, List.set_cons_zero, List.set_cons_succ]
          clear S0
          refine till_end (by kernel_rfl) ?_ _
          obtain ⟨ya, yc, w9, r9, m9⟩ := M7.out.pushN (i := 0) rfl (k : Int) (by omega)
          have R9 := Lib.hid r9
          have HL2 := Lib.hid (show (fnd l x k).length + 1 = (fnd l x (k + 1)).length by rw [HFN.out]; simp)
          have M9 := Lib.hid (show OMem w1 w9 [.row 3 1 (.slice ya (fnd l x (k + 1)).length yc) (fnd l x (k + 1)).length (intVs (fnd l x (k + 1)))] by rw [← HL2.out, HFN.out]; exact m9)
          clear r9 m9
          go_wp2_with (at_builtin; refine Hid.out ?_)
          refine Lib.hid ?_
          refine Lib.wpList_append_run _ rfl _ _ _ _ rfl _ _ rfl rfl _ _ R9.out ?_
          go_wp2
          go_roundw
          case rel => exact ⟨k + 1, ya, yc, by omega, by go_num, by rw [HL2.out], M9.out⟩
          case measure => simp [intOf]; omega
        | false =>
          rw [hx, if_neg (by simp), List.append_nil] at hfn
          have HX := Lib.hid hx
          have HFN := Lib.hid hfn
          clear hfn hx
          go_wp2
          refine region_till 5 (fun wx => wx.cell? ⟨vb, vo, none⟩ = some (.string (bs x))) (by kernel_rfl) ?_
          refine till_take 0 30 false (v := ?v0b) (by kernel_rfl) (by kernel_rfl) (by kernel_rfl) (by kernel_rfl) (by kernel_rfl) (fun _ _ _ h => h) ?hw0b S0 ?hy0b ?rest0b
          case hw0b => (simp only [List.getElem?_toArray, List.getElem?_cons_zero, Option.elim]; rfl)
          case hy0b => (simp only [List.getElem?_toArray, List.getElem?_cons_zero, Option.elim]; intro wx _; go_simp; with_reducible rfl)
          simp only [dstOf, List.getElem?_toArray, List.getElem?_cons_zero, Option.bind, Act.put, List.setIfInBounds_toArray, List.set_cons_zero, List.set_cons_succ]
          refine till_take 2 30 false (v := ?v2b) (by kernel_rfl) (by kernel_rfl) (by kernel_rfl) (by kernel_rfl) (by kernel_rfl) (fun _ _ _ h => h) ?hw2b S0 ?hy2b ?rest2b
          case hw2b => (simp only [List.getElem?_toArray, List.getElem?_cons_zero, List.getElem?_cons_succ, Option.elim]; rfl)
          case hy2b => (simp only [List.getElem?_toArray, List.getElem?_cons_zero, List.getElem?_cons_succ, Option.elim]; intro wx _; go_simp; with_reducible rfl)
          simp only [dstOf, List.getElem?_toArray, List.getElem?_cons_zero, List.getElem?_cons_succ, Option.bind, Act.put, List.setIfInBounds_toArray, List.set_cons_zero, List.set_cons_succ]
          refine till_take 3 30 false (v := ?v3b) (by kernel_rfl) (by kernel_rfl) (by kernel_rfl) (by kernel_rfl) (by kernel_rfl) (fun _ _ _ h => h) ?hw3b S0 ?hy3b ?rest3b
          case hw3b => (simp only [List.getElem?_toArray, List.getElem?_cons_zero, List.getElem?_cons_succ, Option.elim]; rfl)
          case hy3b => (simp only [List.getElem?_toArray, List.getElem?_cons_zero, List.getElem?_cons_succ, Option.elim]; intro wx _; go_simp; with_reducible rfl)
          simp only [dstOf, List.getElem?_toArray, List.getElem?_cons_zero, List.getElem?_cons_succ, Option.bind, Act.put, List.setIfInBounds_toArray, List.set_cons_zero, List.set_cons_succ]
          refine till_take 4 30 true (v := ?v4b) (by kernel_rfl) (by kernel_rfl) (by kernel_rfl) (by kernel_rfl) (by kernel_rfl) (fun _ _ _ h => h) ?hw4b S0 ?hy4b ?rest4b
          case hw4b => (simp only [List.getElem?_toArray, List.getElem?_cons_zero, List.getElem?_cons_succ, Option.elim]; rfl)
          case hy4b => (simp only [List.getElem?_toArray, List.getElem?_cons_zero, List.getElem?_cons_succ, Option.elim]; intro wx hx; have x1 := hx trivial; go_simp; with_reducible rfl)
          simp only [dstOf, List.getElem?_toArray, List.getElem?_cons_zero, List.getElem?_cons_succ, Option.bind, Act.put, List.setIfInBounds_toArray, List.set_cons_zero, List.set_cons_succ]
          refine till_before 1 (by kernel_rfl) (fun K hK => ?_)
          simp only [List.getElem?_toArray, List.getElem?_cons_zero, List.getElem?_cons_succ, Option.elim]
          rw [if_pos (by rfl)]
          go_simp
          go_at_call 10
          refine (H1.out).mono ?_
          rintro e w7 ⟨wv, rfl, hwv, b7⟩
          refine hK.out _ _ (HS.out _ ((below_drew wr).trans (b7.mono (below_drew wr).size))) ?_
          clear hK K
          try simp only [Act.put, List.setIfInBounds_toArray, List.set_cons_zero, List.set_cons_succ]
          have S0 := HS.out _ ((below_drew wr).trans (b7.mono (below_drew wr).size))
          have B7 := Lib.hid (HB2.out.trans (b7.mono HB2.out.size))
          have M7 := Lib.hid ((mm.fresh (below_drew wr)).fresh b7)
          have H2 := contains_ok (x := x) hwv (by have := words_count t; omega)
          have hh : (words t).contains x = false := HX.out
          rw [hh] at H2
          have H2 := Lib.hid H2
          clear b7 H1 hwv hh mm
          refine till_step 5 (by kernel_rfl) (by kernel_rfl) (fun K hK => ?_)
          simp only [List.getElem?_toArray, List.getElem?_cons_zero, List.getElem?_cons_succ, Option.elim]
          rw [if_pos (by rfl)]
          go_simp
          go_at_call 29
          refine (H2.out).mono ?_
          rintro e w8 ⟨rfl, rfl⟩
          refine hK.out _ _ ?_
          clear hK K
          try simp only [Act.put, List.setIfInBounds_toArray, List.set_cons_zero, List.set_cons_succ]
          clear S0
          refine till_end (by kernel_rfl) ?_ _
          go_wp2
          go_roundw
          case rel => exact ⟨k + 1, oa, oc, by omega, by go_num, by rw [HFN.out], by rw [HFN.out]; exact M7.out⟩
          case measure => simp [intOf]; omega
      · obtain rfl : k = l.length := by omega
        have HR := Lib.hid (show NumsAt wr (.slice oa (fnd l x l.length).length oc) (find l s) by rw [HF.out]; exact NumsAt.of_own (mm.rowAt (i := 0) rfl))
        have HB := Lib.hid (B1.out.trans (mm.below.mono B1.out.size))
        clear mm
        go_wp2
        go_ret
        exact ⟨_, rfl, HR.out, HB.out⟩
  · have HF := Lib.hid (find_not (texts := l) h1)
    obtain ⟨va, vc, rfl⟩ := hwv.slice
    have h1' : ¬ ((words s).length : Int) = 1 := by omega
    clear hwv
    go_wp2
    go_ret
    exact ⟨_, rfl, by rw [HF.out]; exact NumsAt.nil _, B1.out⟩
end
end Go.Proofs.YtbjligjmckilcaaDoor
