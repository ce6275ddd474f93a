/- The reference of layer 10: Find. -/
import Derived.Test.YtbjligjmckilcaaDoorWq5
namespace Go.Proofs.YtbjligjmckilcaaDoor
open Go.RowKit Go.Maps Go.ChangeMaps Go.MapKept
open Wd
attribute [local go_sem ↓] Go.wp_at_zero Go.wp_at_succ
section
variable {w : World}
set_option maxHeartbeats 4000000 in
set_option maxRecDepth 100000 in
theorem q_find {v : Value} {l : List S} {s : S} (hv : TxAt w v l) (hl : few l 20 = true) (hs : s.length ≤ 1000) :
    Calls Tryd.prog 18 #[v, .string (bs s)] w (Ints w (find l s)) := by
  have hfw := of_decide_eq_true hl
  have HV := Lib.hid hv
  obtain ⟨a, cap, rfl, -⟩ := hv
  have H0 := Lib.hid (q_words (w := w) hs)
  go_enter Tryd.func18, Tryd.ntmps18
  go_wp2_with (go_at_call 11; refine (H0.out).mono ?_; rintro e w1 ⟨wv, rfl, hwv, b1⟩; refine Hid.out ?_)
  refine Lib.hid ?_
  have B1 := Lib.hid b1
  have HV := Lib.hid (HV.out.keep b1)
  clear b1 H0
  by_cases h1 : (words s).length = 1
  · obtain ⟨x, hx⟩ : ∃ x, words s = [x] := List.length_eq_one_iff.1 h1
    have HF := Lib.hid (find_one (texts := l) hx)
    rw [hx] at hwv
    obtain ⟨vb, vo, vcap, rfl, _, hvc⟩ := hwv.form (by simp)
    have v0 := hvc 0 x rfl
    rw [Nat.add_zero] at v0
    have V0 := Lib.hid v0
    have M0 := Lib.hid ((OMem.start w1).rowNil 3 1)
    clear v0 hvc hwv hx h1
    rw [show ([x] : List S).length = 1 from rfl]
    go_wp2
    go_loopw [6, 7] (fun o i wr => ∃ (k : Nat) (oa : Option Addr) (oc : Nat), k ≤ l.length ∧ i = .int .i64 k ∧ o = .slice oa (fnd l x k).length oc ∧ OMem w1 wr [.row 3 1 (.slice oa (fnd l x k).length oc) (fnd l x k).length (intVs (fnd l x k))]) (fun _ i _ => l.length - (intOf i).toNat)
    case atStart => exact ⟨0, none, 0, Nat.zero_le _, rfl, rfl, M0.out⟩
    case round =>
      obtain ⟨k, oa, oc, hk, rfl, rfl, mm⟩ := hrel
      have HB2 := Lib.hid (mm.below.trans ((below_drew wr).mono mm.below.size))
      by_cases hlt : k < l.length
      · obtain ⟨t, ht⟩ : ∃ t, l[k]? = some t := ⟨_, List.getElem?_eq_getElem hlt⟩
        obtain ⟨b, off, cap', h1, _, hcs⟩ := (HV.out.keep mm.below).form (by omega)
        cases h1
        have c0 := hcs k t ht
        have htl := hfw.2 t (List.mem_of_getElem? ht)
        have hfn := fnd_next l x k
        rw [List.getD_eq_getElem?_getD, ht, Option.getD_some] at hfn
        have hfl := fnd_len l x k
        have v0 := below_cell V0.out mm.below
        have HS := Lib.hid (show ∀ wx, Below wr.heap.size wr wx → wx.cell? ⟨b, off + k, none⟩ = some (.string (bs t)) ∧ wx.cell? ⟨vb, vo, none⟩ = some (.string (bs x)) from fun wx hx => ⟨below_cell c0 hx, below_cell v0 hx⟩)
        have S0 := HS.out _ (below_drew wr)
        have H1 := Lib.hid (q_words (w := wr.drew) (s := t) (by omega))
        clear hcs ht v0 c0
        cases hx : has x t with
        | true =>
          rw [hx, if_pos rfl] at hfn
          have HX := Lib.hid hx
          have HFN := Lib.hid hfn
          clear hfn hx
          go_wp2
          refine region_till 8 (fun wx => wx.cell? ⟨b, off + k, none⟩ = some (.string (bs t)) ∧ wx.cell? ⟨vb, vo, none⟩ = some (.string (bs x))) (by kernel_rfl) ?_
          refine till_take 0 30 false (v := ?v0a) (by kernel_rfl) (by kernel_rfl) (by kernel_rfl) (by kernel_rfl) (by kernel_rfl) (fun _ _ _ h => h) ?hw0a S0 ?hy0a ?rest0a
          case hw0a => (simp only [List.getElem?_toArray, List.getElem?_cons_zero, Option.elim]; rfl)
          case hy0a => (simp only [List.getElem?_toArray, List.getElem?_cons_zero, Option.elim]; intro wx _; go_simp; with_reducible rfl)
          simp only [dstOf, List.getElem?_toArray, List.getElem?_cons_zero, Option.bind, Act.put, List.setIfInBounds_toArray, List.set_cons_zero, List.set_cons_succ]
          refine till_take 1 30 false (v := ?v1a) (by kernel_rfl) (by kernel_rfl) (by kernel_rfl) (by kernel_rfl) (by kernel_rfl) (fun _ _ _ h => h) ?hw1a S0 ?hy1a ?rest1a
          case hw1a => (simp only [List.getElem?_toArray, List.getElem?_cons_zero, List.getElem?_cons_succ, Option.elim]; rfl)
          case hy1a => (simp only [List.getElem?_toArray, List.getElem?_cons_zero, List.getElem?_cons_succ, Option.elim]; intro wx _; go_simp; with_reducible rfl)
          simp only [dstOf, List.getElem?_toArray, List.getElem?_cons_zero, List.getElem?_cons_succ, Option.bind, Act.put, List.setIfInBounds_toArray, List.set_cons_zero, List.set_cons_succ]
          refine till_take 2 30 false (v := ?v2a) (by kernel_rfl) (by kernel_rfl) (by kernel_rfl) (by kernel_rfl) (by kernel_rfl) (fun _ _ _ h => h) ?hw2a S0 ?hy2a ?rest2a
          case hw2a => (simp only [List.getElem?_toArray, List.getElem?_cons_zero, List.getElem?_cons_succ, Option.elim]; rfl)
          case hy2a => (simp only [List.getElem?_toArray, List.getElem?_cons_zero, List.getElem?_cons_succ, Option.elim]; intro wx _; go_simp; with_reducible rfl)
          simp only [dstOf, List.getElem?_toArray, List.getElem?_cons_zero, List.getElem?_cons_succ, Option.bind, Act.put, List.setIfInBounds_toArray, List.set_cons_zero, List.set_cons_succ]
          refine till_take 3 30 true (v := ?v3a) (by kernel_rfl) (by kernel_rfl) (by kernel_rfl) (by kernel_rfl) (by kernel_rfl) (fun _ _ _ h => h) ?hw3a S0 ?hy3a ?rest3a
          case hw3a => (simp only [List.getElem?_toArray, List.getElem?_cons_zero, List.getElem?_cons_succ, Option.elim]; rfl)
          case hy3a => (simp only [List.getElem?_toArray, List.getElem?_cons_zero, List.getElem?_cons_succ, Option.elim]; intro wx hx; have x0 := (hx trivial).1; have x1 := (hx trivial).2; go_simp; with_reducible rfl)
          simp only [dstOf, List.getElem?_toArray, List.getElem?_cons_zero, List.getElem?_cons_succ, Option.bind, Act.put, List.setIfInBounds_toArray, List.set_cons_zero, List.set_cons_succ]
          refine till_take 5 30 false (v := ?v5a) (by kernel_rfl) (by kernel_rfl) (by kernel_rfl) (by kernel_rfl) (by kernel_rfl) (fun _ _ _ h => h) ?hw5a S0 ?hy5a ?rest5a
          case hw5a => (simp only [List.getElem?_toArray, List.getElem?_cons_zero, List.getElem?_cons_succ, Option.elim]; rfl)
          case hy5a => (simp only [List.getElem?_toArray, List.getElem?_cons_zero, List.getElem?_cons_succ, Option.elim]; intro wx _; go_simp; with_reducible rfl)
          simp only [dstOf, List.getElem?_toArray, List.getElem?_cons_zero, List.getElem?_cons_succ, Option.bind, Act.put, List.setIfInBounds_toArray, List.set_cons_zero, List.set_cons_succ]
          refine till_take 6 30 false (v := ?v6a) (by kernel_rfl) (by kernel_rfl) (by kernel_rfl) (by kernel_rfl) (by kernel_rfl) (fun _ _ _ h => h) ?hw6a S0 ?hy6a ?rest6a
          case hw6a => (simp only [List.getElem?_toArray, List.getElem?_cons_zero, List.getElem?_cons_succ, Option.elim]; rfl)
          case hy6a => (simp only [List.getElem?_toArray, List.getElem?_cons_zero, List.getElem?_cons_succ, Option.elim]; intro wx _; go_simp; with_reducible rfl)
          simp only [dstOf, List.getElem?_toArray, List.getElem?_cons_zero, List.getElem?_cons_succ, Option.bind, Act.put, List.setIfInBounds_toArray, List.set_cons_zero, List.set_cons_succ]
          refine till_take 7 30 true (v := ?v7a) (by kernel_rfl) (by kernel_rfl) (by kernel_rfl) (by kernel_rfl) (by kernel_rfl) (fun _ _ _ h => h) ?hw7a S0 ?hy7a ?rest7a
          case hw7a => (simp only [List.getElem?_toArray, List.getElem?_cons_zero, List.getElem?_cons_succ, Option.elim]; rfl)
          case hy7a => (simp only [List.getElem?_toArray, List.getElem?_cons_zero, List.getElem?_cons_succ, Option.elim]; intro wx hx; have x0 := (hx trivial).1; have x1 := (hx trivial).2; go_simp; with_reducible rfl)
          simp only [dstOf, List.getElem?_toArray, List.getElem?_cons_zero, List.getElem?_cons_succ, Option.bind, Act.put, List.setIfInBounds_toArray, List.set_cons_zero, List.set_cons_succ]
          refine till_before 4 (by kernel_rfl) (fun K hK => ?_)
          simp only [List.getElem?_toArray, List.getElem?_cons_zero, List.getElem?_cons_succ, Option.elim]
          rw [if_pos (by rfl)]
          go_simp
          go_at_call 11
          refine (H1.out).mono ?_
          rintro e w7 ⟨wv, rfl, hwv, b7⟩
          refine hK.out _ _ (HS.out _ ((below_drew wr).trans (b7.mono (below_drew wr).size))) ?_
          clear hK K
          try simp only [Act.put, List.setIfInBounds_toArray, List.set_cons_zero, List.set_cons_succ]
          have S0 := HS.out _ ((below_drew wr).trans (b7.mono (below_drew wr).size))
          have B7 := Lib.hid (HB2.out.trans (b7.mono HB2.out.size))
          have M7 := Lib.hid ((mm.fresh (below_drew wr)).fresh b7)
          have H2 := q_has (x := x) hwv (by have := words_count t; omega)
          have hh : (words t).contains x = true := HX.out
          rw [hh] at H2
          have H2 := Lib.hid H2
          clear b7 H1 hwv hh mm
          refine till_step 8 (by kernel_rfl) (by kernel_rfl) (fun K hK => ?_)
          simp only [List.getElem?_toArray, List.getElem?_cons_zero, List.getElem?_cons_succ, Option.elim]
          rw [if_pos (by rfl)]
          go_simp
          go_at_call 30
          refine (H2.out).mono ?_
          rintro e w8 ⟨rfl, rfl⟩
          refine hK.out _ _ ?_
          clear hK K
          try simp only [Act.put, List.setIfInBounds_toArray, List.set_cons_zero, List.set_cons_succ]
          clear S0
          refine till_end (by kernel_rfl) ?_ _
          obtain ⟨ya, yc, w9, r9, m9⟩ := M7.out.pushN (i := 0) rfl (k : Int) (by omega)
          have R9 := Lib.hid r9
          have HL2 := Lib.hid (show (fnd l x k).length + 1 = (fnd l x (k + 1)).length by rw [HFN.out]; simp)
          have M9 := Lib.hid (show OMem w1 w9 [.row 3 1 (.slice ya (fnd l x (k + 1)).length yc) (fnd l x (k + 1)).length (intVs (fnd l x (k + 1)))] by rw [← HL2.out, HFN.out]; exact m9)
          clear r9 m9
          go_wp2_with (at_builtin; refine Hid.out ?_)
          refine Lib.hid ?_
          refine Lib.wpList_append_run _ rfl _ _ _ _ rfl _ _ rfl rfl _ _ R9.out ?_
          go_wp2
          go_roundw
          case rel => exact ⟨k + 1, ya, yc, by omega, by go_num, by rw [HL2.out], M9.out⟩
          case measure => simp [intOf]; omega
        | false =>
          rw [hx, if_neg (by simp), List.append_nil] at hfn
          have HX := Lib.hid hx
          have HFN := Lib.hid hfn
          clear hfn hx
          go_wp2
          refine region_till 8 (fun wx => wx.cell? ⟨b, off + k, none⟩ = some (.string (bs t)) ∧ wx.cell? ⟨vb, vo, none⟩ = some (.string (bs x))) (by kernel_rfl) ?_
          refine till_take 0 30 false (v := ?v0b) (by kernel_rfl) (by kernel_rfl) (by kernel_rfl) (by kernel_rfl) (by kernel_rfl) (fun _ _ _ h => h) ?hw0b S0 ?hy0b ?rest0b
          case hw0b => (simp only [List.getElem?_toArray, List.getElem?_cons_zero, Option.elim]; rfl)
          case hy0b => (simp only [List.getElem?_toArray, List.getElem?_cons_zero, Option.elim]; intro wx _; go_simp; with_reducible rfl)
          simp only [dstOf, List.getElem?_toArray, List.getElem?_cons_zero, Option.bind, Act.put, List.setIfInBounds_toArray, List.set_cons_zero, List.set_cons_succ]
          refine till_take 1 30 false (v := ?v1b) (by kernel_rfl) (by kernel_rfl) (by kernel_rfl) (by kernel_rfl) (by kernel_rfl) (fun _ _ _ h => h) ?hw1b S0 ?hy1b ?rest1b
          case hw1b => (simp only [List.getElem?_toArray, List.getElem?_cons_zero, List.getElem?_cons_succ, Option.elim]; rfl)
          case hy1b => (simp only [List.getElem?_toArray, List.getElem?_cons_zero, List.getElem?_cons_succ, Option.elim]; intro wx _; go_simp; with_reducible rfl)
          simp only [dstOf, List.getElem?_toArray, List.getElem?_cons_zero, List.getElem?_cons_succ, Option.bind, Act.put, List.setIfInBounds_toArray, List.set_cons_zero, List.set_cons_succ]
          refine till_take 2 30 false (v := ?v2b) (by kernel_rfl) (by kernel_rfl) (by kernel_rfl) (by kernel_rfl) (by kernel_rfl) (fun _ _ _ h => h) ?hw2b S0 ?hy2b ?rest2b
          case hw2b => (simp only [List.getElem?_toArray, List.getElem?_cons_zero, List.getElem?_cons_succ, Option.elim]; rfl)
          case hy2b => (simp only [List.getElem?_toArray, List.getElem?_cons_zero, List.getElem?_cons_succ, Option.elim]; intro wx _; go_simp; with_reducible rfl)
          simp only [dstOf, List.getElem?_toArray, List.getElem?_cons_zero, List.getElem?_cons_succ, Option.bind, Act.put, List.setIfInBounds_toArray, List.set_cons_zero, List.set_cons_succ]
          refine till_take 3 30 true (v := ?v3b) (by kernel_rfl) (by kernel_rfl) (by kernel_rfl) (by kernel_rfl) (by kernel_rfl) (fun _ _ _ h => h) ?hw3b S0 ?hy3b ?rest3b
          case hw3b => (simp only [List.getElem?_toArray, List.getElem?_cons_zero, List.getElem?_cons_succ, Option.elim]; rfl)
          case hy3b => (simp only [List.getElem?_toArray, List.getElem?_cons_zero, List.getElem?_cons_succ, Option.elim]; intro wx hx; have x0 := (hx trivial).1; have x1 := (hx trivial).2; go_simp; with_reducible rfl)
          simp only [dstOf, List.getElem?_toArray, List.getElem?_cons_zero, List.getElem?_cons_succ, Option.bind, Act.put, List.setIfInBounds_toArray, List.set_cons_zero, List.set_cons_succ]
          refine till_take 5 30 false (v := ?v5b) (by kernel_rfl) (by kernel_rfl) (by kernel_rfl) (by kernel_rfl) (by kernel_rfl) (fun _ _ _ h => h) ?hw5b S0 ?hy5b ?rest5b
          case hw5b => (simp only [List.getElem?_toArray, List.getElem?_cons_zero, List.getElem?_cons_succ, Option.elim]; rfl)
          case hy5b => (simp only [List.getElem?_toArray, List.getElem?_cons_zero, List.getElem?_cons_succ, Option.elim]; intro wx _; go_simp; with_reducible rfl)
          simp only [dstOf, List.getElem?_toArray, List.getElem?_cons_zero, List.getElem?_cons_succ, Option.bind, Act.put, List.setIfInBounds_toArray, List.set_cons_zero, List.set_cons_succ]
          refine till_take 6 30 false (v := ?v6b) (by kernel_rfl) (by kernel_rfl) (by kernel_rfl) (by kernel_rfl) (by kernel_rfl) (fun _ _ _ h => h) ?hw6b S0 ?hy6b ?rest6b
          case hw6b => (simp only [List.getElem?_toArray, List.getElem?_cons_zero, List.getElem?_cons_succ, Option.elim]; rfl)
          case hy6b => (simp only [List.getElem?_toArray, List.getElem?_cons_zero, List.getElem?_cons_succ, Option.elim]; intro wx _; go_simp; with_reducible rfl)
          simp only [dstOf, List.getElem?_toArray, List.getElem?_cons_zero, List.getElem?_cons_succ, Option.bind, Act.put, List.setIfInBounds_toArray, List.set_cons_zero, List.set_cons_succ]
          refine till_take 7 30 true (v := ?v7b) (by kernel_rfl) (by kernel_rfl) (by kernel_rfl) (by kernel_rfl) (by kernel_rfl) (fun _ _ _ h => h) ?hw7b S0 ?hy7b ?rest7b
          case hw7b => (simp only [List.getElem?_toArray, List.getElem?_cons_zero, List.getElem?_cons_succ, Option.elim]; rfl)
          case hy7b => (simp only [List.getElem?_toArray, List.getElem?_cons_zero, List.getElem?_cons_succ, Option.elim]; intro wx hx; have x0 := (hx trivial).1; have x1 := (hx trivial).2; go_simp; with_reducible rfl)
          simp only [dstOf, List.getElem?_toArray, List.getElem?_cons_zero, List.getElem?_cons_succ, Option.bind, Act.put, List.setIfInBounds_toArray, List.set_cons_zero, List.set_cons_succ]
          refine till_before 4 (by kernel_rfl) (fun K hK => ?_)
          simp only [List.getElem?_toArray, List.getElem?_cons_zero, List.getElem?_cons_succ, Option.elim]
          rw [if_pos (by rfl)]
          go_simp
          go_at_call 11
          refine (H1.out).mono ?_
          rintro e w7 ⟨wv, rfl, hwv, b7⟩
          refine hK.out _ _ (HS.out _ ((below_drew wr).trans (b7.mono (below_drew wr).size))) ?_
          clear hK K
          try simp only [Act.put, List.setIfInBounds_toArray, List.set_cons_zero, List.set_cons_succ]
          have S0 := HS.out _ ((below_drew wr).trans (b7.mono (below_drew wr).size))
          have B7 := Lib.hid (HB2.out.trans (b7.mono HB2.out.size))
          have M7 := Lib.hid ((mm.fresh (below_drew wr)).fresh b7)
          have H2 := q_has (x := x) hwv (by have := words_count t; omega)
          have hh : (words t).contains x = false := HX.out
          rw [hh] at H2
          have H2 := Lib.hid H2
          clear b7 H1 hwv hh mm
          refine till_step 8 (by kernel_rfl) (by kernel_rfl) (fun K hK => ?_)
          simp only [List.getElem?_toArray, List.getElem?_cons_zero, List.getElem?_cons_succ, Option.elim]
          rw [if_pos (by rfl)]
          go_simp
          go_at_call 30
          refine (H2.out).mono ?_
          rintro e w8 ⟨rfl, rfl⟩
          refine hK.out _ _ ?_
          clear hK K
          try simp only [Act.put, List.setIfInBounds_toArray, List.set_cons_zero, List.set_cons_succ]
          clear S0
          refine till_end (by kernel_rfl) ?_ _
          go_wp2
          go_roundw
          case rel => exact ⟨k + 1, oa, oc, by omega, by go_num, by rw [HFN.out], by rw [HFN.out]; exact M7.out⟩
          case measure => simp [intOf]; omega
      · obtain rfl : k = l.length := by omega
        have HR := Lib.hid (show NumsAt wr (.slice oa (fnd l x l.length).length oc) (find l s) by rw [HF.out]; exact NumsAt.of_own (mm.rowAt (i := 0) rfl))
        have HB := Lib.hid (B1.out.trans (mm.below.mono B1.out.size))
        clear mm
        go_wp2
        go_ret
        exact ⟨_, rfl, HR.out, HB.out⟩
  · have HF := Lib.hid (find_not (texts := l) h1)
    obtain ⟨va, vc, rfl⟩ := hwv.slice
    have h1' : ¬ ((words s).length : Int) = 1 := by omega
    clear hwv
    go_wp2
    go_loopw [6, 7] (fun o i wr => o = .slice none 0 0 ∧ i = .int .i64 0 ∧ w1 = wr) (fun _ i _ => 0)
    case atStart => exact ⟨rfl, rfl, rfl⟩
    case round =>
      obtain ⟨rfl, rfl, rfl⟩ := hrel
      go_wp2
      all_goals
        go_ret
        exact ⟨_, rfl, by rw [HF.out]; exact NumsAt.nil _, B1.out⟩
end
end Go.Proofs.YtbjligjmckilcaaDoor
