/- The walk of SyntaxBack. -/
import Derived.Test.YtlefgffnjcmfoaaDoorMG
namespace Go.Proofs.YtlefgffnjcmfoaaDoor
open Go.RowKit Go.Maps Go.ChangeMaps Go.MapKept
open Lx Sy Ch
attribute [local go_sem ↓] Go.wp_at_zero Go.wp_at_succ
section
variable {E : World → Prop} {w : World}
set_option maxHeartbeats 8000000 in
set_option maxRecDepth 100000 in
theorem back_walk (A : YApi E) (hE : E w) {x : Value} {p : Pf} (hx : PfAt w x p) {s : S} : Calls Tryd.prog 3 #[x, .string (bs s)] w (Reads w (.bool true)) := by
  obtain ⟨cs, rfl, hsz, -⟩ := hx.cells
  have hz := bs_size s
  obtain ⟨t, htt⟩ : ∃ t, t = s.take 900 := ⟨_, rfl⟩
  have htl : t.length ≤ 900 := by rw [htt]; simp; omega
  have hts : t.length ≤ s.length := by rw [htt]; simp; omega
  have hmin : min (s.length : Int) 900 = (t.length : Int) := by rw [htt]; simp; omega
  have hext : (bs s).extract 0 t.length = bs t := by rw [htt]; exact cut_at s 900
  clear htt hsz
  unfold Reads
  have HE := Lib.hid hE
  have HB := Lib.hid ((Below.refl w.heap.size w).alloc (Nat.le_refl _) (.cells cs 24))
  have K2 := Lib.hid (Box.new hx)
  replace HE := Lib.hid (A.keep HE.out HB.out)
  clear hE hx
  go_enter Tryd.func3, Tryd.ntmps3
  go_upto_region 1 with fail
  obtain ⟨k2, hk2⟩ : ∃ q, q = w.heap.size := ⟨_, rfl⟩
  rw [← hk2] at K2 ⊢
  generalize w.alloc (.cells cs 24) = u0 at *
  clear hk2
  refine wp_region_lit ?_
  refine list_callP rfl (ev_call0 (enters_of Tryd.func7 (by kernel_rfl) rfl)) (small_any A HE.out) ?_
  rintro e1 u1 ⟨rfl, b1⟩
  refine ⟨_, rfl, ?_⟩
  replace K2 := Lib.hid (K2.out.keep b1)
  replace HE := Lib.hid (A.keep HE.out b1)
  replace HB := Lib.hid (HB.out.trans (b1.mono HB.out.size))
  clear b1
  simp only [Act.put, List.setIfInBounds_toArray, List.set_cons_zero, List.set_cons_succ]
  refine list_ev (v := .bool true) rfl (ev_assign rfl rfl) ?_
  simp only [Act.put, List.setIfInBounds_toArray, List.set_cons_zero, List.set_cons_succ]
  by_cases hf : fewP p = true
  · go_upto_region 2 with fail
    refine wp_region_lit ?_
    refine list_ev (v := .agg cs) rfl (K2.out.load rfl rfl) ?_
    simp only [Act.put, List.setIfInBounds_toArray, List.set_cons_zero, List.set_cons_succ]
    refine list_callP rfl (ev_call1 rfl (enters_of Tryd.func8 (by kernel_rfl) rfl)) (q_few hf K2.out.pf) ?_
    rintro e2 u2 ⟨rfl, b2⟩
    refine ⟨_, rfl, ?_⟩
    replace K2 := Lib.hid (K2.out.keep b2)
    replace HE := Lib.hid (A.keep HE.out b2)
    replace HB := Lib.hid (HB.out.trans (b2.mono HB.out.size))
    clear b2
    simp only [Act.put, List.setIfInBounds_toArray, List.set_cons_zero, List.set_cons_succ]
    refine list_ev (v := .bool false) rfl (by go_simp) ?_
    simp only [Act.put, List.setIfInBounds_toArray, List.set_cons_zero, List.set_cons_succ]
    by_cases hr : Rt p
    · go_upto_region 4 with fail
      refine wp_region_lit ?_
      refine list_ev (v := .agg cs) rfl (K2.out.load rfl rfl) ?_
      simp only [Act.put, List.setIfInBounds_toArray, List.set_cons_zero, List.set_cons_succ]
      refine list_callP rfl (ev_call1 rfl (enters_of Tryd.func9 (by kernel_rfl) rfl)) (A.print_eq (printS_right hr) HE.out K2.out.pf hf) ?_
      rintro e3 u3 ⟨rfl, b3⟩
      refine ⟨_, rfl, ?_⟩
      replace K2 := Lib.hid (K2.out.keep b3)
      replace HE := Lib.hid (A.keep HE.out b3)
      replace HB := Lib.hid (HB.out.trans (b3.mono HB.out.size))
      clear b3
      simp only [Act.put, List.setIfInBounds_toArray, List.set_cons_zero, List.set_cons_succ]
      refine list_ev (v := .tuple #[.string (bs (text p)), .int .i64 0]) rfl (ev_move rfl rfl) ?_
      simp only [Act.put, List.setIfInBounds_toArray, List.set_cons_zero, List.set_cons_succ]
      refine list_ev (v := .string (bs (text p))) rfl (by go_simp) ?_
      simp only [Act.put, List.setIfInBounds_toArray, List.set_cons_zero, List.set_cons_succ]
      refine list_ev (v := .int .i64 0) rfl (by go_simp) ?_
      simp only [Act.put, List.setIfInBounds_toArray, List.set_cons_zero, List.set_cons_succ]
      refine list_ev (v := .string (bs (text p))) rfl (ev_assign rfl rfl) ?_
      simp only [Act.put, List.setIfInBounds_toArray, List.set_cons_zero, List.set_cons_succ]
      refine list_ev (v := .int .i64 0) rfl (ev_assign rfl rfl) ?_
      simp only [Act.put, List.setIfInBounds_toArray, List.set_cons_zero, List.set_cons_succ]
      go_upto_region 5 with fail
      refine wp_region_lit ?_
      refine list_ev (v := .agg cs) rfl (K2.out.load rfl rfl) ?_
      simp only [Act.put, List.setIfInBounds_toArray, List.set_cons_zero, List.set_cons_succ]
      refine list_callP rfl (ev_call1 rfl (enters_of Tryd.func10 (by kernel_rfl) rfl)) (A.right_eq (decide_eq_true hr) HE.out K2.out.pf hf) ?_
      rintro e4 u4 ⟨rfl, b4⟩
      refine ⟨_, rfl, ?_⟩
      replace K2 := Lib.hid (K2.out.keep b4)
      replace HE := Lib.hid (A.keep HE.out b4)
      replace HB := Lib.hid (HB.out.trans (b4.mono HB.out.size))
      clear b4
      simp only [Act.put, List.setIfInBounds_toArray, List.set_cons_zero, List.set_cons_succ]
      go_upto_region 6 with fail
      refine wp_region_lit ?_
      refine list_ev (v := .string (bs (text p))) rfl (ev_move rfl rfl) ?_
      simp only [Act.put, List.setIfInBounds_toArray, List.set_cons_zero, List.set_cons_succ]
      refine list_callP rfl (ev_call1 rfl (enters_of Tryd.func11 (by kernel_rfl) rfl)) (A.parse_eq (parseS_text hr) HE.out (Nat.le_trans (text_len hr) (by decide))) ?_
      rintro e5 u5 ⟨c8, rfl, p8, b5⟩
      refine ⟨_, rfl, ?_⟩
      replace K2 := Lib.hid (K2.out.keep b5)
      replace HE := Lib.hid (A.keep HE.out b5)
      replace HB := Lib.hid (HB.out.trans (b5.mono HB.out.size))
      clear b5
      simp only [Act.put, List.setIfInBounds_toArray, List.set_cons_zero, List.set_cons_succ]
      refine list_ev (v := .tuple #[.agg c8, .int .i64 0, .int .i64 0]) rfl (ev_move rfl rfl) ?_
      simp only [Act.put, List.setIfInBounds_toArray, List.set_cons_zero, List.set_cons_succ]
      refine list_ev (v := .agg c8) rfl (by go_simp) ?_
      simp only [Act.put, List.setIfInBounds_toArray, List.set_cons_zero, List.set_cons_succ]
      refine list_ev (v := .int .i64 0) rfl (by go_simp) ?_
      simp only [Act.put, List.setIfInBounds_toArray, List.set_cons_zero, List.set_cons_succ]
      refine list_ev (v := .int .i64 0) rfl (by go_simp) ?_
      simp only [Act.put, List.setIfInBounds_toArray, List.set_cons_zero, List.set_cons_succ]
      refine list_new p8 (by simp) (by decide) rfl ?_
      simp only [Act.put, List.setIfInBounds_toArray, List.set_cons_zero, List.set_cons_succ]
      have K8 := Lib.hid (Box.new p8)
      have b6 : Below u5.heap.size u5 (u5.alloc (.cells c8 24)) := (Below.refl _ _).alloc (Nat.le_refl _) _
      replace K2 := Lib.hid (K2.out.keep b6)
      replace HE := Lib.hid (A.keep HE.out b6)
      replace HB := Lib.hid (HB.out.trans (b6.mono HB.out.size))
      clear b6
      obtain ⟨k8, hk8⟩ : ∃ q, q = u5.heap.size := ⟨_, rfl⟩
      rw [← hk8] at K8 ⊢
      clear hk8
      generalize u5.alloc (.cells c8 24) = u6 at *
      refine list_ev (v := .int .i64 0) rfl (ev_assign rfl rfl) ?_
      simp only [Act.put, List.setIfInBounds_toArray, List.set_cons_zero, List.set_cons_succ]
      refine list_ev (v := .int .i64 0) rfl (ev_assign rfl rfl) ?_
      simp only [Act.put, List.setIfInBounds_toArray, List.set_cons_zero, List.set_cons_succ]
      go_upto_region 7 with fail
      refine wp_region_lit ?_
      refine list_ev (v := .int .i64 0) rfl (ev_move rfl rfl) ?_
      simp only [Act.put, List.setIfInBounds_toArray, List.set_cons_zero, List.set_cons_succ]
      refine list_ev (v := .bool false) rfl (by go_simp) ?_
      simp only [Act.put, List.setIfInBounds_toArray, List.set_cons_zero, List.set_cons_succ]
      refine list_ev (v := .bool false) rfl (ev_move rfl rfl) ?_
      simp only [Act.put, List.setIfInBounds_toArray, List.set_cons_zero, List.set_cons_succ]
      refine list_ev (v := .int .i64 0) ((Ch.want_at rfl rfl rfl).trans rfl) (ev_move rfl rfl) ?_
      simp only [Act.put, List.setIfInBounds_toArray, List.set_cons_zero, List.set_cons_succ]
      refine list_ev (v := .bool false) ((Ch.want_at rfl rfl rfl).trans rfl) (by go_simp) ?_
      simp only [Act.put, List.setIfInBounds_toArray, List.set_cons_zero, List.set_cons_succ]
      refine list_ev (v := .bool false) rfl (by go_simp) ?_
      simp only [Act.put, List.setIfInBounds_toArray, List.set_cons_zero, List.set_cons_succ]
      refine list_ev (v := .bool false) rfl (ev_move rfl rfl) ?_
      simp only [Act.put, List.setIfInBounds_toArray, List.set_cons_zero, List.set_cons_succ]
      refine list_ev (v := .agg cs) ((Ch.want_at rfl rfl rfl).trans rfl) (K2.out.load rfl rfl) ?_
      simp only [Act.put, List.setIfInBounds_toArray, List.set_cons_zero, List.set_cons_succ]
      refine list_ev (v := .agg c8) ((Ch.want_at rfl rfl rfl).trans rfl) (K8.out.load rfl rfl) ?_
      simp only [Act.put, List.setIfInBounds_toArray, List.set_cons_zero, List.set_cons_succ]
      refine list_callP ((Ch.want_at rfl rfl rfl).trans rfl) (ev_call2 rfl rfl (enters_of Tryd.func12 (by kernel_rfl) rfl)) (q_same (decide_eq_true rfl) K2.out.pf K8.out.pf hf) ?_
      rintro e7 u7 ⟨rfl, b7⟩
      refine ⟨_, rfl, ?_⟩
      replace K2 := Lib.hid (K2.out.keep b7)
      replace K8 := Lib.hid (K8.out.keep b7)
      replace HE := Lib.hid (A.keep HE.out b7)
      replace HB := Lib.hid (HB.out.trans (b7.mono HB.out.size))
      clear b7
      simp only [Act.put, List.setIfInBounds_toArray, List.set_cons_zero, List.set_cons_succ]
      refine list_ev (v := .bool false) ((Ch.want_at rfl rfl rfl).trans rfl) (by go_simp) ?_
      simp only [Act.put, List.setIfInBounds_toArray, List.set_cons_zero, List.set_cons_succ]
      refine list_ev (v := .bool false) rfl (by go_simp) ?_
      simp only [Act.put, List.setIfInBounds_toArray, List.set_cons_zero, List.set_cons_succ]
      clear hr
      rcases parseS_cases t (by omega) with ⟨q, ht, hq⟩ | ⟨i, e, ht, hne, hi0, hi9⟩
      · clear hf
        go_upto_region 11 with fail
        refine wp_region_lit ?_
        refine list_ev (v := .string (bs s)) rfl (ev_move rfl rfl) ?_
        simp only [Act.put, List.setIfInBounds_toArray, List.set_cons_zero, List.set_cons_succ]
        refine list_ev (v := .string (bs s)) rfl (ev_move rfl rfl) ?_
        simp only [Act.put, List.setIfInBounds_toArray, List.set_cons_zero, List.set_cons_succ]
        refine list_ev (v := .int .i64 (s.length : Int)) rfl (by go_simp) ?_
        simp only [Act.put, List.setIfInBounds_toArray, List.set_cons_zero, List.set_cons_succ]
        refine list_ev (v := .int .i64 (t.length : Int)) rfl (by go_simp; split <;> omega) ?_
        simp only [Act.put, List.setIfInBounds_toArray, List.set_cons_zero, List.set_cons_succ]
        refine list_ev (v := .string (bs t)) rfl (by go_simp) ?_
        simp only [Act.put, List.setIfInBounds_toArray, List.set_cons_zero, List.set_cons_succ]
        refine list_callP rfl (ev_call1 rfl (enters_of Tryd.func11 (by kernel_rfl) rfl)) (A.parse_eq ht HE.out (by omega)) ?_
        rintro e8 u8 ⟨c11, rfl, p11, b8⟩
        refine ⟨_, rfl, ?_⟩
        replace K2 := Lib.hid (K2.out.keep b8)
        replace K8 := Lib.hid (K8.out.keep b8)
        replace HE := Lib.hid (A.keep HE.out b8)
        replace HB := Lib.hid (HB.out.trans (b8.mono HB.out.size))
        clear b8
        simp only [Act.put, List.setIfInBounds_toArray, List.set_cons_zero, List.set_cons_succ]
        refine list_ev (v := .tuple #[.agg c11, .int .i64 0, .int .i64 0]) rfl (ev_move rfl rfl) ?_
        simp only [Act.put, List.setIfInBounds_toArray, List.set_cons_zero, List.set_cons_succ]
        refine list_ev (v := .agg c11) rfl (by go_simp) ?_
        simp only [Act.put, List.setIfInBounds_toArray, List.set_cons_zero, List.set_cons_succ]
        refine list_ev (v := .int .i64 0) rfl (by go_simp) ?_
        simp only [Act.put, List.setIfInBounds_toArray, List.set_cons_zero, List.set_cons_succ]
        refine list_ev (v := .int .i64 0) rfl (by go_simp) ?_
        simp only [Act.put, List.setIfInBounds_toArray, List.set_cons_zero, List.set_cons_succ]
        refine list_new p11 (by simp) (by decide) rfl ?_
        simp only [Act.put, List.setIfInBounds_toArray, List.set_cons_zero, List.set_cons_succ]
        have K11 := Lib.hid (Box.new p11)
        have b9 : Below u8.heap.size u8 (u8.alloc (.cells c11 24)) := (Below.refl _ _).alloc (Nat.le_refl _) _
        replace K2 := Lib.hid (K2.out.keep b9)
        replace K8 := Lib.hid (K8.out.keep b9)
        replace HE := Lib.hid (A.keep HE.out b9)
        replace HB := Lib.hid (HB.out.trans (b9.mono HB.out.size))
        clear b9
        obtain ⟨k11, hk11⟩ : ∃ q, q = u8.heap.size := ⟨_, rfl⟩
        rw [← hk11] at K11 ⊢
        clear hk11
        generalize u8.alloc (.cells c11 24) = u9 at *
        refine list_ev (v := .int .i64 0) rfl (ev_assign rfl rfl) ?_
        simp only [Act.put, List.setIfInBounds_toArray, List.set_cons_zero, List.set_cons_succ]
        refine list_ev (v := .int .i64 0) rfl (ev_assign rfl rfl) ?_
        simp only [Act.put, List.setIfInBounds_toArray, List.set_cons_zero, List.set_cons_succ]
        go_upto_region 12 with fail
        refine wp_region_lit ?_
        refine list_ev (v := .int .i64 0) rfl (ev_move rfl rfl) ?_
        simp only [Act.put, List.setIfInBounds_toArray, List.set_cons_zero, List.set_cons_succ]
        refine list_ev (v := .bool false) rfl (by go_simp) ?_
        simp only [Act.put, List.setIfInBounds_toArray, List.set_cons_zero, List.set_cons_succ]
        go_upto_region 14 with fail
        refine wp_region_lit ?_
        refine list_ev (v := .agg c11) rfl (K11.out.load rfl rfl) ?_
        simp only [Act.put, List.setIfInBounds_toArray, List.set_cons_zero, List.set_cons_succ]
        refine list_callP rfl (ev_call1 rfl (enters_of Tryd.func9 (by kernel_rfl) rfl)) (A.print_eq (printS_right hq) HE.out K11.out.pf (few_of hq)) ?_
        rintro e10 u10 ⟨rfl, b10⟩
        refine ⟨_, rfl, ?_⟩
        replace K2 := Lib.hid (K2.out.keep b10)
        replace K8 := Lib.hid (K8.out.keep b10)
        replace K11 := Lib.hid (K11.out.keep b10)
        replace HE := Lib.hid (A.keep HE.out b10)
        replace HB := Lib.hid (HB.out.trans (b10.mono HB.out.size))
        clear b10
        simp only [Act.put, List.setIfInBounds_toArray, List.set_cons_zero, List.set_cons_succ]
        refine list_ev (v := .tuple #[.string (bs (text q)), .int .i64 0]) rfl (ev_move rfl rfl) ?_
        simp only [Act.put, List.setIfInBounds_toArray, List.set_cons_zero, List.set_cons_succ]
        refine list_ev (v := .string (bs (text q))) rfl (by go_simp) ?_
        simp only [Act.put, List.setIfInBounds_toArray, List.set_cons_zero, List.set_cons_succ]
        refine list_ev (v := .int .i64 0) rfl (by go_simp) ?_
        simp only [Act.put, List.setIfInBounds_toArray, List.set_cons_zero, List.set_cons_succ]
        refine list_ev (v := .string (bs (text q))) rfl (ev_assign rfl rfl) ?_
        simp only [Act.put, List.setIfInBounds_toArray, List.set_cons_zero, List.set_cons_succ]
        refine list_ev (v := .int .i64 0) rfl (ev_assign rfl rfl) ?_
        simp only [Act.put, List.setIfInBounds_toArray, List.set_cons_zero, List.set_cons_succ]
        go_upto_region 15 with fail
        refine wp_region_lit ?_
        refine list_ev (v := .string (bs (text q))) rfl (ev_move rfl rfl) ?_
        simp only [Act.put, List.setIfInBounds_toArray, List.set_cons_zero, List.set_cons_succ]
        refine list_callP rfl (ev_call1 rfl (enters_of Tryd.func11 (by kernel_rfl) rfl)) (A.parse_eq (parseS_text hq) HE.out (Nat.le_trans (text_len hq) (by decide))) ?_
        rintro e11 u11 ⟨c16, rfl, p16, b11⟩
        refine ⟨_, rfl, ?_⟩
        replace K2 := Lib.hid (K2.out.keep b11)
        replace K8 := Lib.hid (K8.out.keep b11)
        replace K11 := Lib.hid (K11.out.keep b11)
        replace HE := Lib.hid (A.keep HE.out b11)
        replace HB := Lib.hid (HB.out.trans (b11.mono HB.out.size))
        clear b11
        simp only [Act.put, List.setIfInBounds_toArray, List.set_cons_zero, List.set_cons_succ]
        refine list_ev (v := .tuple #[.agg c16, .int .i64 0, .int .i64 0]) rfl (ev_move rfl rfl) ?_
        simp only [Act.put, List.setIfInBounds_toArray, List.set_cons_zero, List.set_cons_succ]
        refine list_ev (v := .agg c16) rfl (by go_simp) ?_
        simp only [Act.put, List.setIfInBounds_toArray, List.set_cons_zero, List.set_cons_succ]
        refine list_ev (v := .int .i64 0) rfl (by go_simp) ?_
        simp only [Act.put, List.setIfInBounds_toArray, List.set_cons_zero, List.set_cons_succ]
        refine list_ev (v := .int .i64 0) rfl (by go_simp) ?_
        simp only [Act.put, List.setIfInBounds_toArray, List.set_cons_zero, List.set_cons_succ]
        refine list_new p16 (by simp) (by decide) rfl ?_
        simp only [Act.put, List.setIfInBounds_toArray, List.set_cons_zero, List.set_cons_succ]
        have K16 := Lib.hid (Box.new p16)
        have b12 : Below u11.heap.size u11 (u11.alloc (.cells c16 24)) := (Below.refl _ _).alloc (Nat.le_refl _) _
        replace K2 := Lib.hid (K2.out.keep b12)
        replace K8 := Lib.hid (K8.out.keep b12)
        replace K11 := Lib.hid (K11.out.keep b12)
        replace HE := Lib.hid (A.keep HE.out b12)
        replace HB := Lib.hid (HB.out.trans (b12.mono HB.out.size))
        clear b12
        obtain ⟨k16, hk16⟩ : ∃ q, q = u11.heap.size := ⟨_, rfl⟩
        rw [← hk16] at K16 ⊢
        clear hk16
        generalize u11.alloc (.cells c16 24) = u12 at *
        refine list_ev (v := .int .i64 0) rfl (ev_assign rfl rfl) ?_
        simp only [Act.put, List.setIfInBounds_toArray, List.set_cons_zero, List.set_cons_succ]
        refine list_ev (v := .int .i64 0) rfl (ev_assign rfl rfl) ?_
        simp only [Act.put, List.setIfInBounds_toArray, List.set_cons_zero, List.set_cons_succ]
        go_upto_region 16 with fail
        refine wp_region_lit ?_
        refine list_ev (v := .bool true) rfl (ev_move rfl rfl) ?_
        simp only [Act.put, List.setIfInBounds_toArray, List.set_cons_zero, List.set_cons_succ]
        refine list_ev (v := .bool true) rfl (ev_move rfl rfl) ?_
        simp only [Act.put, List.setIfInBounds_toArray, List.set_cons_zero, List.set_cons_succ]
        refine list_ev (v := .int .i64 0) ((Ch.want_at rfl rfl rfl).trans rfl) (ev_move rfl rfl) ?_
        simp only [Act.put, List.setIfInBounds_toArray, List.set_cons_zero, List.set_cons_succ]
        refine list_ev (v := .bool true) ((Ch.want_at rfl rfl rfl).trans rfl) (by go_simp) ?_
        simp only [Act.put, List.setIfInBounds_toArray, List.set_cons_zero, List.set_cons_succ]
        refine list_ev (v := .bool true) rfl (by go_simp) ?_
        simp only [Act.put, List.setIfInBounds_toArray, List.set_cons_zero, List.set_cons_succ]
        refine list_ev (v := .bool true) rfl (ev_move rfl rfl) ?_
        simp only [Act.put, List.setIfInBounds_toArray, List.set_cons_zero, List.set_cons_succ]
        refine list_ev (v := .agg c11) ((Ch.want_at rfl rfl rfl).trans rfl) (K11.out.load rfl rfl) ?_
        simp only [Act.put, List.setIfInBounds_toArray, List.set_cons_zero, List.set_cons_succ]
        refine list_callP ((Ch.want_at rfl rfl rfl).trans rfl) (ev_call1 rfl (enters_of Tryd.func10 (by kernel_rfl) rfl)) (A.right_eq (decide_eq_true hq) HE.out K11.out.pf (few_of hq)) ?_
        rintro e13 u13 ⟨rfl, b13⟩
        refine ⟨_, rfl, ?_⟩
        replace K2 := Lib.hid (K2.out.keep b13)
        replace K8 := Lib.hid (K8.out.keep b13)
        replace K11 := Lib.hid (K11.out.keep b13)
        replace K16 := Lib.hid (K16.out.keep b13)
        replace HE := Lib.hid (A.keep HE.out b13)
        replace HB := Lib.hid (HB.out.trans (b13.mono HB.out.size))
        clear b13
        simp only [Act.put, List.setIfInBounds_toArray, List.set_cons_zero, List.set_cons_succ]
        refine list_ev (v := .bool true) rfl (by go_simp) ?_
        simp only [Act.put, List.setIfInBounds_toArray, List.set_cons_zero, List.set_cons_succ]
        refine list_ev (v := .bool true) rfl (ev_move rfl rfl) ?_
        simp only [Act.put, List.setIfInBounds_toArray, List.set_cons_zero, List.set_cons_succ]
        refine list_ev (v := .int .i64 0) ((Ch.want_at rfl rfl rfl).trans rfl) (ev_move rfl rfl) ?_
        simp only [Act.put, List.setIfInBounds_toArray, List.set_cons_zero, List.set_cons_succ]
        refine list_ev (v := .bool true) ((Ch.want_at rfl rfl rfl).trans rfl) (by go_simp) ?_
        simp only [Act.put, List.setIfInBounds_toArray, List.set_cons_zero, List.set_cons_succ]
        refine list_ev (v := .bool true) rfl (by go_simp) ?_
        simp only [Act.put, List.setIfInBounds_toArray, List.set_cons_zero, List.set_cons_succ]
        refine list_ev (v := .bool true) rfl (ev_move rfl rfl) ?_
        simp only [Act.put, List.setIfInBounds_toArray, List.set_cons_zero, List.set_cons_succ]
        refine list_ev (v := .int .i64 0) ((Ch.want_at rfl rfl rfl).trans rfl) (ev_move rfl rfl) ?_
        simp only [Act.put, List.setIfInBounds_toArray, List.set_cons_zero, List.set_cons_succ]
        refine list_ev (v := .bool true) ((Ch.want_at rfl rfl rfl).trans rfl) (by go_simp) ?_
        simp only [Act.put, List.setIfInBounds_toArray, List.set_cons_zero, List.set_cons_succ]
        refine list_ev (v := .bool true) rfl (by go_simp) ?_
        simp only [Act.put, List.setIfInBounds_toArray, List.set_cons_zero, List.set_cons_succ]
        refine list_ev (v := .bool true) rfl (ev_move rfl rfl) ?_
        simp only [Act.put, List.setIfInBounds_toArray, List.set_cons_zero, List.set_cons_succ]
        refine list_ev (v := .agg c11) ((Ch.want_at rfl rfl rfl).trans rfl) (K11.out.load rfl rfl) ?_
        simp only [Act.put, List.setIfInBounds_toArray, List.set_cons_zero, List.set_cons_succ]
        refine list_ev (v := .agg c16) ((Ch.want_at rfl rfl rfl).trans rfl) (K16.out.load rfl rfl) ?_
        simp only [Act.put, List.setIfInBounds_toArray, List.set_cons_zero, List.set_cons_succ]
        refine list_callP ((Ch.want_at rfl rfl rfl).trans rfl) (ev_call2 rfl rfl (enters_of Tryd.func12 (by kernel_rfl) rfl)) (q_same (decide_eq_true rfl) K11.out.pf K16.out.pf (few_of hq)) ?_
        rintro e14 u14 ⟨rfl, b14⟩
        refine ⟨_, rfl, ?_⟩
        replace K2 := Lib.hid (K2.out.keep b14)
        replace K8 := Lib.hid (K8.out.keep b14)
        replace K11 := Lib.hid (K11.out.keep b14)
        replace K16 := Lib.hid (K16.out.keep b14)
        replace HE := Lib.hid (A.keep HE.out b14)
        replace HB := Lib.hid (HB.out.trans (b14.mono HB.out.size))
        clear b14
        simp only [Act.put, List.setIfInBounds_toArray, List.set_cons_zero, List.set_cons_succ]
        refine list_ev (v := .bool true) rfl (by go_simp) ?_
        simp only [Act.put, List.setIfInBounds_toArray, List.set_cons_zero, List.set_cons_succ]
        refine list_ev (v := .bool true) rfl (ev_assign rfl rfl) ?_
        simp only [Act.put, List.setIfInBounds_toArray, List.set_cons_zero, List.set_cons_succ]
        go_wp2
        go_ret
        exact ⟨rfl, HB.out⟩
      · clear hf
        have hi9 : i ≤ 900 := by omega
        have he9 : (e != 0) = true := by simpa using hne
        clear hne
        go_upto_region 11 with fail
        refine wp_region_lit ?_
        refine list_ev (v := .string (bs s)) rfl (ev_move rfl rfl) ?_
        simp only [Act.put, List.setIfInBounds_toArray, List.set_cons_zero, List.set_cons_succ]
        refine list_ev (v := .string (bs s)) rfl (ev_move rfl rfl) ?_
        simp only [Act.put, List.setIfInBounds_toArray, List.set_cons_zero, List.set_cons_succ]
        refine list_ev (v := .int .i64 (s.length : Int)) rfl (by go_simp) ?_
        simp only [Act.put, List.setIfInBounds_toArray, List.set_cons_zero, List.set_cons_succ]
        refine list_ev (v := .int .i64 (t.length : Int)) rfl (by go_simp; split <;> omega) ?_
        simp only [Act.put, List.setIfInBounds_toArray, List.set_cons_zero, List.set_cons_succ]
        refine list_ev (v := .string (bs t)) rfl (by go_simp) ?_
        simp only [Act.put, List.setIfInBounds_toArray, List.set_cons_zero, List.set_cons_succ]
        refine list_callP rfl (ev_call1 rfl (enters_of Tryd.func11 (by kernel_rfl) rfl)) (A.parse_eq ht HE.out (by omega)) ?_
        rintro e8 u8 ⟨c11, rfl, p11, b8⟩
        refine ⟨_, rfl, ?_⟩
        replace K2 := Lib.hid (K2.out.keep b8)
        replace K8 := Lib.hid (K8.out.keep b8)
        replace HE := Lib.hid (A.keep HE.out b8)
        replace HB := Lib.hid (HB.out.trans (b8.mono HB.out.size))
        clear b8
        simp only [Act.put, List.setIfInBounds_toArray, List.set_cons_zero, List.set_cons_succ]
        refine list_ev (v := .tuple #[.agg c11, .int .i64 i, .int .i64 e]) rfl (ev_move rfl rfl) ?_
        simp only [Act.put, List.setIfInBounds_toArray, List.set_cons_zero, List.set_cons_succ]
        refine list_ev (v := .agg c11) rfl (by go_simp) ?_
        simp only [Act.put, List.setIfInBounds_toArray, List.set_cons_zero, List.set_cons_succ]
        refine list_ev (v := .int .i64 i) rfl (by go_simp) ?_
        simp only [Act.put, List.setIfInBounds_toArray, List.set_cons_zero, List.set_cons_succ]
        refine list_ev (v := .int .i64 e) rfl (by go_simp) ?_
        simp only [Act.put, List.setIfInBounds_toArray, List.set_cons_zero, List.set_cons_succ]
        refine list_new p11 (by simp) (by decide) rfl ?_
        simp only [Act.put, List.setIfInBounds_toArray, List.set_cons_zero, List.set_cons_succ]
        have K11 := Lib.hid (Box.new p11)
        have b9 : Below u8.heap.size u8 (u8.alloc (.cells c11 24)) := (Below.refl _ _).alloc (Nat.le_refl _) _
        replace K2 := Lib.hid (K2.out.keep b9)
        replace K8 := Lib.hid (K8.out.keep b9)
        replace HE := Lib.hid (A.keep HE.out b9)
        replace HB := Lib.hid (HB.out.trans (b9.mono HB.out.size))
        clear b9
        obtain ⟨k11, hk11⟩ : ∃ q, q = u8.heap.size := ⟨_, rfl⟩
        rw [← hk11] at K11 ⊢
        clear hk11
        generalize u8.alloc (.cells c11 24) = u9 at *
        refine list_ev (v := .int .i64 i) rfl (ev_assign rfl rfl) ?_
        simp only [Act.put, List.setIfInBounds_toArray, List.set_cons_zero, List.set_cons_succ]
        refine list_ev (v := .int .i64 e) rfl (ev_assign rfl rfl) ?_
        simp only [Act.put, List.setIfInBounds_toArray, List.set_cons_zero, List.set_cons_succ]
        go_upto_region 12 with fail
        refine wp_region_lit ?_
        refine list_ev (v := .int .i64 e) rfl (ev_move rfl rfl) ?_
        simp only [Act.put, List.setIfInBounds_toArray, List.set_cons_zero, List.set_cons_succ]
        refine list_ev (v := .bool true) rfl (by go_simp) ?_
        simp only [Act.put, List.setIfInBounds_toArray, List.set_cons_zero, List.set_cons_succ]
        go_upto_region 13 with fail
        refine wp_region_lit ?_
        refine list_ev (v := .bool true) rfl (ev_move rfl rfl) ?_
        simp only [Act.put, List.setIfInBounds_toArray, List.set_cons_zero, List.set_cons_succ]
        refine list_ev (v := .bool true) rfl (ev_move rfl rfl) ?_
        simp only [Act.put, List.setIfInBounds_toArray, List.set_cons_zero, List.set_cons_succ]
        refine list_ev (v := .agg c11) ((Ch.want_at rfl rfl rfl).trans rfl) (K11.out.load rfl rfl) ?_
        simp only [Act.put, List.setIfInBounds_toArray, List.set_cons_zero, List.set_cons_succ]
        refine list_ev (v := .agg zC) ((Ch.want_at rfl rfl rfl).trans rfl) (by unfold zC; go_simp; try rfl) ?_
        simp only [Act.put, List.setIfInBounds_toArray, List.set_cons_zero, List.set_cons_succ]
        refine list_callP ((Ch.want_at rfl rfl rfl).trans rfl) (ev_call2 rfl rfl (enters_of Tryd.func12 (by kernel_rfl) rfl)) (q_same (q := zero) (decide_eq_true rfl) K11.out.pf ⟨.slice none 0 0, rfl, TxAt.nil _⟩ few_zero) ?_
        rintro e10 u10 ⟨rfl, b10⟩
        refine ⟨_, rfl, ?_⟩
        replace K2 := Lib.hid (K2.out.keep b10)
        replace K8 := Lib.hid (K8.out.keep b10)
        replace K11 := Lib.hid (K11.out.keep b10)
        replace HE := Lib.hid (A.keep HE.out b10)
        replace HB := Lib.hid (HB.out.trans (b10.mono HB.out.size))
        clear b10
        simp only [Act.put, List.setIfInBounds_toArray, List.set_cons_zero, List.set_cons_succ]
        refine list_ev (v := .bool true) rfl (by go_simp) ?_
        simp only [Act.put, List.setIfInBounds_toArray, List.set_cons_zero, List.set_cons_succ]
        refine list_ev (v := .bool true) rfl (ev_move rfl rfl) ?_
        simp only [Act.put, List.setIfInBounds_toArray, List.set_cons_zero, List.set_cons_succ]
        refine list_ev (v := .int .i64 i) ((Ch.want_at rfl rfl rfl).trans rfl) (ev_move rfl rfl) ?_
        simp only [Act.put, List.setIfInBounds_toArray, List.set_cons_zero, List.set_cons_succ]
        refine list_ev (v := .bool true) ((Ch.want_at rfl rfl rfl).trans rfl) (by go_simp) ?_
        simp only [Act.put, List.setIfInBounds_toArray, List.set_cons_zero, List.set_cons_succ]
        refine list_ev (v := .bool true) rfl (by go_simp) ?_
        simp only [Act.put, List.setIfInBounds_toArray, List.set_cons_zero, List.set_cons_succ]
        refine list_ev (v := .bool true) rfl (ev_move rfl rfl) ?_
        simp only [Act.put, List.setIfInBounds_toArray, List.set_cons_zero, List.set_cons_succ]
        refine list_ev (v := .int .i64 i) ((Ch.want_at rfl rfl rfl).trans rfl) (ev_move rfl rfl) ?_
        simp only [Act.put, List.setIfInBounds_toArray, List.set_cons_zero, List.set_cons_succ]
        refine list_ev (v := .bool true) ((Ch.want_at rfl rfl rfl).trans rfl) (by go_simp) ?_
        simp only [Act.put, List.setIfInBounds_toArray, List.set_cons_zero, List.set_cons_succ]
        refine list_ev (v := .bool true) rfl (by go_simp) ?_
        simp only [Act.put, List.setIfInBounds_toArray, List.set_cons_zero, List.set_cons_succ]
        refine list_ev (v := .bool true) rfl (ev_assign rfl rfl) ?_
        simp only [Act.put, List.setIfInBounds_toArray, List.set_cons_zero, List.set_cons_succ]
        go_wp2
        go_ret
        exact ⟨rfl, HB.out⟩
    · go_upto_region 4 with fail
      refine wp_region_lit ?_
      refine list_ev (v := .agg cs) rfl (K2.out.load rfl rfl) ?_
      simp only [Act.put, List.setIfInBounds_toArray, List.set_cons_zero, List.set_cons_succ]
      refine list_callP rfl (ev_call1 rfl (enters_of Tryd.func9 (by kernel_rfl) rfl)) (A.print_eq (printS_wrong hr) HE.out K2.out.pf hf) ?_
      rintro e3 u3 ⟨rfl, b3⟩
      refine ⟨_, rfl, ?_⟩
      replace K2 := Lib.hid (K2.out.keep b3)
      replace HE := Lib.hid (A.keep HE.out b3)
      replace HB := Lib.hid (HB.out.trans (b3.mono HB.out.size))
      clear b3
      simp only [Act.put, List.setIfInBounds_toArray, List.set_cons_zero, List.set_cons_succ]
      refine list_ev (v := .tuple #[.string (bs []), .int .i64 1]) rfl (ev_move rfl rfl) ?_
      simp only [Act.put, List.setIfInBounds_toArray, List.set_cons_zero, List.set_cons_succ]
      refine list_ev (v := .string (bs [])) rfl (by go_simp) ?_
      simp only [Act.put, List.setIfInBounds_toArray, List.set_cons_zero, List.set_cons_succ]
      refine list_ev (v := .int .i64 1) rfl (by go_simp) ?_
      simp only [Act.put, List.setIfInBounds_toArray, List.set_cons_zero, List.set_cons_succ]
      refine list_ev (v := .string (bs [])) rfl (ev_assign rfl rfl) ?_
      simp only [Act.put, List.setIfInBounds_toArray, List.set_cons_zero, List.set_cons_succ]
      refine list_ev (v := .int .i64 1) rfl (ev_assign rfl rfl) ?_
      simp only [Act.put, List.setIfInBounds_toArray, List.set_cons_zero, List.set_cons_succ]
      go_upto_region 5 with fail
      refine wp_region_lit ?_
      refine list_ev (v := .agg cs) rfl (K2.out.load rfl rfl) ?_
      simp only [Act.put, List.setIfInBounds_toArray, List.set_cons_zero, List.set_cons_succ]
      refine list_callP rfl (ev_call1 rfl (enters_of Tryd.func10 (by kernel_rfl) rfl)) (A.right_eq (decide_eq_false hr) HE.out K2.out.pf hf) ?_
      rintro e4 u4 ⟨rfl, b4⟩
      refine ⟨_, rfl, ?_⟩
      replace K2 := Lib.hid (K2.out.keep b4)
      replace HE := Lib.hid (A.keep HE.out b4)
      replace HB := Lib.hid (HB.out.trans (b4.mono HB.out.size))
      clear b4
      simp only [Act.put, List.setIfInBounds_toArray, List.set_cons_zero, List.set_cons_succ]
      go_upto_region 9 with fail
      refine wp_region_lit ?_
      refine list_ev (v := .int .i64 1) rfl (ev_move rfl rfl) ?_
      simp only [Act.put, List.setIfInBounds_toArray, List.set_cons_zero, List.set_cons_succ]
      refine list_ev (v := .bool false) rfl (by go_simp) ?_
      simp only [Act.put, List.setIfInBounds_toArray, List.set_cons_zero, List.set_cons_succ]
      refine list_ev (v := .bool false) rfl (ev_move rfl rfl) ?_
      simp only [Act.put, List.setIfInBounds_toArray, List.set_cons_zero, List.set_cons_succ]
      refine list_ev (v := .string (bs [])) ((Ch.want_at rfl rfl rfl).trans rfl) (ev_move rfl rfl) ?_
      simp only [Act.put, List.setIfInBounds_toArray, List.set_cons_zero, List.set_cons_succ]
      refine list_ev (v := .bool false) ((Ch.want_at rfl rfl rfl).trans rfl) (by have z := empty_yes; go_simp) ?_
      simp only [Act.put, List.setIfInBounds_toArray, List.set_cons_zero, List.set_cons_succ]
      refine list_ev (v := .bool false) rfl (by go_simp) ?_
      simp only [Act.put, List.setIfInBounds_toArray, List.set_cons_zero, List.set_cons_succ]
      clear hr
      rcases parseS_cases t (by omega) with ⟨q, ht, hq⟩ | ⟨i, e, ht, hne, hi0, hi9⟩
      · clear hf
        go_upto_region 11 with fail
        refine wp_region_lit ?_
        refine list_ev (v := .string (bs s)) rfl (ev_move rfl rfl) ?_
        simp only [Act.put, List.setIfInBounds_toArray, List.set_cons_zero, List.set_cons_succ]
        refine list_ev (v := .string (bs s)) rfl (ev_move rfl rfl) ?_
        simp only [Act.put, List.setIfInBounds_toArray, List.set_cons_zero, List.set_cons_succ]
        refine list_ev (v := .int .i64 (s.length : Int)) rfl (by go_simp) ?_
        simp only [Act.put, List.setIfInBounds_toArray, List.set_cons_zero, List.set_cons_succ]
        refine list_ev (v := .int .i64 (t.length : Int)) rfl (by go_simp; split <;> omega) ?_
        simp only [Act.put, List.setIfInBounds_toArray, List.set_cons_zero, List.set_cons_succ]
        refine list_ev (v := .string (bs t)) rfl (by go_simp) ?_
        simp only [Act.put, List.setIfInBounds_toArray, List.set_cons_zero, List.set_cons_succ]
        refine list_callP rfl (ev_call1 rfl (enters_of Tryd.func11 (by kernel_rfl) rfl)) (A.parse_eq ht HE.out (by omega)) ?_
        rintro e5 u5 ⟨c11, rfl, p11, b5⟩
        refine ⟨_, rfl, ?_⟩
        replace K2 := Lib.hid (K2.out.keep b5)
        replace HE := Lib.hid (A.keep HE.out b5)
        replace HB := Lib.hid (HB.out.trans (b5.mono HB.out.size))
        clear b5
        simp only [Act.put, List.setIfInBounds_toArray, List.set_cons_zero, List.set_cons_succ]
        refine list_ev (v := .tuple #[.agg c11, .int .i64 0, .int .i64 0]) rfl (ev_move rfl rfl) ?_
        simp only [Act.put, List.setIfInBounds_toArray, List.set_cons_zero, List.set_cons_succ]
        refine list_ev (v := .agg c11) rfl (by go_simp) ?_
        simp only [Act.put, List.setIfInBounds_toArray, List.set_cons_zero, List.set_cons_succ]
        refine list_ev (v := .int .i64 0) rfl (by go_simp) ?_
        simp only [Act.put, List.setIfInBounds_toArray, List.set_cons_zero, List.set_cons_succ]
        refine list_ev (v := .int .i64 0) rfl (by go_simp) ?_
        simp only [Act.put, List.setIfInBounds_toArray, List.set_cons_zero, List.set_cons_succ]
        refine list_new p11 (by simp) (by decide) rfl ?_
        simp only [Act.put, List.setIfInBounds_toArray, List.set_cons_zero, List.set_cons_succ]
        have K11 := Lib.hid (Box.new p11)
        have b6 : Below u5.heap.size u5 (u5.alloc (.cells c11 24)) := (Below.refl _ _).alloc (Nat.le_refl _) _
        replace K2 := Lib.hid (K2.out.keep b6)
        replace HE := Lib.hid (A.keep HE.out b6)
        replace HB := Lib.hid (HB.out.trans (b6.mono HB.out.size))
        clear b6
        obtain ⟨k11, hk11⟩ : ∃ q, q = u5.heap.size := ⟨_, rfl⟩
        rw [← hk11] at K11 ⊢
        clear hk11
        generalize u5.alloc (.cells c11 24) = u6 at *
        refine list_ev (v := .int .i64 0) rfl (ev_assign rfl rfl) ?_
        simp only [Act.put, List.setIfInBounds_toArray, List.set_cons_zero, List.set_cons_succ]
        refine list_ev (v := .int .i64 0) rfl (ev_assign rfl rfl) ?_
        simp only [Act.put, List.setIfInBounds_toArray, List.set_cons_zero, List.set_cons_succ]
        go_upto_region 12 with fail
        refine wp_region_lit ?_
        refine list_ev (v := .int .i64 0) rfl (ev_move rfl rfl) ?_
        simp only [Act.put, List.setIfInBounds_toArray, List.set_cons_zero, List.set_cons_succ]
        refine list_ev (v := .bool false) rfl (by go_simp) ?_
        simp only [Act.put, List.setIfInBounds_toArray, List.set_cons_zero, List.set_cons_succ]
        go_upto_region 14 with fail
        refine wp_region_lit ?_
        refine list_ev (v := .agg c11) rfl (K11.out.load rfl rfl) ?_
        simp only [Act.put, List.setIfInBounds_toArray, List.set_cons_zero, List.set_cons_succ]
        refine list_callP rfl (ev_call1 rfl (enters_of Tryd.func9 (by kernel_rfl) rfl)) (A.print_eq (printS_right hq) HE.out K11.out.pf (few_of hq)) ?_
        rintro e7 u7 ⟨rfl, b7⟩
        refine ⟨_, rfl, ?_⟩
        replace K2 := Lib.hid (K2.out.keep b7)
        replace K11 := Lib.hid (K11.out.keep b7)
        replace HE := Lib.hid (A.keep HE.out b7)
        replace HB := Lib.hid (HB.out.trans (b7.mono HB.out.size))
        clear b7
        simp only [Act.put, List.setIfInBounds_toArray, List.set_cons_zero, List.set_cons_succ]
        refine list_ev (v := .tuple #[.string (bs (text q)), .int .i64 0]) rfl (ev_move rfl rfl) ?_
        simp only [Act.put, List.setIfInBounds_toArray, List.set_cons_zero, List.set_cons_succ]
        refine list_ev (v := .string (bs (text q))) rfl (by go_simp) ?_
        simp only [Act.put, List.setIfInBounds_toArray, List.set_cons_zero, List.set_cons_succ]
        refine list_ev (v := .int .i64 0) rfl (by go_simp) ?_
        simp only [Act.put, List.setIfInBounds_toArray, List.set_cons_zero, List.set_cons_succ]
        refine list_ev (v := .string (bs (text q))) rfl (ev_assign rfl rfl) ?_
        simp only [Act.put, List.setIfInBounds_toArray, List.set_cons_zero, List.set_cons_succ]
        refine list_ev (v := .int .i64 0) rfl (ev_assign rfl rfl) ?_
        simp only [Act.put, List.setIfInBounds_toArray, List.set_cons_zero, List.set_cons_succ]
        go_upto_region 15 with fail
        refine wp_region_lit ?_
        refine list_ev (v := .string (bs (text q))) rfl (ev_move rfl rfl) ?_
        simp only [Act.put, List.setIfInBounds_toArray, List.set_cons_zero, List.set_cons_succ]
        refine list_callP rfl (ev_call1 rfl (enters_of Tryd.func11 (by kernel_rfl) rfl)) (A.parse_eq (parseS_text hq) HE.out (Nat.le_trans (text_len hq) (by decide))) ?_
        rintro e8 u8 ⟨c16, rfl, p16, b8⟩
        refine ⟨_, rfl, ?_⟩
        replace K2 := Lib.hid (K2.out.keep b8)
        replace K11 := Lib.hid (K11.out.keep b8)
        replace HE := Lib.hid (A.keep HE.out b8)
        replace HB := Lib.hid (HB.out.trans (b8.mono HB.out.size))
        clear b8
        simp only [Act.put, List.setIfInBounds_toArray, List.set_cons_zero, List.set_cons_succ]
        refine list_ev (v := .tuple #[.agg c16, .int .i64 0, .int .i64 0]) rfl (ev_move rfl rfl) ?_
        simp only [Act.put, List.setIfInBounds_toArray, List.set_cons_zero, List.set_cons_succ]
        refine list_ev (v := .agg c16) rfl (by go_simp) ?_
        simp only [Act.put, List.setIfInBounds_toArray, List.set_cons_zero, List.set_cons_succ]
        refine list_ev (v := .int .i64 0) rfl (by go_simp) ?_
        simp only [Act.put, List.setIfInBounds_toArray, List.set_cons_zero, List.set_cons_succ]
        refine list_ev (v := .int .i64 0) rfl (by go_simp) ?_
        simp only [Act.put, List.setIfInBounds_toArray, List.set_cons_zero, List.set_cons_succ]
        refine list_new p16 (by simp) (by decide) rfl ?_
        simp only [Act.put, List.setIfInBounds_toArray, List.set_cons_zero, List.set_cons_succ]
        have K16 := Lib.hid (Box.new p16)
        have b9 : Below u8.heap.size u8 (u8.alloc (.cells c16 24)) := (Below.refl _ _).alloc (Nat.le_refl _) _
        replace K2 := Lib.hid (K2.out.keep b9)
        replace K11 := Lib.hid (K11.out.keep b9)
        replace HE := Lib.hid (A.keep HE.out b9)
        replace HB := Lib.hid (HB.out.trans (b9.mono HB.out.size))
        clear b9
        obtain ⟨k16, hk16⟩ : ∃ q, q = u8.heap.size := ⟨_, rfl⟩
        rw [← hk16] at K16 ⊢
        clear hk16
        generalize u8.alloc (.cells c16 24) = u9 at *
        refine list_ev (v := .int .i64 0) rfl (ev_assign rfl rfl) ?_
        simp only [Act.put, List.setIfInBounds_toArray, List.set_cons_zero, List.set_cons_succ]
        refine list_ev (v := .int .i64 0) rfl (ev_assign rfl rfl) ?_
        simp only [Act.put, List.setIfInBounds_toArray, List.set_cons_zero, List.set_cons_succ]
        go_upto_region 16 with fail
        refine wp_region_lit ?_
        refine list_ev (v := .bool true) rfl (ev_move rfl rfl) ?_
        simp only [Act.put, List.setIfInBounds_toArray, List.set_cons_zero, List.set_cons_succ]
        refine list_ev (v := .bool true) rfl (ev_move rfl rfl) ?_
        simp only [Act.put, List.setIfInBounds_toArray, List.set_cons_zero, List.set_cons_succ]
        refine list_ev (v := .int .i64 0) ((Ch.want_at rfl rfl rfl).trans rfl) (ev_move rfl rfl) ?_
        simp only [Act.put, List.setIfInBounds_toArray, List.set_cons_zero, List.set_cons_succ]
        refine list_ev (v := .bool true) ((Ch.want_at rfl rfl rfl).trans rfl) (by go_simp) ?_
        simp only [Act.put, List.setIfInBounds_toArray, List.set_cons_zero, List.set_cons_succ]
        refine list_ev (v := .bool true) rfl (by go_simp) ?_
        simp only [Act.put, List.setIfInBounds_toArray, List.set_cons_zero, List.set_cons_succ]
        refine list_ev (v := .bool true) rfl (ev_move rfl rfl) ?_
        simp only [Act.put, List.setIfInBounds_toArray, List.set_cons_zero, List.set_cons_succ]
        refine list_ev (v := .agg c11) ((Ch.want_at rfl rfl rfl).trans rfl) (K11.out.load rfl rfl) ?_
        simp only [Act.put, List.setIfInBounds_toArray, List.set_cons_zero, List.set_cons_succ]
        refine list_callP ((Ch.want_at rfl rfl rfl).trans rfl) (ev_call1 rfl (enters_of Tryd.func10 (by kernel_rfl) rfl)) (A.right_eq (decide_eq_true hq) HE.out K11.out.pf (few_of hq)) ?_
        rintro e10 u10 ⟨rfl, b10⟩
        refine ⟨_, rfl, ?_⟩
        replace K2 := Lib.hid (K2.out.keep b10)
        replace K11 := Lib.hid (K11.out.keep b10)
        replace K16 := Lib.hid (K16.out.keep b10)
        replace HE := Lib.hid (A.keep HE.out b10)
        replace HB := Lib.hid (HB.out.trans (b10.mono HB.out.size))
        clear b10
        simp only [Act.put, List.setIfInBounds_toArray, List.set_cons_zero, List.set_cons_succ]
        refine list_ev (v := .bool true) rfl (by go_simp) ?_
        simp only [Act.put, List.setIfInBounds_toArray, List.set_cons_zero, List.set_cons_succ]
        refine list_ev (v := .bool true) rfl (ev_move rfl rfl) ?_
        simp only [Act.put, List.setIfInBounds_toArray, List.set_cons_zero, List.set_cons_succ]
        refine list_ev (v := .int .i64 0) ((Ch.want_at rfl rfl rfl).trans rfl) (ev_move rfl rfl) ?_
        simp only [Act.put, List.setIfInBounds_toArray, List.set_cons_zero, List.set_cons_succ]
        refine list_ev (v := .bool true) ((Ch.want_at rfl rfl rfl).trans rfl) (by go_simp) ?_
        simp only [Act.put, List.setIfInBounds_toArray, List.set_cons_zero, List.set_cons_succ]
        refine list_ev (v := .bool true) rfl (by go_simp) ?_
        simp only [Act.put, List.setIfInBounds_toArray, List.set_cons_zero, List.set_cons_succ]
        refine list_ev (v := .bool true) rfl (ev_move rfl rfl) ?_
        simp only [Act.put, List.setIfInBounds_toArray, List.set_cons_zero, List.set_cons_succ]
        refine list_ev (v := .int .i64 0) ((Ch.want_at rfl rfl rfl).trans rfl) (ev_move rfl rfl) ?_
        simp only [Act.put, List.setIfInBounds_toArray, List.set_cons_zero, List.set_cons_succ]
        refine list_ev (v := .bool true) ((Ch.want_at rfl rfl rfl).trans rfl) (by go_simp) ?_
        simp only [Act.put, List.setIfInBounds_toArray, List.set_cons_zero, List.set_cons_succ]
        refine list_ev (v := .bool true) rfl (by go_simp) ?_
        simp only [Act.put, List.setIfInBounds_toArray, List.set_cons_zero, List.set_cons_succ]
        refine list_ev (v := .bool true) rfl (ev_move rfl rfl) ?_
        simp only [Act.put, List.setIfInBounds_toArray, List.set_cons_zero, List.set_cons_succ]
        refine list_ev (v := .agg c11) ((Ch.want_at rfl rfl rfl).trans rfl) (K11.out.load rfl rfl) ?_
        simp only [Act.put, List.setIfInBounds_toArray, List.set_cons_zero, List.set_cons_succ]
        refine list_ev (v := .agg c16) ((Ch.want_at rfl rfl rfl).trans rfl) (K16.out.load rfl rfl) ?_
        simp only [Act.put, List.setIfInBounds_toArray, List.set_cons_zero, List.set_cons_succ]
        refine list_callP ((Ch.want_at rfl rfl rfl).trans rfl) (ev_call2 rfl rfl (enters_of Tryd.func12 (by kernel_rfl) rfl)) (q_same (decide_eq_true rfl) K11.out.pf K16.out.pf (few_of hq)) ?_
        rintro e11 u11 ⟨rfl, b11⟩
        refine ⟨_, rfl, ?_⟩
        replace K2 := Lib.hid (K2.out.keep b11)
        replace K11 := Lib.hid (K11.out.keep b11)
        replace K16 := Lib.hid (K16.out.keep b11)
        replace HE := Lib.hid (A.keep HE.out b11)
        replace HB := Lib.hid (HB.out.trans (b11.mono HB.out.size))
        clear b11
        simp only [Act.put, List.setIfInBounds_toArray, List.set_cons_zero, List.set_cons_succ]
        refine list_ev (v := .bool true) rfl (by go_simp) ?_
        simp only [Act.put, List.setIfInBounds_toArray, List.set_cons_zero, List.set_cons_succ]
        refine list_ev (v := .bool true) rfl (ev_assign rfl rfl) ?_
        simp only [Act.put, List.setIfInBounds_toArray, List.set_cons_zero, List.set_cons_succ]
        go_wp2
        go_ret
        exact ⟨rfl, HB.out⟩
      · clear hf
        have hi9 : i ≤ 900 := by omega
        have he9 : (e != 0) = true := by simpa using hne
        clear hne
        go_upto_region 11 with fail
        refine wp_region_lit ?_
        refine list_ev (v := .string (bs s)) rfl (ev_move rfl rfl) ?_
        simp only [Act.put, List.setIfInBounds_toArray, List.set_cons_zero, List.set_cons_succ]
        refine list_ev (v := .string (bs s)) rfl (ev_move rfl rfl) ?_
        simp only [Act.put, List.setIfInBounds_toArray, List.set_cons_zero, List.set_cons_succ]
        refine list_ev (v := .int .i64 (s.length : Int)) rfl (by go_simp) ?_
        simp only [Act.put, List.setIfInBounds_toArray, List.set_cons_zero, List.set_cons_succ]
        refine list_ev (v := .int .i64 (t.length : Int)) rfl (by go_simp; split <;> omega) ?_
        simp only [Act.put, List.setIfInBounds_toArray, List.set_cons_zero, List.set_cons_succ]
        refine list_ev (v := .string (bs t)) rfl (by go_simp) ?_
        simp only [Act.put, List.setIfInBounds_toArray, List.set_cons_zero, List.set_cons_succ]
        refine list_callP rfl (ev_call1 rfl (enters_of Tryd.func11 (by kernel_rfl) rfl)) (A.parse_eq ht HE.out (by omega)) ?_
        rintro e5 u5 ⟨c11, rfl, p11, b5⟩
        refine ⟨_, rfl, ?_⟩
        replace K2 := Lib.hid (K2.out.keep b5)
        replace HE := Lib.hid (A.keep HE.out b5)
        replace HB := Lib.hid (HB.out.trans (b5.mono HB.out.size))
        clear b5
        simp only [Act.put, List.setIfInBounds_toArray, List.set_cons_zero, List.set_cons_succ]
        refine list_ev (v := .tuple #[.agg c11, .int .i64 i, .int .i64 e]) rfl (ev_move rfl rfl) ?_
        simp only [Act.put, List.setIfInBounds_toArray, List.set_cons_zero, List.set_cons_succ]
        refine list_ev (v := .agg c11) rfl (by go_simp) ?_
        simp only [Act.put, List.setIfInBounds_toArray, List.set_cons_zero, List.set_cons_succ]
        refine list_ev (v := .int .i64 i) rfl (by go_simp) ?_
        simp only [Act.put, List.setIfInBounds_toArray, List.set_cons_zero, List.set_cons_succ]
        refine list_ev (v := .int .i64 e) rfl (by go_simp) ?_
        simp only [Act.put, List.setIfInBounds_toArray, List.set_cons_zero, List.set_cons_succ]
        refine list_new p11 (by simp) (by decide) rfl ?_
        simp only [Act.put, List.setIfInBounds_toArray, List.set_cons_zero, List.set_cons_succ]
        have K11 := Lib.hid (Box.new p11)
        have b6 : Below u5.heap.size u5 (u5.alloc (.cells c11 24)) := (Below.refl _ _).alloc (Nat.le_refl _) _
        replace K2 := Lib.hid (K2.out.keep b6)
        replace HE := Lib.hid (A.keep HE.out b6)
        replace HB := Lib.hid (HB.out.trans (b6.mono HB.out.size))
        clear b6
        obtain ⟨k11, hk11⟩ : ∃ q, q = u5.heap.size := ⟨_, rfl⟩
        rw [← hk11] at K11 ⊢
        clear hk11
        generalize u5.alloc (.cells c11 24) = u6 at *
        refine list_ev (v := .int .i64 i) rfl (ev_assign rfl rfl) ?_
        simp only [Act.put, List.setIfInBounds_toArray, List.set_cons_zero, List.set_cons_succ]
        refine list_ev (v := .int .i64 e) rfl (ev_assign rfl rfl) ?_
        simp only [Act.put, List.setIfInBounds_toArray, List.set_cons_zero, List.set_cons_succ]
        go_upto_region 12 with fail
        refine wp_region_lit ?_
        refine list_ev (v := .int .i64 e) rfl (ev_move rfl rfl) ?_
        simp only [Act.put, List.setIfInBounds_toArray, List.set_cons_zero, List.set_cons_succ]
        refine list_ev (v := .bool true) rfl (by go_simp) ?_
        simp only [Act.put, List.setIfInBounds_toArray, List.set_cons_zero, List.set_cons_succ]
        go_upto_region 13 with fail
        refine wp_region_lit ?_
        refine list_ev (v := .bool true) rfl (ev_move rfl rfl) ?_
        simp only [Act.put, List.setIfInBounds_toArray, List.set_cons_zero, List.set_cons_succ]
        refine list_ev (v := .bool true) rfl (ev_move rfl rfl) ?_
        simp only [Act.put, List.setIfInBounds_toArray, List.set_cons_zero, List.set_cons_succ]
        refine list_ev (v := .agg c11) ((Ch.want_at rfl rfl rfl).trans rfl) (K11.out.load rfl rfl) ?_
        simp only [Act.put, List.setIfInBounds_toArray, List.set_cons_zero, List.set_cons_succ]
        refine list_ev (v := .agg zC) ((Ch.want_at rfl rfl rfl).trans rfl) (by unfold zC; go_simp; try rfl) ?_
        simp only [Act.put, List.setIfInBounds_toArray, List.set_cons_zero, List.set_cons_succ]
        refine list_callP ((Ch.want_at rfl rfl rfl).trans rfl) (ev_call2 rfl rfl (enters_of Tryd.func12 (by kernel_rfl) rfl)) (q_same (q := zero) (decide_eq_true rfl) K11.out.pf ⟨.slice none 0 0, rfl, TxAt.nil _⟩ few_zero) ?_
        rintro e7 u7 ⟨rfl, b7⟩
        refine ⟨_, rfl, ?_⟩
        replace K2 := Lib.hid (K2.out.keep b7)
        replace K11 := Lib.hid (K11.out.keep b7)
        replace HE := Lib.hid (A.keep HE.out b7)
        replace HB := Lib.hid (HB.out.trans (b7.mono HB.out.size))
        clear b7
        simp only [Act.put, List.setIfInBounds_toArray, List.set_cons_zero, List.set_cons_succ]
        refine list_ev (v := .bool true) rfl (by go_simp) ?_
        simp only [Act.put, List.setIfInBounds_toArray, List.set_cons_zero, List.set_cons_succ]
        refine list_ev (v := .bool true) rfl (ev_move rfl rfl) ?_
        simp only [Act.put, List.setIfInBounds_toArray, List.set_cons_zero, List.set_cons_succ]
        refine list_ev (v := .int .i64 i) ((Ch.want_at rfl rfl rfl).trans rfl) (ev_move rfl rfl) ?_
        simp only [Act.put, List.setIfInBounds_toArray, List.set_cons_zero, List.set_cons_succ]
        refine list_ev (v := .bool true) ((Ch.want_at rfl rfl rfl).trans rfl) (by go_simp) ?_
        simp only [Act.put, List.setIfInBounds_toArray, List.set_cons_zero, List.set_cons_succ]
        refine list_ev (v := .bool true) rfl (by go_simp) ?_
        simp only [Act.put, List.setIfInBounds_toArray, List.set_cons_zero, List.set_cons_succ]
        refine list_ev (v := .bool true) rfl (ev_move rfl rfl) ?_
        simp only [Act.put, List.setIfInBounds_toArray, List.set_cons_zero, List.set_cons_succ]
        refine list_ev (v := .int .i64 i) ((Ch.want_at rfl rfl rfl).trans rfl) (ev_move rfl rfl) ?_
        simp only [Act.put, List.setIfInBounds_toArray, List.set_cons_zero, List.set_cons_succ]
        refine list_ev (v := .bool true) ((Ch.want_at rfl rfl rfl).trans rfl) (by go_simp) ?_
        simp only [Act.put, List.setIfInBounds_toArray, List.set_cons_zero, List.set_cons_succ]
        refine list_ev (v := .bool true) rfl (by go_simp) ?_
        simp only [Act.put, List.setIfInBounds_toArray, List.set_cons_zero, List.set_cons_succ]
        refine list_ev (v := .bool true) rfl (ev_assign rfl rfl) ?_
        simp only [Act.put, List.setIfInBounds_toArray, List.set_cons_zero, List.set_cons_succ]
        go_wp2
        go_ret
        exact ⟨rfl, HB.out⟩
  · have hf : fewP p = false := by simpa using hf
    go_upto_region 2 with fail
    refine wp_region_lit ?_
    refine list_ev (v := .agg cs) rfl (K2.out.load rfl rfl) ?_
    simp only [Act.put, List.setIfInBounds_toArray, List.set_cons_zero, List.set_cons_succ]
    refine list_callP rfl (ev_call1 rfl (enters_of Tryd.func8 (by kernel_rfl) rfl)) (q_few hf K2.out.pf) ?_
    rintro e2 u2 ⟨rfl, b2⟩
    refine ⟨_, rfl, ?_⟩
    replace K2 := Lib.hid (K2.out.keep b2)
    replace HE := Lib.hid (A.keep HE.out b2)
    replace HB := Lib.hid (HB.out.trans (b2.mono HB.out.size))
    clear b2
    simp only [Act.put, List.setIfInBounds_toArray, List.set_cons_zero, List.set_cons_succ]
    refine list_ev (v := .bool true) rfl (by go_simp) ?_
    simp only [Act.put, List.setIfInBounds_toArray, List.set_cons_zero, List.set_cons_succ]
    go_wp2
    go_ret
    exact ⟨rfl, HB.out⟩
end
end Go.Proofs.YtlefgffnjcmfoaaDoor
