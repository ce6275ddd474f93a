/- The walk of SyntaxFirst. -/
import Derived.Test.YtlefgffnjcmfoaaDoorMG
namespace Go.Proofs.YtlefgffnjcmfoaaDoor
open Go.RowKit Go.Maps Go.ChangeMaps Go.MapKept
open Lx Sy Ch
attribute [local go_sem ↓] Go.wp_at_zero Go.wp_at_succ
section
variable {E : World → Prop} {w : World}
set_option maxHeartbeats 8000000 in
set_option maxRecDepth 100000 in
theorem first_walk (A : YApi E) (hE : E w) {s0 m0 : S} : Calls Tryd.prog 5 #[.string (bs s0), .string (bs m0)] w (Reads w (.bool true)) := by
  have hz := bs_size s0
  obtain ⟨s, htt⟩ : ∃ t, t = s0.take 600 := ⟨_, rfl⟩
  have hsl : s.length ≤ 600 := by rw [htt]; simp; omega
  have hts : s.length ≤ s0.length := by rw [htt]; simp; omega
  have hmin : min (s0.length : Int) 600 = (s.length : Int) := by rw [htt]; simp; omega
  have hext : (bs s0).extract 0 s.length = bs s := by rw [htt]; exact cut_at s0 600
  have zs := bs_size s
  clear htt
  have hz2 := bs_size m0
  obtain ⟨m, htm⟩ : ∃ t, t = m0.take 300 := ⟨_, rfl⟩
  have hml : m.length ≤ 300 := by rw [htm]; simp; omega
  have htm2 : m.length ≤ m0.length := by rw [htm]; simp; omega
  have hmin2 : min (m0.length : Int) 300 = (m.length : Int) := by rw [htm]; simp; omega
  have hext2 : (bs m0).extract 0 m.length = bs m := by rw [htm]; exact cut_at m0 300
  clear htm
  unfold Reads
  have HB := Lib.hid (Below.refl w.heap.size w)
  have HE := Lib.hid hE
  clear hE
  go_enter Tryd.func5, Tryd.ntmps5
  go_upto_region 1 with fail
  refine wp_region_lit ?_
  refine list_callP rfl (ev_call0 (enters_of Tryd.func7 (by kernel_rfl) rfl)) (small_any A HE.out) ?_
  rintro e1 u1 ⟨rfl, b1⟩
  refine ⟨_, rfl, ?_⟩
  replace HE := Lib.hid (A.keep HE.out b1)
  replace HB := Lib.hid (HB.out.trans (b1.mono HB.out.size))
  clear b1
  simp only [Act.put, List.setIfInBounds_toArray, List.set_cons_zero, List.set_cons_succ]
  refine list_ev (v := .bool true) rfl (ev_assign rfl rfl) ?_
  simp only [Act.put, List.setIfInBounds_toArray, List.set_cons_zero, List.set_cons_succ]
  go_upto_region 2 with fail
  refine wp_region_lit ?_
  refine list_ev (v := .string (bs s0)) rfl (ev_move rfl rfl) ?_
  simp only [Act.put, List.setIfInBounds_toArray, List.set_cons_zero, List.set_cons_succ]
  refine list_ev (v := .string (bs s0)) rfl (ev_move rfl rfl) ?_
  simp only [Act.put, List.setIfInBounds_toArray, List.set_cons_zero, List.set_cons_succ]
  refine list_ev (v := .int .i64 (s0.length : Int)) rfl (by go_simp) ?_
  simp only [Act.put, List.setIfInBounds_toArray, List.set_cons_zero, List.set_cons_succ]
  refine list_ev (v := .int .i64 (s.length : Int)) rfl (by go_simp; split <;> omega) ?_
  simp only [Act.put, List.setIfInBounds_toArray, List.set_cons_zero, List.set_cons_succ]
  refine list_ev (v := .string (bs s)) rfl (by go_simp) ?_
  simp only [Act.put, List.setIfInBounds_toArray, List.set_cons_zero, List.set_cons_succ]
  refine list_ev (v := .string (bs s)) rfl (ev_assign rfl rfl) ?_
  simp only [Act.put, List.setIfInBounds_toArray, List.set_cons_zero]
  go_upto_region 3 with fail
  refine wp_region_lit ?_
  refine list_ev (v := .string (bs m0)) rfl (ev_move rfl rfl) ?_
  simp only [Act.put, List.setIfInBounds_toArray, List.set_cons_zero, List.set_cons_succ]
  refine list_ev (v := .string (bs m0)) rfl (ev_move rfl rfl) ?_
  simp only [Act.put, List.setIfInBounds_toArray, List.set_cons_zero, List.set_cons_succ]
  refine list_ev (v := .int .i64 (m0.length : Int)) rfl (by go_simp) ?_
  simp only [Act.put, List.setIfInBounds_toArray, List.set_cons_zero, List.set_cons_succ]
  refine list_ev (v := .int .i64 (m.length : Int)) rfl (by go_simp; split <;> omega) ?_
  simp only [Act.put, List.setIfInBounds_toArray, List.set_cons_zero, List.set_cons_succ]
  refine list_ev (v := .string (bs m)) rfl (by go_simp) ?_
  simp only [Act.put, List.setIfInBounds_toArray, List.set_cons_zero, List.set_cons_succ]
  refine list_ev (v := .string (bs m)) rfl (ev_assign rfl rfl) ?_
  simp only [Act.put, List.setIfInBounds_toArray, List.set_cons_zero, List.set_cons_succ]
  clear hmin hmin2 hext hext2
  rcases first_cases hsl with ⟨i, e, hx, hne, hp⟩ | ⟨ts, q, hx, hp⟩ | ⟨ts, e, hx, hne, hp⟩ | ⟨ts, k, z, e, a, hx, hne, hp, hk, hza, hzl, has, hbef, hmore, hless⟩
  · have hne9 : (e != 0) = true := by simpa using hne
    go_upto_region 4 with fail
    refine wp_region_lit ?_
    refine list_ev (v := .string (bs s)) rfl (ev_move rfl rfl) ?_
    simp only [Act.put, List.setIfInBounds_toArray, List.set_cons_zero, List.set_cons_succ]
    refine list_callP rfl (ev_call1 rfl (enters_of Tryd.func13 (by kernel_rfl) rfl)) (A.lex_gen hx HE.out (by omega)) ?_
    rintro e2 u2 ⟨a6, c6, rfl, t6, b2⟩
    refine ⟨_, rfl, ?_⟩
    replace HE := Lib.hid (A.keep HE.out b2)
    replace HB := Lib.hid (HB.out.trans (b2.mono HB.out.size))
    clear b2
    simp only [Act.put, List.setIfInBounds_toArray, List.set_cons_zero, List.set_cons_succ]
    refine list_ev (v := .tuple #[.slice a6 (([] : List Tk)).length c6, .int .i64 i, .int .i64 e]) rfl (ev_move rfl rfl) ?_
    simp only [Act.put, List.setIfInBounds_toArray, List.set_cons_zero, List.set_cons_succ]
    refine list_ev (v := .slice a6 (([] : List Tk)).length c6) rfl (by go_simp) ?_
    simp only [Act.put, List.setIfInBounds_toArray, List.set_cons_zero, List.set_cons_succ]
    refine list_ev (v := .int .i64 i) rfl (by go_simp) ?_
    simp only [Act.put, List.setIfInBounds_toArray, List.set_cons_zero, List.set_cons_succ]
    refine list_ev (v := .int .i64 e) rfl (by go_simp) ?_
    simp only [Act.put, List.setIfInBounds_toArray, List.set_cons_zero, List.set_cons_succ]
    refine list_ev (v := .slice a6 (([] : List Tk)).length c6) rfl (ev_assign rfl rfl) ?_
    simp only [Act.put, List.setIfInBounds_toArray, List.set_cons_zero, List.set_cons_succ]
    refine list_ev (v := .int .i64 i) rfl (ev_assign rfl rfl) ?_
    simp only [Act.put, List.setIfInBounds_toArray, List.set_cons_zero, List.set_cons_succ]
    refine list_ev (v := .int .i64 e) rfl (ev_assign rfl rfl) ?_
    simp only [Act.put, List.setIfInBounds_toArray, List.set_cons_zero, List.set_cons_succ]
    have HT6 := Lib.hid t6
    clear t6
    go_upto_region 5 with fail
    refine wp_region_lit ?_
    refine list_ev (v := .string (bs s)) rfl (ev_move rfl rfl) ?_
    simp only [Act.put, List.setIfInBounds_toArray, List.set_cons_zero, List.set_cons_succ]
    refine list_callP rfl (ev_call1 rfl (enters_of Tryd.func11 (by kernel_rfl) rfl)) (A.parse_eq hp HE.out (by omega)) ?_
    rintro e3 u3 ⟨c9, rfl, p9, b3⟩
    refine ⟨_, rfl, ?_⟩
    replace HE := Lib.hid (A.keep HE.out b3)
    replace HB := Lib.hid (HB.out.trans (b3.mono HB.out.size))
    replace HT6 := Lib.hid (HT6.out.keep b3)
    clear b3
    simp only [Act.put, List.setIfInBounds_toArray, List.set_cons_zero, List.set_cons_succ]
    refine list_ev (v := .tuple #[.agg c9, .int .i64 i, .int .i64 e]) rfl (ev_move rfl rfl) ?_
    simp only [Act.put, List.setIfInBounds_toArray, List.set_cons_zero, List.set_cons_succ]
    refine list_ev (v := .agg c9) rfl (by go_simp) ?_
    simp only [Act.put, List.setIfInBounds_toArray, List.set_cons_zero, List.set_cons_succ]
    refine list_ev (v := .int .i64 i) rfl (by go_simp) ?_
    simp only [Act.put, List.setIfInBounds_toArray, List.set_cons_zero, List.set_cons_succ]
    refine list_ev (v := .int .i64 e) rfl (by go_simp) ?_
    simp only [Act.put, List.setIfInBounds_toArray, List.set_cons_zero, List.set_cons_succ]
    refine list_new p9 (by simp) (by decide) rfl ?_
    simp only [Act.put, List.setIfInBounds_toArray, List.set_cons_zero, List.set_cons_succ]
    have K9 := Lib.hid (Box.new p9)
    have b4 : Below u3.heap.size u3 (u3.alloc (.cells c9 24)) := (Below.refl _ _).alloc (Nat.le_refl _) _
    replace HE := Lib.hid (A.keep HE.out b4)
    replace HB := Lib.hid (HB.out.trans (b4.mono HB.out.size))
    replace HT6 := Lib.hid (HT6.out.keep b4)
    clear b4
    obtain ⟨k9, hk9⟩ : ∃ q, q = u3.heap.size := ⟨_, rfl⟩
    rw [← hk9] at K9 ⊢
    clear hk9
    generalize u3.alloc (.cells c9 24) = u4 at *
    refine list_ev (v := .int .i64 i) rfl (ev_assign rfl rfl) ?_
    simp only [Act.put, List.setIfInBounds_toArray, List.set_cons_zero, List.set_cons_succ]
    refine list_ev (v := .int .i64 e) rfl (ev_assign rfl rfl) ?_
    simp only [Act.put, List.setIfInBounds_toArray, List.set_cons_zero, List.set_cons_succ]
    go_upto_region 6 with fail
    refine wp_region_lit ?_
    refine list_ev (v := .int .i64 e) rfl (ev_move rfl rfl) ?_
    simp only [Act.put, List.setIfInBounds_toArray, List.set_cons_zero, List.set_cons_succ]
    refine list_ev (v := .bool true) rfl (by go_simp) ?_
    simp only [Act.put, List.setIfInBounds_toArray, List.set_cons_zero, List.set_cons_succ]
    refine list_ev (v := .bool true) rfl (ev_move rfl rfl) ?_
    simp only [Act.put, List.setIfInBounds_toArray, List.set_cons_zero, List.set_cons_succ]
    refine list_off ((Ch.want_at rfl rfl rfl).trans rfl) ?_
    simp only [Act.put, List.setIfInBounds_toArray, List.set_cons_zero, List.set_cons_succ]
    refine list_off ((Ch.want_at rfl rfl rfl).trans rfl) ?_
    simp only [Act.put, List.setIfInBounds_toArray, List.set_cons_zero, List.set_cons_succ]
    refine list_ev (v := .bool true) rfl (by go_simp) ?_
    simp only [Act.put, List.setIfInBounds_toArray, List.set_cons_zero, List.set_cons_succ]
    refine list_ev (v := .bool true) rfl (ev_move rfl rfl) ?_
    simp only [Act.put, List.setIfInBounds_toArray, List.set_cons_zero, List.set_cons_succ]
    refine list_off ((Ch.want_at rfl rfl rfl).trans rfl) ?_
    simp only [Act.put, List.setIfInBounds_toArray, List.set_cons_zero, List.set_cons_succ]
    refine list_off ((Ch.want_at rfl rfl rfl).trans rfl) ?_
    simp only [Act.put, List.setIfInBounds_toArray, List.set_cons_zero, List.set_cons_succ]
    refine list_ev (v := .bool true) rfl (by go_simp) ?_
    simp only [Act.put, List.setIfInBounds_toArray, List.set_cons_zero, List.set_cons_succ]
    refine list_ev (v := .bool true) rfl (ev_move rfl rfl) ?_
    simp only [Act.put, List.setIfInBounds_toArray, List.set_cons_zero, List.set_cons_succ]
    refine list_off ((Ch.want_at rfl rfl rfl).trans rfl) ?_
    simp only [Act.put, List.setIfInBounds_toArray, List.set_cons_zero, List.set_cons_succ]
    refine list_off ((Ch.want_at rfl rfl rfl).trans rfl) ?_
    simp only [Act.put, List.setIfInBounds_toArray, List.set_cons_zero, List.set_cons_succ]
    refine list_off ((Ch.want_at rfl rfl rfl).trans rfl) ?_
    simp only [Act.put, List.setIfInBounds_toArray, List.set_cons_zero, List.set_cons_succ]
    refine list_off ((Ch.want_at rfl rfl rfl).trans rfl) ?_
    simp only [Act.put, List.setIfInBounds_toArray, List.set_cons_zero, List.set_cons_succ]
    refine list_ev (v := .bool true) rfl (by go_simp) ?_
    simp only [Act.put, List.setIfInBounds_toArray, List.set_cons_zero, List.set_cons_succ]
    go_upto_region 7 with fail
    refine wp_region_lit ?_
    refine list_ev (v := .bool true) rfl (ev_move rfl rfl) ?_
    simp only [Act.put, List.setIfInBounds_toArray, List.set_cons_zero, List.set_cons_succ]
    refine list_ev (v := .bool true) rfl (ev_move rfl rfl) ?_
    simp only [Act.put, List.setIfInBounds_toArray, List.set_cons_zero, List.set_cons_succ]
    refine list_ev (v := .int .i64 e) ((Ch.want_at rfl rfl rfl).trans rfl) (ev_move rfl rfl) ?_
    simp only [Act.put, List.setIfInBounds_toArray, List.set_cons_zero, List.set_cons_succ]
    refine list_ev (v := .bool true) ((Ch.want_at rfl rfl rfl).trans rfl) (by go_simp) ?_
    simp only [Act.put, List.setIfInBounds_toArray, List.set_cons_zero, List.set_cons_succ]
    refine list_ev (v := .bool true) ((Ch.want_at rfl rfl rfl).trans rfl) (ev_move rfl rfl) ?_
    simp only [Act.put, List.setIfInBounds_toArray, List.set_cons_zero, List.set_cons_succ]
    refine list_off ((Ch.want_at rfl rfl rfl).trans rfl) ?_
    simp only [Act.put, List.setIfInBounds_toArray, List.set_cons_zero, List.set_cons_succ]
    refine list_off ((Ch.want_at rfl rfl rfl).trans rfl) ?_
    simp only [Act.put, List.setIfInBounds_toArray, List.set_cons_zero, List.set_cons_succ]
    refine list_ev (v := .bool true) ((Ch.want_at rfl rfl rfl).trans rfl) (by go_simp) ?_
    simp only [Act.put, List.setIfInBounds_toArray, List.set_cons_zero, List.set_cons_succ]
    refine list_ev (v := .bool true) ((Ch.want_at rfl rfl rfl).trans rfl) (ev_move rfl rfl) ?_
    simp only [Act.put, List.setIfInBounds_toArray, List.set_cons_zero, List.set_cons_succ]
    refine list_off ((Ch.want_at rfl rfl rfl).trans rfl) ?_
    simp only [Act.put, List.setIfInBounds_toArray, List.set_cons_zero, List.set_cons_succ]
    refine list_off ((Ch.want_at rfl rfl rfl).trans rfl) ?_
    simp only [Act.put, List.setIfInBounds_toArray, List.set_cons_zero, List.set_cons_succ]
    refine list_off ((Ch.want_at rfl rfl rfl).trans rfl) ?_
    simp only [Act.put, List.setIfInBounds_toArray, List.set_cons_zero, List.set_cons_succ]
    refine list_off ((Ch.want_at rfl rfl rfl).trans rfl) ?_
    simp only [Act.put, List.setIfInBounds_toArray, List.set_cons_zero, List.set_cons_succ]
    refine list_ev (v := .bool true) ((Ch.want_at rfl rfl rfl).trans rfl) (by go_simp) ?_
    simp only [Act.put, List.setIfInBounds_toArray, List.set_cons_zero, List.set_cons_succ]
    refine list_ev (v := .bool true) rfl (by go_simp) ?_
    simp only [Act.put, List.setIfInBounds_toArray, List.set_cons_zero, List.set_cons_succ]
    refine list_ev (v := .bool true) rfl (ev_assign rfl rfl) ?_
    simp only [Act.put, List.setIfInBounds_toArray, List.set_cons_zero, List.set_cons_succ]
    go_wp2
    go_ret
    exact ⟨rfl, HB.out⟩
  · skip
    go_upto_region 4 with fail
    refine wp_region_lit ?_
    refine list_ev (v := .string (bs s)) rfl (ev_move rfl rfl) ?_
    simp only [Act.put, List.setIfInBounds_toArray, List.set_cons_zero, List.set_cons_succ]
    refine list_callP rfl (ev_call1 rfl (enters_of Tryd.func13 (by kernel_rfl) rfl)) (A.lex_gen hx HE.out (by omega)) ?_
    rintro e2 u2 ⟨a6, c6, rfl, t6, b2⟩
    refine ⟨_, rfl, ?_⟩
    replace HE := Lib.hid (A.keep HE.out b2)
    replace HB := Lib.hid (HB.out.trans (b2.mono HB.out.size))
    clear b2
    simp only [Act.put, List.setIfInBounds_toArray, List.set_cons_zero, List.set_cons_succ]
    refine list_ev (v := .tuple #[.slice a6 (ts).length c6, .int .i64 0, .int .i64 0]) rfl (ev_move rfl rfl) ?_
    simp only [Act.put, List.setIfInBounds_toArray, List.set_cons_zero, List.set_cons_succ]
    refine list_ev (v := .slice a6 (ts).length c6) rfl (by go_simp) ?_
    simp only [Act.put, List.setIfInBounds_toArray, List.set_cons_zero, List.set_cons_succ]
    refine list_ev (v := .int .i64 0) rfl (by go_simp) ?_
    simp only [Act.put, List.setIfInBounds_toArray, List.set_cons_zero, List.set_cons_succ]
    refine list_ev (v := .int .i64 0) rfl (by go_simp) ?_
    simp only [Act.put, List.setIfInBounds_toArray, List.set_cons_zero, List.set_cons_succ]
    refine list_ev (v := .slice a6 (ts).length c6) rfl (ev_assign rfl rfl) ?_
    simp only [Act.put, List.setIfInBounds_toArray, List.set_cons_zero, List.set_cons_succ]
    refine list_ev (v := .int .i64 0) rfl (ev_assign rfl rfl) ?_
    simp only [Act.put, List.setIfInBounds_toArray, List.set_cons_zero, List.set_cons_succ]
    refine list_ev (v := .int .i64 0) rfl (ev_assign rfl rfl) ?_
    simp only [Act.put, List.setIfInBounds_toArray, List.set_cons_zero, List.set_cons_succ]
    have HT6 := Lib.hid t6
    clear t6
    go_upto_region 5 with fail
    refine wp_region_lit ?_
    refine list_ev (v := .string (bs s)) rfl (ev_move rfl rfl) ?_
    simp only [Act.put, List.setIfInBounds_toArray, List.set_cons_zero, List.set_cons_succ]
    refine list_callP rfl (ev_call1 rfl (enters_of Tryd.func11 (by kernel_rfl) rfl)) (A.parse_eq hp HE.out (by omega)) ?_
    rintro e3 u3 ⟨c9, rfl, p9, b3⟩
    refine ⟨_, rfl, ?_⟩
    replace HE := Lib.hid (A.keep HE.out b3)
    replace HB := Lib.hid (HB.out.trans (b3.mono HB.out.size))
    replace HT6 := Lib.hid (HT6.out.keep b3)
    clear b3
    simp only [Act.put, List.setIfInBounds_toArray, List.set_cons_zero, List.set_cons_succ]
    refine list_ev (v := .tuple #[.agg c9, .int .i64 0, .int .i64 0]) rfl (ev_move rfl rfl) ?_
    simp only [Act.put, List.setIfInBounds_toArray, List.set_cons_zero, List.set_cons_succ]
    refine list_ev (v := .agg c9) rfl (by go_simp) ?_
    simp only [Act.put, List.setIfInBounds_toArray, List.set_cons_zero, List.set_cons_succ]
    refine list_ev (v := .int .i64 0) rfl (by go_simp) ?_
    simp only [Act.put, List.setIfInBounds_toArray, List.set_cons_zero, List.set_cons_succ]
    refine list_ev (v := .int .i64 0) rfl (by go_simp) ?_
    simp only [Act.put, List.setIfInBounds_toArray, List.set_cons_zero, List.set_cons_succ]
    refine list_new p9 (by simp) (by decide) rfl ?_
    simp only [Act.put, List.setIfInBounds_toArray, List.set_cons_zero, List.set_cons_succ]
    have K9 := Lib.hid (Box.new p9)
    have b4 : Below u3.heap.size u3 (u3.alloc (.cells c9 24)) := (Below.refl _ _).alloc (Nat.le_refl _) _
    replace HE := Lib.hid (A.keep HE.out b4)
    replace HB := Lib.hid (HB.out.trans (b4.mono HB.out.size))
    replace HT6 := Lib.hid (HT6.out.keep b4)
    clear b4
    obtain ⟨k9, hk9⟩ : ∃ q, q = u3.heap.size := ⟨_, rfl⟩
    rw [← hk9] at K9 ⊢
    clear hk9
    generalize u3.alloc (.cells c9 24) = u4 at *
    refine list_ev (v := .int .i64 0) rfl (ev_assign rfl rfl) ?_
    simp only [Act.put, List.setIfInBounds_toArray, List.set_cons_zero, List.set_cons_succ]
    refine list_ev (v := .int .i64 0) rfl (ev_assign rfl rfl) ?_
    simp only [Act.put, List.setIfInBounds_toArray, List.set_cons_zero, List.set_cons_succ]
    go_upto_region 6 with fail
    refine wp_region_lit ?_
    refine list_ev (v := .int .i64 0) rfl (ev_move rfl rfl) ?_
    simp only [Act.put, List.setIfInBounds_toArray, List.set_cons_zero, List.set_cons_succ]
    refine list_ev (v := .bool false) rfl (by go_simp) ?_
    simp only [Act.put, List.setIfInBounds_toArray, List.set_cons_zero, List.set_cons_succ]
    refine list_ev (v := .bool false) rfl (ev_move rfl rfl) ?_
    simp only [Act.put, List.setIfInBounds_toArray, List.set_cons_zero, List.set_cons_succ]
    refine list_ev (v := .int .i64 0) ((Ch.want_at rfl rfl rfl).trans rfl) (ev_move rfl rfl) ?_
    simp only [Act.put, List.setIfInBounds_toArray, List.set_cons_zero, List.set_cons_succ]
    refine list_ev (v := .bool true) ((Ch.want_at rfl rfl rfl).trans rfl) (by go_simp) ?_
    simp only [Act.put, List.setIfInBounds_toArray, List.set_cons_zero, List.set_cons_succ]
    refine list_ev (v := .bool true) rfl (by go_simp) ?_
    simp only [Act.put, List.setIfInBounds_toArray, List.set_cons_zero, List.set_cons_succ]
    refine list_ev (v := .bool true) rfl (ev_move rfl rfl) ?_
    simp only [Act.put, List.setIfInBounds_toArray, List.set_cons_zero, List.set_cons_succ]
    refine list_off ((Ch.want_at rfl rfl rfl).trans rfl) ?_
    simp only [Act.put, List.setIfInBounds_toArray, List.set_cons_zero, List.set_cons_succ]
    refine list_off ((Ch.want_at rfl rfl rfl).trans rfl) ?_
    simp only [Act.put, List.setIfInBounds_toArray, List.set_cons_zero, List.set_cons_succ]
    refine list_ev (v := .bool true) rfl (by go_simp) ?_
    simp only [Act.put, List.setIfInBounds_toArray, List.set_cons_zero, List.set_cons_succ]
    refine list_ev (v := .bool true) rfl (ev_move rfl rfl) ?_
    simp only [Act.put, List.setIfInBounds_toArray, List.set_cons_zero, List.set_cons_succ]
    refine list_off ((Ch.want_at rfl rfl rfl).trans rfl) ?_
    simp only [Act.put, List.setIfInBounds_toArray, List.set_cons_zero, List.set_cons_succ]
    refine list_off ((Ch.want_at rfl rfl rfl).trans rfl) ?_
    simp only [Act.put, List.setIfInBounds_toArray, List.set_cons_zero, List.set_cons_succ]
    refine list_off ((Ch.want_at rfl rfl rfl).trans rfl) ?_
    simp only [Act.put, List.setIfInBounds_toArray, List.set_cons_zero, List.set_cons_succ]
    refine list_off ((Ch.want_at rfl rfl rfl).trans rfl) ?_
    simp only [Act.put, List.setIfInBounds_toArray, List.set_cons_zero, List.set_cons_succ]
    refine list_ev (v := .bool true) rfl (by go_simp) ?_
    simp only [Act.put, List.setIfInBounds_toArray, List.set_cons_zero, List.set_cons_succ]
    go_upto_region 7 with fail
    refine wp_region_lit ?_
    refine list_ev (v := .bool true) rfl (ev_move rfl rfl) ?_
    simp only [Act.put, List.setIfInBounds_toArray, List.set_cons_zero, List.set_cons_succ]
    refine list_ev (v := .bool true) rfl (ev_move rfl rfl) ?_
    simp only [Act.put, List.setIfInBounds_toArray, List.set_cons_zero, List.set_cons_succ]
    refine list_ev (v := .int .i64 0) ((Ch.want_at rfl rfl rfl).trans rfl) (ev_move rfl rfl) ?_
    simp only [Act.put, List.setIfInBounds_toArray, List.set_cons_zero, List.set_cons_succ]
    refine list_ev (v := .bool false) ((Ch.want_at rfl rfl rfl).trans rfl) (by go_simp) ?_
    simp only [Act.put, List.setIfInBounds_toArray, List.set_cons_zero, List.set_cons_succ]
    refine list_ev (v := .bool false) ((Ch.want_at rfl rfl rfl).trans rfl) (ev_move rfl rfl) ?_
    simp only [Act.put, List.setIfInBounds_toArray, List.set_cons_zero, List.set_cons_succ]
    refine list_ev (v := .int .i64 0) ((Ch.want_at rfl rfl rfl).trans rfl) (ev_move rfl rfl) ?_
    simp only [Act.put, List.setIfInBounds_toArray, List.set_cons_zero, List.set_cons_succ]
    refine list_ev (v := .bool true) ((Ch.want_at rfl rfl rfl).trans rfl) (by go_simp) ?_
    simp only [Act.put, List.setIfInBounds_toArray, List.set_cons_zero, List.set_cons_succ]
    refine list_ev (v := .bool true) ((Ch.want_at rfl rfl rfl).trans rfl) (by go_simp) ?_
    simp only [Act.put, List.setIfInBounds_toArray, List.set_cons_zero, List.set_cons_succ]
    refine list_ev (v := .bool true) ((Ch.want_at rfl rfl rfl).trans rfl) (ev_move rfl rfl) ?_
    simp only [Act.put, List.setIfInBounds_toArray, List.set_cons_zero, List.set_cons_succ]
    refine list_off ((Ch.want_at rfl rfl rfl).trans rfl) ?_
    simp only [Act.put, List.setIfInBounds_toArray, List.set_cons_zero, List.set_cons_succ]
    refine list_off ((Ch.want_at rfl rfl rfl).trans rfl) ?_
    simp only [Act.put, List.setIfInBounds_toArray, List.set_cons_zero, List.set_cons_succ]
    refine list_off ((Ch.want_at rfl rfl rfl).trans rfl) ?_
    simp only [Act.put, List.setIfInBounds_toArray, List.set_cons_zero, List.set_cons_succ]
    refine list_off ((Ch.want_at rfl rfl rfl).trans rfl) ?_
    simp only [Act.put, List.setIfInBounds_toArray, List.set_cons_zero, List.set_cons_succ]
    refine list_ev (v := .bool true) ((Ch.want_at rfl rfl rfl).trans rfl) (by go_simp) ?_
    simp only [Act.put, List.setIfInBounds_toArray, List.set_cons_zero, List.set_cons_succ]
    refine list_ev (v := .bool true) rfl (by go_simp) ?_
    simp only [Act.put, List.setIfInBounds_toArray, List.set_cons_zero, List.set_cons_succ]
    refine list_ev (v := .bool true) rfl (ev_assign rfl rfl) ?_
    simp only [Act.put, List.setIfInBounds_toArray, List.set_cons_zero, List.set_cons_succ]
    go_wp2
    go_ret
    exact ⟨rfl, HB.out⟩
  · have hne9 : (e == 0) = false := by simpa using hne
    go_upto_region 4 with fail
    refine wp_region_lit ?_
    refine list_ev (v := .string (bs s)) rfl (ev_move rfl rfl) ?_
    simp only [Act.put, List.setIfInBounds_toArray, List.set_cons_zero, List.set_cons_succ]
    refine list_callP rfl (ev_call1 rfl (enters_of Tryd.func13 (by kernel_rfl) rfl)) (A.lex_gen hx HE.out (by omega)) ?_
    rintro e2 u2 ⟨a6, c6, rfl, t6, b2⟩
    refine ⟨_, rfl, ?_⟩
    replace HE := Lib.hid (A.keep HE.out b2)
    replace HB := Lib.hid (HB.out.trans (b2.mono HB.out.size))
    clear b2
    simp only [Act.put, List.setIfInBounds_toArray, List.set_cons_zero, List.set_cons_succ]
    refine list_ev (v := .tuple #[.slice a6 (ts).length c6, .int .i64 0, .int .i64 0]) rfl (ev_move rfl rfl) ?_
    simp only [Act.put, List.setIfInBounds_toArray, List.set_cons_zero, List.set_cons_succ]
    refine list_ev (v := .slice a6 (ts).length c6) rfl (by go_simp) ?_
    simp only [Act.put, List.setIfInBounds_toArray, List.set_cons_zero, List.set_cons_succ]
    refine list_ev (v := .int .i64 0) rfl (by go_simp) ?_
    simp only [Act.put, List.setIfInBounds_toArray, List.set_cons_zero, List.set_cons_succ]
    refine list_ev (v := .int .i64 0) rfl (by go_simp) ?_
    simp only [Act.put, List.setIfInBounds_toArray, List.set_cons_zero, List.set_cons_succ]
    refine list_ev (v := .slice a6 (ts).length c6) rfl (ev_assign rfl rfl) ?_
    simp only [Act.put, List.setIfInBounds_toArray, List.set_cons_zero, List.set_cons_succ]
    refine list_ev (v := .int .i64 0) rfl (ev_assign rfl rfl) ?_
    simp only [Act.put, List.setIfInBounds_toArray, List.set_cons_zero, List.set_cons_succ]
    refine list_ev (v := .int .i64 0) rfl (ev_assign rfl rfl) ?_
    simp only [Act.put, List.setIfInBounds_toArray, List.set_cons_zero, List.set_cons_succ]
    have HT6 := Lib.hid t6
    clear t6
    go_upto_region 5 with fail
    refine wp_region_lit ?_
    refine list_ev (v := .string (bs s)) rfl (ev_move rfl rfl) ?_
    simp only [Act.put, List.setIfInBounds_toArray, List.set_cons_zero, List.set_cons_succ]
    refine list_callP rfl (ev_call1 rfl (enters_of Tryd.func11 (by kernel_rfl) rfl)) (A.parse_eq hp HE.out (by omega)) ?_
    rintro e3 u3 ⟨c9, rfl, p9, b3⟩
    refine ⟨_, rfl, ?_⟩
    replace HE := Lib.hid (A.keep HE.out b3)
    replace HB := Lib.hid (HB.out.trans (b3.mono HB.out.size))
    replace HT6 := Lib.hid (HT6.out.keep b3)
    clear b3
    simp only [Act.put, List.setIfInBounds_toArray, List.set_cons_zero, List.set_cons_succ]
    refine list_ev (v := .tuple #[.agg c9, .int .i64 (s.length : Int), .int .i64 e]) rfl (ev_move rfl rfl) ?_
    simp only [Act.put, List.setIfInBounds_toArray, List.set_cons_zero, List.set_cons_succ]
    refine list_ev (v := .agg c9) rfl (by go_simp) ?_
    simp only [Act.put, List.setIfInBounds_toArray, List.set_cons_zero, List.set_cons_succ]
    refine list_ev (v := .int .i64 (s.length : Int)) rfl (by go_simp) ?_
    simp only [Act.put, List.setIfInBounds_toArray, List.set_cons_zero, List.set_cons_succ]
    refine list_ev (v := .int .i64 e) rfl (by go_simp) ?_
    simp only [Act.put, List.setIfInBounds_toArray, List.set_cons_zero, List.set_cons_succ]
    refine list_new p9 (by simp) (by decide) rfl ?_
    simp only [Act.put, List.setIfInBounds_toArray, List.set_cons_zero, List.set_cons_succ]
    have K9 := Lib.hid (Box.new p9)
    have b4 : Below u3.heap.size u3 (u3.alloc (.cells c9 24)) := (Below.refl _ _).alloc (Nat.le_refl _) _
    replace HE := Lib.hid (A.keep HE.out b4)
    replace HB := Lib.hid (HB.out.trans (b4.mono HB.out.size))
    replace HT6 := Lib.hid (HT6.out.keep b4)
    clear b4
    obtain ⟨k9, hk9⟩ : ∃ q, q = u3.heap.size := ⟨_, rfl⟩
    rw [← hk9] at K9 ⊢
    clear hk9
    generalize u3.alloc (.cells c9 24) = u4 at *
    refine list_ev (v := .int .i64 (s.length : Int)) rfl (ev_assign rfl rfl) ?_
    simp only [Act.put, List.setIfInBounds_toArray, List.set_cons_zero, List.set_cons_succ]
    refine list_ev (v := .int .i64 e) rfl (ev_assign rfl rfl) ?_
    simp only [Act.put, List.setIfInBounds_toArray, List.set_cons_zero, List.set_cons_succ]
    go_upto_region 6 with fail
    refine wp_region_lit ?_
    refine list_ev (v := .int .i64 0) rfl (ev_move rfl rfl) ?_
    simp only [Act.put, List.setIfInBounds_toArray, List.set_cons_zero, List.set_cons_succ]
    refine list_ev (v := .bool false) rfl (by go_simp) ?_
    simp only [Act.put, List.setIfInBounds_toArray, List.set_cons_zero, List.set_cons_succ]
    refine list_ev (v := .bool false) rfl (ev_move rfl rfl) ?_
    simp only [Act.put, List.setIfInBounds_toArray, List.set_cons_zero, List.set_cons_succ]
    refine list_ev (v := .int .i64 e) ((Ch.want_at rfl rfl rfl).trans rfl) (ev_move rfl rfl) ?_
    simp only [Act.put, List.setIfInBounds_toArray, List.set_cons_zero, List.set_cons_succ]
    refine list_ev (v := .bool false) ((Ch.want_at rfl rfl rfl).trans rfl) (by go_simp) ?_
    simp only [Act.put, List.setIfInBounds_toArray, List.set_cons_zero, List.set_cons_succ]
    refine list_ev (v := .bool false) rfl (by go_simp) ?_
    simp only [Act.put, List.setIfInBounds_toArray, List.set_cons_zero, List.set_cons_succ]
    refine list_ev (v := .bool false) rfl (ev_move rfl rfl) ?_
    simp only [Act.put, List.setIfInBounds_toArray, List.set_cons_zero, List.set_cons_succ]
    refine list_ev (v := .int .i64 (s.length : Int)) ((Ch.want_at rfl rfl rfl).trans rfl) (ev_move rfl rfl) ?_
    simp only [Act.put, List.setIfInBounds_toArray, List.set_cons_zero, List.set_cons_succ]
    refine list_ev (v := .bool false) ((Ch.want_at rfl rfl rfl).trans rfl) (by go_simp) ?_
    simp only [Act.put, List.setIfInBounds_toArray, List.set_cons_zero, List.set_cons_succ]
    refine list_ev (v := .bool false) rfl (by go_simp) ?_
    simp only [Act.put, List.setIfInBounds_toArray, List.set_cons_zero, List.set_cons_succ]
    refine list_ev (v := .bool false) rfl (ev_move rfl rfl) ?_
    simp only [Act.put, List.setIfInBounds_toArray, List.set_cons_zero, List.set_cons_succ]
    refine list_ev (v := .int .i64 (s.length : Int)) ((Ch.want_at rfl rfl rfl).trans rfl) (ev_move rfl rfl) ?_
    simp only [Act.put, List.setIfInBounds_toArray, List.set_cons_zero, List.set_cons_succ]
    refine list_ev (v := .string (bs s)) ((Ch.want_at rfl rfl rfl).trans rfl) (ev_move rfl rfl) ?_
    simp only [Act.put, List.setIfInBounds_toArray, List.set_cons_zero, List.set_cons_succ]
    refine list_ev (v := .int .i64 (s.length : Int)) ((Ch.want_at rfl rfl rfl).trans rfl) (by go_simp) ?_
    simp only [Act.put, List.setIfInBounds_toArray, List.set_cons_zero, List.set_cons_succ]
    refine list_ev (v := .bool true) ((Ch.want_at rfl rfl rfl).trans rfl) (by go_simp) ?_
    simp only [Act.put, List.setIfInBounds_toArray, List.set_cons_zero, List.set_cons_succ]
    refine list_ev (v := .bool true) rfl (by go_simp) ?_
    simp only [Act.put, List.setIfInBounds_toArray, List.set_cons_zero, List.set_cons_succ]
    go_upto_region 7 with fail
    refine wp_region_lit ?_
    refine list_ev (v := .bool true) rfl (ev_move rfl rfl) ?_
    simp only [Act.put, List.setIfInBounds_toArray, List.set_cons_zero, List.set_cons_succ]
    refine list_ev (v := .bool true) rfl (ev_move rfl rfl) ?_
    simp only [Act.put, List.setIfInBounds_toArray, List.set_cons_zero, List.set_cons_succ]
    refine list_ev (v := .int .i64 0) ((Ch.want_at rfl rfl rfl).trans rfl) (ev_move rfl rfl) ?_
    simp only [Act.put, List.setIfInBounds_toArray, List.set_cons_zero, List.set_cons_succ]
    refine list_ev (v := .bool false) ((Ch.want_at rfl rfl rfl).trans rfl) (by go_simp) ?_
    simp only [Act.put, List.setIfInBounds_toArray, List.set_cons_zero, List.set_cons_succ]
    refine list_ev (v := .bool false) ((Ch.want_at rfl rfl rfl).trans rfl) (ev_move rfl rfl) ?_
    simp only [Act.put, List.setIfInBounds_toArray, List.set_cons_zero, List.set_cons_succ]
    refine list_ev (v := .int .i64 e) ((Ch.want_at rfl rfl rfl).trans rfl) (ev_move rfl rfl) ?_
    simp only [Act.put, List.setIfInBounds_toArray, List.set_cons_zero, List.set_cons_succ]
    refine list_ev (v := .bool false) ((Ch.want_at rfl rfl rfl).trans rfl) (by go_simp) ?_
    simp only [Act.put, List.setIfInBounds_toArray, List.set_cons_zero, List.set_cons_succ]
    refine list_ev (v := .bool false) ((Ch.want_at rfl rfl rfl).trans rfl) (by go_simp) ?_
    simp only [Act.put, List.setIfInBounds_toArray, List.set_cons_zero, List.set_cons_succ]
    refine list_ev (v := .bool false) ((Ch.want_at rfl rfl rfl).trans rfl) (ev_move rfl rfl) ?_
    simp only [Act.put, List.setIfInBounds_toArray, List.set_cons_zero, List.set_cons_succ]
    refine list_ev (v := .int .i64 (s.length : Int)) ((Ch.want_at rfl rfl rfl).trans rfl) (ev_move rfl rfl) ?_
    simp only [Act.put, List.setIfInBounds_toArray, List.set_cons_zero, List.set_cons_succ]
    refine list_ev (v := .string (bs s)) ((Ch.want_at rfl rfl rfl).trans rfl) (ev_move rfl rfl) ?_
    simp only [Act.put, List.setIfInBounds_toArray, List.set_cons_zero, List.set_cons_succ]
    refine list_ev (v := .int .i64 (s.length : Int)) ((Ch.want_at rfl rfl rfl).trans rfl) (by go_simp) ?_
    simp only [Act.put, List.setIfInBounds_toArray, List.set_cons_zero, List.set_cons_succ]
    refine list_ev (v := .bool true) ((Ch.want_at rfl rfl rfl).trans rfl) (by go_simp) ?_
    simp only [Act.put, List.setIfInBounds_toArray, List.set_cons_zero, List.set_cons_succ]
    refine list_ev (v := .bool true) ((Ch.want_at rfl rfl rfl).trans rfl) (by go_simp) ?_
    simp only [Act.put, List.setIfInBounds_toArray, List.set_cons_zero, List.set_cons_succ]
    refine list_ev (v := .bool true) rfl (by go_simp) ?_
    simp only [Act.put, List.setIfInBounds_toArray, List.set_cons_zero, List.set_cons_succ]
    refine list_ev (v := .bool true) rfl (ev_assign rfl rfl) ?_
    simp only [Act.put, List.setIfInBounds_toArray, List.set_cons_zero, List.set_cons_succ]
    go_wp2
    go_ret
    exact ⟨rfl, HB.out⟩
  · have hne9 : (e == 0) = false := by simpa using hne
    go_upto_region 4 with fail
    refine wp_region_lit ?_
    refine list_ev (v := .string (bs s)) rfl (ev_move rfl rfl) ?_
    simp only [Act.put, List.setIfInBounds_toArray, List.set_cons_zero, List.set_cons_succ]
    refine list_callP rfl (ev_call1 rfl (enters_of Tryd.func13 (by kernel_rfl) rfl)) (A.lex_gen hx HE.out (by omega)) ?_
    rintro e2 u2 ⟨a6, c6, rfl, t6, b2⟩
    refine ⟨_, rfl, ?_⟩
    replace HE := Lib.hid (A.keep HE.out b2)
    replace HB := Lib.hid (HB.out.trans (b2.mono HB.out.size))
    clear b2
    simp only [Act.put, List.setIfInBounds_toArray, List.set_cons_zero, List.set_cons_succ]
    refine list_ev (v := .tuple #[.slice a6 (ts).length c6, .int .i64 0, .int .i64 0]) rfl (ev_move rfl rfl) ?_
    simp only [Act.put, List.setIfInBounds_toArray, List.set_cons_zero, List.set_cons_succ]
    refine list_ev (v := .slice a6 (ts).length c6) rfl (by go_simp) ?_
    simp only [Act.put, List.setIfInBounds_toArray, List.set_cons_zero, List.set_cons_succ]
    refine list_ev (v := .int .i64 0) rfl (by go_simp) ?_
    simp only [Act.put, List.setIfInBounds_toArray, List.set_cons_zero, List.set_cons_succ]
    refine list_ev (v := .int .i64 0) rfl (by go_simp) ?_
    simp only [Act.put, List.setIfInBounds_toArray, List.set_cons_zero, List.set_cons_succ]
    refine list_ev (v := .slice a6 (ts).length c6) rfl (ev_assign rfl rfl) ?_
    simp only [Act.put, List.setIfInBounds_toArray, List.set_cons_zero, List.set_cons_succ]
    refine list_ev (v := .int .i64 0) rfl (ev_assign rfl rfl) ?_
    simp only [Act.put, List.setIfInBounds_toArray, List.set_cons_zero, List.set_cons_succ]
    refine list_ev (v := .int .i64 0) rfl (ev_assign rfl rfl) ?_
    simp only [Act.put, List.setIfInBounds_toArray, List.set_cons_zero, List.set_cons_succ]
    have HT6 := Lib.hid t6
    clear t6
    go_upto_region 5 with fail
    refine wp_region_lit ?_
    refine list_ev (v := .string (bs s)) rfl (ev_move rfl rfl) ?_
    simp only [Act.put, List.setIfInBounds_toArray, List.set_cons_zero, List.set_cons_succ]
    refine list_callP rfl (ev_call1 rfl (enters_of Tryd.func11 (by kernel_rfl) rfl)) (A.parse_eq hp HE.out (by omega)) ?_
    rintro e3 u3 ⟨c9, rfl, p9, b3⟩
    refine ⟨_, rfl, ?_⟩
    replace HE := Lib.hid (A.keep HE.out b3)
    replace HB := Lib.hid (HB.out.trans (b3.mono HB.out.size))
    replace HT6 := Lib.hid (HT6.out.keep b3)
    clear b3
    simp only [Act.put, List.setIfInBounds_toArray, List.set_cons_zero, List.set_cons_succ]
    refine list_ev (v := .tuple #[.agg c9, .int .i64 (a : Int), .int .i64 e]) rfl (ev_move rfl rfl) ?_
    simp only [Act.put, List.setIfInBounds_toArray, List.set_cons_zero, List.set_cons_succ]
    refine list_ev (v := .agg c9) rfl (by go_simp) ?_
    simp only [Act.put, List.setIfInBounds_toArray, List.set_cons_zero, List.set_cons_succ]
    refine list_ev (v := .int .i64 (a : Int)) rfl (by go_simp) ?_
    simp only [Act.put, List.setIfInBounds_toArray, List.set_cons_zero, List.set_cons_succ]
    refine list_ev (v := .int .i64 e) rfl (by go_simp) ?_
    simp only [Act.put, List.setIfInBounds_toArray, List.set_cons_zero, List.set_cons_succ]
    refine list_new p9 (by simp) (by decide) rfl ?_
    simp only [Act.put, List.setIfInBounds_toArray, List.set_cons_zero, List.set_cons_succ]
    have K9 := Lib.hid (Box.new p9)
    have b4 : Below u3.heap.size u3 (u3.alloc (.cells c9 24)) := (Below.refl _ _).alloc (Nat.le_refl _) _
    replace HE := Lib.hid (A.keep HE.out b4)
    replace HB := Lib.hid (HB.out.trans (b4.mono HB.out.size))
    replace HT6 := Lib.hid (HT6.out.keep b4)
    clear b4
    obtain ⟨k9, hk9⟩ : ∃ q, q = u3.heap.size := ⟨_, rfl⟩
    rw [← hk9] at K9 ⊢
    clear hk9
    generalize u3.alloc (.cells c9 24) = u4 at *
    refine list_ev (v := .int .i64 (a : Int)) rfl (ev_assign rfl rfl) ?_
    simp only [Act.put, List.setIfInBounds_toArray, List.set_cons_zero, List.set_cons_succ]
    refine list_ev (v := .int .i64 e) rfl (ev_assign rfl rfl) ?_
    simp only [Act.put, List.setIfInBounds_toArray, List.set_cons_zero, List.set_cons_succ]
    go_upto_region 6 with fail
    refine wp_region_lit ?_
    refine list_ev (v := .int .i64 0) rfl (ev_move rfl rfl) ?_
    simp only [Act.put, List.setIfInBounds_toArray, List.set_cons_zero, List.set_cons_succ]
    refine list_ev (v := .bool false) rfl (by go_simp) ?_
    simp only [Act.put, List.setIfInBounds_toArray, List.set_cons_zero, List.set_cons_succ]
    refine list_ev (v := .bool false) rfl (ev_move rfl rfl) ?_
    simp only [Act.put, List.setIfInBounds_toArray, List.set_cons_zero, List.set_cons_succ]
    refine list_ev (v := .int .i64 e) ((Ch.want_at rfl rfl rfl).trans rfl) (ev_move rfl rfl) ?_
    simp only [Act.put, List.setIfInBounds_toArray, List.set_cons_zero, List.set_cons_succ]
    refine list_ev (v := .bool false) ((Ch.want_at rfl rfl rfl).trans rfl) (by go_simp) ?_
    simp only [Act.put, List.setIfInBounds_toArray, List.set_cons_zero, List.set_cons_succ]
    refine list_ev (v := .bool false) rfl (by go_simp) ?_
    simp only [Act.put, List.setIfInBounds_toArray, List.set_cons_zero, List.set_cons_succ]
    refine list_ev (v := .bool false) rfl (ev_move rfl rfl) ?_
    simp only [Act.put, List.setIfInBounds_toArray, List.set_cons_zero, List.set_cons_succ]
    refine list_ev (v := .int .i64 (a : Int)) ((Ch.want_at rfl rfl rfl).trans rfl) (ev_move rfl rfl) ?_
    simp only [Act.put, List.setIfInBounds_toArray, List.set_cons_zero, List.set_cons_succ]
    refine list_ev (v := .bool false) ((Ch.want_at rfl rfl rfl).trans rfl) (by go_simp) ?_
    simp only [Act.put, List.setIfInBounds_toArray, List.set_cons_zero, List.set_cons_succ]
    refine list_ev (v := .bool false) rfl (by go_simp) ?_
    simp only [Act.put, List.setIfInBounds_toArray, List.set_cons_zero, List.set_cons_succ]
    refine list_ev (v := .bool false) rfl (ev_move rfl rfl) ?_
    simp only [Act.put, List.setIfInBounds_toArray, List.set_cons_zero, List.set_cons_succ]
    refine list_ev (v := .int .i64 (a : Int)) ((Ch.want_at rfl rfl rfl).trans rfl) (ev_move rfl rfl) ?_
    simp only [Act.put, List.setIfInBounds_toArray, List.set_cons_zero, List.set_cons_succ]
    refine list_ev (v := .string (bs s)) ((Ch.want_at rfl rfl rfl).trans rfl) (ev_move rfl rfl) ?_
    simp only [Act.put, List.setIfInBounds_toArray, List.set_cons_zero, List.set_cons_succ]
    refine list_ev (v := .int .i64 (s.length : Int)) ((Ch.want_at rfl rfl rfl).trans rfl) (by go_simp) ?_
    simp only [Act.put, List.setIfInBounds_toArray, List.set_cons_zero, List.set_cons_succ]
    refine list_ev (v := .bool false) ((Ch.want_at rfl rfl rfl).trans rfl) (by go_simp) ?_
    simp only [Act.put, List.setIfInBounds_toArray, List.set_cons_zero, List.set_cons_succ]
    refine list_ev (v := .bool false) rfl (by go_simp) ?_
    simp only [Act.put, List.setIfInBounds_toArray, List.set_cons_zero, List.set_cons_succ]
    have hln : ts.length ≤ 3000 := (res_ends hx).2
    have HK := Lib.hid hk
    have HBEF := Lib.hid hbef
    have HMORE := Lib.hid hmore
    have HLESS := Lib.hid hless
    have HZA := Lib.hid hza
    have hkl : k < ts.length := (List.getElem?_eq_some_iff.1 hk).1
    clear hk hbef hmore hless hza hx hp hne9 hne
    go_wp2
    go_loopw [12] (fun i wr => ∃ j : Nat, j ≤ k ∧ i = .int .i64 j ∧ u4 = wr) (fun i _ => ts.length - (intOf i).toNat)
    case atStart => exact ⟨0, Nat.zero_le _, rfl, rfl⟩
    case round =>
      obtain ⟨j, hj, rfl, rfl⟩ := hrel
      obtain ⟨tb, off, cap, hh, _, hc⟩ := HT6.out.form (by omega)
      cases hh
      by_cases hlt : j < k
      · obtain ⟨t, ht⟩ : ∃ t, ts[j]? = some t := ⟨_, List.getElem?_eq_getElem (by omega)⟩
        obtain ⟨-, -, -, q3⟩ := hc j t ht
        have hpn : (t.pos != (a : Int)) = true := by simpa using HBEF.out j t hlt ht
        have hjl : (j : Int) < (ts.length : Int) := by omega
        clear hc ht
        go_wp2
        go_roundw
        case rel => exact ⟨j + 1, by omega, by go_num, by trivial⟩
        case measure => simp [intOf]; omega
      · obtain rfl : k = j := by omega
        obtain ⟨-, q1, -, q3⟩ := hc k z HK.out
        rw [HZA.out] at q3
        have hkl' : (k : Int) < (ts.length : Int) := by omega
        clear hc hlt hj
        obtain ⟨B1, hB1⟩ : ∃ q, q = s.take (a + z.text.length) := ⟨_, rfl⟩
        obtain ⟨B2, hB2⟩ : ∃ q, q = B1 ++ [32, 59, 32] := ⟨_, rfl⟩
        obtain ⟨B3, hB3⟩ : ∃ q, q = B2 ++ m := ⟨_, rfl⟩
        have zz := bs_size z.text
        have zm := bs_size m
        have zB1 := bs_size B1
        have zB2 := bs_size B2
        have lB1 : B1.length = a + z.text.length := by rw [hB1, List.length_take]; omega
        have lB2 : B2.length = a + z.text.length + 3 := by rw [hB2]; simp; omega
        have lB3 : B3.length = a + z.text.length + 3 + m.length := by rw [hB3]; simp; omega
        have eB1 : (bs s).extract 0 (a + z.text.length) = bs B1 := by rw [bs_extract, hB1, List.drop_zero, Nat.sub_zero]
        have eB2 : bs B1 ++ ({ data := #[32, 59, 32] } : ByteArray) = bs B2 := by rw [hB2]; exact bs_append B1 [32, 59, 32]
        have eB3 : bs B2 ++ bs m = bs B3 := by rw [hB3]; exact bs_append B2 m
        have HT3 := Lib.hid (show B3 = s.take (a + z.text.length) ++ 32 :: 59 :: 32 :: m by rw [hB3, hB2, hB1, List.append_assoc]; rfl)
        clear hB1 hB2 hB3
        obtain ⟨C1, hC1⟩ : ∃ q, q = s.take a := ⟨_, rfl⟩
        have lC1 : C1.length = a := by rw [hC1, List.length_take]; omega
        have eC1 : (bs s).extract 0 a = bs C1 := by rw [bs_extract, hC1, List.drop_zero, Nat.sub_zero]
        have HC1 := Lib.hid hC1
        clear hC1
        obtain ⟨⟨us, gi, ge⟩, hg⟩ : ∃ v, lexRes B3 = v := ⟨_, rfl⟩
        obtain ⟨⟨pf, pi, pe⟩, hq⟩ : ∃ v, parseS B3 = v := ⟨_, rfl⟩
        have HG := Lib.hid (fun h0 : ge = 0 => (show pi = (a : Int) ∧ e = pe by
          subst h0
          have h1 := HMORE.out m (by omega) us gi (by rw [← HT3.out]; exact hg)
          rw [← HT3.out, hq] at h1
          cases h1
          exact ⟨rfl, rfl⟩))
        obtain ⟨⟨qf, qi, qe⟩, hr⟩ : ∃ v, parseS C1 = v := ⟨_, rfl⟩
        have HL := Lib.hid (show qe = 0 ∨ (qi = (a : Int) ∧ qe ≠ 0) by
          rcases HLESS.out with ⟨p, i, h⟩ | ⟨p, e', h, h2⟩
          · rw [← HC1.out, hr] at h; cases h; exact .inl rfl
          · rw [← HC1.out, hr] at h; cases h; exact .inr ⟨rfl, h2⟩)
        clear HMORE HLESS HBEF
        go_upto_region 13 with fail
        refine wp_region_lit ?_
        refine list_ev (v := .string (bs B3)) rfl (ev_move rfl rfl) ?_
        simp only [Act.put, List.setIfInBounds_toArray, List.set_cons_zero, List.set_cons_succ]
        refine list_callP rfl (ev_call1 rfl (enters_of Tryd.func13 (by kernel_rfl) rfl)) (A.lex_gen hg HE.out (by omega)) ?_
        rintro e5 u5 ⟨a14, c14, rfl, t14, b5⟩
        refine ⟨_, rfl, ?_⟩
        replace K9 := Lib.hid (K9.out.keep b5)
        replace HE := Lib.hid (A.keep HE.out b5)
        replace HB := Lib.hid (HB.out.trans (b5.mono HB.out.size))
        replace HT6 := Lib.hid (HT6.out.keep b5)
        clear b5
        simp only [Act.put, List.setIfInBounds_toArray, List.set_cons_zero, List.set_cons_succ]
        refine list_ev (v := .tuple #[.slice a14 (us).length c14, .int .i64 gi, .int .i64 ge]) rfl (ev_move rfl rfl) ?_
        simp only [Act.put, List.setIfInBounds_toArray, List.set_cons_zero, List.set_cons_succ]
        refine list_ev (v := .slice a14 (us).length c14) rfl (by go_simp) ?_
        simp only [Act.put, List.setIfInBounds_toArray, List.set_cons_zero, List.set_cons_succ]
        refine list_ev (v := .int .i64 gi) rfl (by go_simp) ?_
        simp only [Act.put, List.setIfInBounds_toArray, List.set_cons_zero, List.set_cons_succ]
        refine list_ev (v := .int .i64 ge) rfl (by go_simp) ?_
        simp only [Act.put, List.setIfInBounds_toArray, List.set_cons_zero, List.set_cons_succ]
        refine list_ev (v := .slice a14 (us).length c14) rfl (ev_assign rfl rfl) ?_
        simp only [Act.put, List.setIfInBounds_toArray, List.set_cons_zero, List.set_cons_succ]
        refine list_ev (v := .int .i64 gi) rfl (ev_assign rfl rfl) ?_
        simp only [Act.put, List.setIfInBounds_toArray, List.set_cons_zero, List.set_cons_succ]
        refine list_ev (v := .int .i64 ge) rfl (ev_assign rfl rfl) ?_
        simp only [Act.put, List.setIfInBounds_toArray, List.set_cons_zero, List.set_cons_succ]
        go_upto_region 14 with fail
        refine wp_region_lit ?_
        refine list_ev (v := .string (bs B3)) rfl (ev_move rfl rfl) ?_
        simp only [Act.put, List.setIfInBounds_toArray, List.set_cons_zero, List.set_cons_succ]
        refine list_callP rfl (ev_call1 rfl (enters_of Tryd.func11 (by kernel_rfl) rfl)) (A.parse_eq hq HE.out (by omega)) ?_
        rintro e6 u6 ⟨c17, rfl, p17, b6⟩
        refine ⟨_, rfl, ?_⟩
        replace K9 := Lib.hid (K9.out.keep b6)
        replace HE := Lib.hid (A.keep HE.out b6)
        replace HB := Lib.hid (HB.out.trans (b6.mono HB.out.size))
        replace HT6 := Lib.hid (HT6.out.keep b6)
        clear b6
        simp only [Act.put, List.setIfInBounds_toArray, List.set_cons_zero, List.set_cons_succ]
        refine list_ev (v := .tuple #[.agg c17, .int .i64 pi, .int .i64 pe]) rfl (ev_move rfl rfl) ?_
        simp only [Act.put, List.setIfInBounds_toArray, List.set_cons_zero, List.set_cons_succ]
        refine list_ev (v := .agg c17) rfl (by go_simp) ?_
        simp only [Act.put, List.setIfInBounds_toArray, List.set_cons_zero, List.set_cons_succ]
        refine list_ev (v := .int .i64 pi) rfl (by go_simp) ?_
        simp only [Act.put, List.setIfInBounds_toArray, List.set_cons_zero, List.set_cons_succ]
        refine list_ev (v := .int .i64 pe) rfl (by go_simp) ?_
        simp only [Act.put, List.setIfInBounds_toArray, List.set_cons_zero, List.set_cons_succ]
        refine list_new p17 (by simp) (by decide) rfl ?_
        simp only [Act.put, List.setIfInBounds_toArray, List.set_cons_zero, List.set_cons_succ]
        have K17 := Lib.hid (Box.new p17)
        have b7 : Below u6.heap.size u6 (u6.alloc (.cells c17 24)) := (Below.refl _ _).alloc (Nat.le_refl _) _
        replace K9 := Lib.hid (K9.out.keep b7)
        replace HE := Lib.hid (A.keep HE.out b7)
        replace HB := Lib.hid (HB.out.trans (b7.mono HB.out.size))
        replace HT6 := Lib.hid (HT6.out.keep b7)
        clear b7
        obtain ⟨k17, hk17⟩ : ∃ q, q = u6.heap.size := ⟨_, rfl⟩
        rw [← hk17] at K17 ⊢
        clear hk17
        generalize u6.alloc (.cells c17 24) = u7 at *
        refine list_ev (v := .int .i64 pi) rfl (ev_assign rfl rfl) ?_
        simp only [Act.put, List.setIfInBounds_toArray, List.set_cons_zero, List.set_cons_succ]
        refine list_ev (v := .int .i64 pe) rfl (ev_assign rfl rfl) ?_
        simp only [Act.put, List.setIfInBounds_toArray, List.set_cons_zero, List.set_cons_succ]
        go_upto_region 15 with fail
        refine wp_region_lit ?_
        refine list_ev (v := .string (bs s)) rfl (ev_move rfl rfl) ?_
        simp only [Act.put, List.setIfInBounds_toArray, List.set_cons_zero, List.set_cons_succ]
        refine list_ev (v := .int .i64 (a : Int)) rfl (ev_move rfl rfl) ?_
        simp only [Act.put, List.setIfInBounds_toArray, List.set_cons_zero, List.set_cons_succ]
        refine list_ev (v := .string (bs C1)) rfl (by have h1 : a ≤ s.length := (by omega); go_simp) ?_
        simp only [Act.put, List.setIfInBounds_toArray, List.set_cons_zero, List.set_cons_succ]
        refine list_callP rfl (ev_call1 rfl (enters_of Tryd.func11 (by kernel_rfl) rfl)) (A.parse_eq hr HE.out (by omega)) ?_
        rintro e8 u8 ⟨c20, rfl, p20, b8⟩
        refine ⟨_, rfl, ?_⟩
        replace K9 := Lib.hid (K9.out.keep b8)
        replace K17 := Lib.hid (K17.out.keep b8)
        replace HE := Lib.hid (A.keep HE.out b8)
        replace HB := Lib.hid (HB.out.trans (b8.mono HB.out.size))
        replace HT6 := Lib.hid (HT6.out.keep b8)
        clear b8
        simp only [Act.put, List.setIfInBounds_toArray, List.set_cons_zero, List.set_cons_succ]
        refine list_ev (v := .tuple #[.agg c20, .int .i64 qi, .int .i64 qe]) rfl (ev_move rfl rfl) ?_
        simp only [Act.put, List.setIfInBounds_toArray, List.set_cons_zero, List.set_cons_succ]
        refine list_ev (v := .agg c20) rfl (by go_simp) ?_
        simp only [Act.put, List.setIfInBounds_toArray, List.set_cons_zero, List.set_cons_succ]
        refine list_ev (v := .int .i64 qi) rfl (by go_simp) ?_
        simp only [Act.put, List.setIfInBounds_toArray, List.set_cons_zero, List.set_cons_succ]
        refine list_ev (v := .int .i64 qe) rfl (by go_simp) ?_
        simp only [Act.put, List.setIfInBounds_toArray, List.set_cons_zero, List.set_cons_succ]
        refine list_new p20 (by simp) (by decide) rfl ?_
        simp only [Act.put, List.setIfInBounds_toArray, List.set_cons_zero, List.set_cons_succ]
        have K20 := Lib.hid (Box.new p20)
        have b9 : Below u8.heap.size u8 (u8.alloc (.cells c20 24)) := (Below.refl _ _).alloc (Nat.le_refl _) _
        replace K9 := Lib.hid (K9.out.keep b9)
        replace K17 := Lib.hid (K17.out.keep b9)
        replace HE := Lib.hid (A.keep HE.out b9)
        replace HB := Lib.hid (HB.out.trans (b9.mono HB.out.size))
        replace HT6 := Lib.hid (HT6.out.keep b9)
        clear b9
        obtain ⟨k20, hk20⟩ : ∃ q, q = u8.heap.size := ⟨_, rfl⟩
        rw [← hk20] at K20 ⊢
        clear hk20
        generalize u8.alloc (.cells c20 24) = u9 at *
        refine list_ev (v := .int .i64 qi) rfl (ev_assign rfl rfl) ?_
        simp only [Act.put, List.setIfInBounds_toArray, List.set_cons_zero, List.set_cons_succ]
        refine list_ev (v := .int .i64 qe) rfl (ev_assign rfl rfl) ?_
        simp only [Act.put, List.setIfInBounds_toArray, List.set_cons_zero, List.set_cons_succ]
        by_cases hge : ge = 0
        · obtain ⟨hpi, hpe⟩ := HG.out hge
          subst hge hpi hpe
          rcases HL.out with hqe | ⟨hqi, hqe⟩
          · subst hqe
            go_upto_region 16 with fail
            refine wp_region_lit ?_
            refine list_ev (v := .int .i64 0) rfl (ev_move rfl rfl) ?_
            simp only [Act.put, List.setIfInBounds_toArray, List.set_cons_zero, List.set_cons_succ]
            refine list_ev (v := .bool true) rfl (by go_simp) ?_
            simp only [Act.put, List.setIfInBounds_toArray, List.set_cons_zero, List.set_cons_succ]
            refine list_ev (v := .bool true) rfl (ev_move rfl rfl) ?_
            simp only [Act.put, List.setIfInBounds_toArray, List.set_cons_zero, List.set_cons_succ]
            refine list_ev (v := .int .i64 (a : Int)) ((Ch.want_at rfl rfl rfl).trans rfl) (ev_move rfl rfl) ?_
            simp only [Act.put, List.setIfInBounds_toArray, List.set_cons_zero, List.set_cons_succ]
            refine list_ev (v := .int .i64 (a : Int)) ((Ch.want_at rfl rfl rfl).trans rfl) (ev_move rfl rfl) ?_
            simp only [Act.put, List.setIfInBounds_toArray, List.set_cons_zero, List.set_cons_succ]
            refine list_ev (v := .bool false) ((Ch.want_at rfl rfl rfl).trans rfl) (by go_simp) ?_
            simp only [Act.put, List.setIfInBounds_toArray, List.set_cons_zero, List.set_cons_succ]
            refine list_ev (v := .bool false) ((Ch.want_at rfl rfl rfl).trans rfl) (ev_move rfl rfl) ?_
            simp only [Act.put, List.setIfInBounds_toArray, List.set_cons_zero, List.set_cons_succ]
            refine list_ev (v := .int .i64 e) ((Ch.want_at rfl rfl rfl).trans rfl) (ev_move rfl rfl) ?_
            simp only [Act.put, List.setIfInBounds_toArray, List.set_cons_zero, List.set_cons_succ]
            refine list_ev (v := .int .i64 e) ((Ch.want_at rfl rfl rfl).trans rfl) (ev_move rfl rfl) ?_
            simp only [Act.put, List.setIfInBounds_toArray, List.set_cons_zero, List.set_cons_succ]
            refine list_ev (v := .bool false) ((Ch.want_at rfl rfl rfl).trans rfl) (by go_simp) ?_
            simp only [Act.put, List.setIfInBounds_toArray, List.set_cons_zero, List.set_cons_succ]
            refine list_ev (v := .bool false) ((Ch.want_at rfl rfl rfl).trans rfl) (by go_simp) ?_
            simp only [Act.put, List.setIfInBounds_toArray, List.set_cons_zero, List.set_cons_succ]
            refine list_ev (v := .bool false) rfl (by go_simp) ?_
            simp only [Act.put, List.setIfInBounds_toArray, List.set_cons_zero, List.set_cons_succ]
            refine list_ev (v := .bool false) rfl (ev_move rfl rfl) ?_
            simp only [Act.put, List.setIfInBounds_toArray, List.set_cons_zero, List.set_cons_succ]
            refine list_ev (v := .int .i64 0) ((Ch.want_at rfl rfl rfl).trans rfl) (ev_move rfl rfl) ?_
            simp only [Act.put, List.setIfInBounds_toArray, List.set_cons_zero, List.set_cons_succ]
            refine list_ev (v := .bool false) ((Ch.want_at rfl rfl rfl).trans rfl) (by go_simp) ?_
            simp only [Act.put, List.setIfInBounds_toArray, List.set_cons_zero, List.set_cons_succ]
            refine list_ev (v := .bool false) ((Ch.want_at rfl rfl rfl).trans rfl) (ev_move rfl rfl) ?_
            simp only [Act.put, List.setIfInBounds_toArray, List.set_cons_zero, List.set_cons_succ]
            refine list_off ((Ch.want_at rfl rfl rfl).trans rfl) ?_
            simp only [Act.put, List.setIfInBounds_toArray, List.set_cons_zero, List.set_cons_succ]
            refine list_off ((Ch.want_at rfl rfl rfl).trans rfl) ?_
            simp only [Act.put, List.setIfInBounds_toArray, List.set_cons_zero, List.set_cons_succ]
            refine list_off ((Ch.want_at rfl rfl rfl).trans rfl) ?_
            simp only [Act.put, List.setIfInBounds_toArray, List.set_cons_zero, List.set_cons_succ]
            refine list_ev (v := .bool false) ((Ch.want_at rfl rfl rfl).trans rfl) (by go_simp) ?_
            simp only [Act.put, List.setIfInBounds_toArray, List.set_cons_zero, List.set_cons_succ]
            refine list_ev (v := .bool false) rfl (by go_simp) ?_
            simp only [Act.put, List.setIfInBounds_toArray, List.set_cons_zero, List.set_cons_succ]
            go_wp2
            go_ret
            exact ⟨rfl, HB.out⟩
          · subst hqi
            have HQN := Lib.hid (show (qe != 0) = true by simpa using hqe)
            clear hqe
            go_upto_region 16 with fail
            refine wp_region_lit ?_
            refine list_ev (v := .int .i64 0) rfl (ev_move rfl rfl) ?_
            simp only [Act.put, List.setIfInBounds_toArray, List.set_cons_zero, List.set_cons_succ]
            refine list_ev (v := .bool true) rfl (by go_simp) ?_
            simp only [Act.put, List.setIfInBounds_toArray, List.set_cons_zero, List.set_cons_succ]
            refine list_ev (v := .bool true) rfl (ev_move rfl rfl) ?_
            simp only [Act.put, List.setIfInBounds_toArray, List.set_cons_zero, List.set_cons_succ]
            refine list_ev (v := .int .i64 (a : Int)) ((Ch.want_at rfl rfl rfl).trans rfl) (ev_move rfl rfl) ?_
            simp only [Act.put, List.setIfInBounds_toArray, List.set_cons_zero, List.set_cons_succ]
            refine list_ev (v := .int .i64 (a : Int)) ((Ch.want_at rfl rfl rfl).trans rfl) (ev_move rfl rfl) ?_
            simp only [Act.put, List.setIfInBounds_toArray, List.set_cons_zero, List.set_cons_succ]
            refine list_ev (v := .bool false) ((Ch.want_at rfl rfl rfl).trans rfl) (by go_simp) ?_
            simp only [Act.put, List.setIfInBounds_toArray, List.set_cons_zero, List.set_cons_succ]
            refine list_ev (v := .bool false) ((Ch.want_at rfl rfl rfl).trans rfl) (ev_move rfl rfl) ?_
            simp only [Act.put, List.setIfInBounds_toArray, List.set_cons_zero, List.set_cons_succ]
            refine list_ev (v := .int .i64 e) ((Ch.want_at rfl rfl rfl).trans rfl) (ev_move rfl rfl) ?_
            simp only [Act.put, List.setIfInBounds_toArray, List.set_cons_zero, List.set_cons_succ]
            refine list_ev (v := .int .i64 e) ((Ch.want_at rfl rfl rfl).trans rfl) (ev_move rfl rfl) ?_
            simp only [Act.put, List.setIfInBounds_toArray, List.set_cons_zero, List.set_cons_succ]
            refine list_ev (v := .bool false) ((Ch.want_at rfl rfl rfl).trans rfl) (by go_simp) ?_
            simp only [Act.put, List.setIfInBounds_toArray, List.set_cons_zero, List.set_cons_succ]
            refine list_ev (v := .bool false) ((Ch.want_at rfl rfl rfl).trans rfl) (by go_simp) ?_
            simp only [Act.put, List.setIfInBounds_toArray, List.set_cons_zero, List.set_cons_succ]
            refine list_ev (v := .bool false) rfl (by go_simp) ?_
            simp only [Act.put, List.setIfInBounds_toArray, List.set_cons_zero, List.set_cons_succ]
            refine list_ev (v := .bool false) rfl (ev_move rfl rfl) ?_
            simp only [Act.put, List.setIfInBounds_toArray, List.set_cons_zero, List.set_cons_succ]
            refine list_ev (v := .int .i64 qe) ((Ch.want_at rfl rfl rfl).trans rfl) (ev_move rfl rfl) ?_
            simp only [Act.put, List.setIfInBounds_toArray, List.set_cons_zero, List.set_cons_succ]
            refine list_ev (v := .bool true) ((Ch.want_at rfl rfl rfl).trans rfl) (by have h1 := HQN.out; go_simp) ?_
            simp only [Act.put, List.setIfInBounds_toArray, List.set_cons_zero, List.set_cons_succ]
            refine list_ev (v := .bool true) ((Ch.want_at rfl rfl rfl).trans rfl) (ev_move rfl rfl) ?_
            simp only [Act.put, List.setIfInBounds_toArray, List.set_cons_zero, List.set_cons_succ]
            refine list_ev (v := .int .i64 (a : Int)) ((Ch.want_at rfl rfl rfl).trans rfl) (ev_move rfl rfl) ?_
            simp only [Act.put, List.setIfInBounds_toArray, List.set_cons_zero, List.set_cons_succ]
            refine list_ev (v := .int .i64 (a : Int)) ((Ch.want_at rfl rfl rfl).trans rfl) (ev_move rfl rfl) ?_
            simp only [Act.put, List.setIfInBounds_toArray, List.set_cons_zero, List.set_cons_succ]
            refine list_ev (v := .bool false) ((Ch.want_at rfl rfl rfl).trans rfl) (by go_simp) ?_
            simp only [Act.put, List.setIfInBounds_toArray, List.set_cons_zero, List.set_cons_succ]
            refine list_ev (v := .bool false) ((Ch.want_at rfl rfl rfl).trans rfl) (by go_simp) ?_
            simp only [Act.put, List.setIfInBounds_toArray, List.set_cons_zero, List.set_cons_succ]
            refine list_ev (v := .bool false) rfl (by go_simp) ?_
            simp only [Act.put, List.setIfInBounds_toArray, List.set_cons_zero, List.set_cons_succ]
            go_wp2
            go_ret
            exact ⟨rfl, HB.out⟩
        · have HGB := Lib.hid (show (ge == 0) = false by simpa using hge)
          clear hge
          rcases HL.out with hqe | ⟨hqi, hqe⟩
          · subst hqe
            go_upto_region 16 with fail
            refine wp_region_lit ?_
            refine list_ev (v := .int .i64 ge) rfl (ev_move rfl rfl) ?_
            simp only [Act.put, List.setIfInBounds_toArray, List.set_cons_zero, List.set_cons_succ]
            refine list_ev (v := .bool (ge == 0)) rfl (by go_simp) ?_
            simp only [Act.put, List.setIfInBounds_toArray, List.set_cons_zero, List.set_cons_succ]
            refine list_ev (v := .bool (ge == 0)) rfl (ev_move rfl rfl) ?_
            simp only [Act.put, List.setIfInBounds_toArray, List.set_cons_zero, List.set_cons_succ]
            refine list_off ((Ch.want_at rfl rfl rfl).trans (by rw [HGB.out]; rfl)) ?_
            simp only [Act.put, List.setIfInBounds_toArray, List.set_cons_zero, List.set_cons_succ]
            refine list_off ((Ch.want_at rfl rfl rfl).trans (by rw [HGB.out]; rfl)) ?_
            simp only [Act.put, List.setIfInBounds_toArray, List.set_cons_zero, List.set_cons_succ]
            refine list_off ((Ch.want_at rfl rfl rfl).trans (by rw [HGB.out]; rfl)) ?_
            simp only [Act.put, List.setIfInBounds_toArray, List.set_cons_zero, List.set_cons_succ]
            refine list_off ((Ch.want_at rfl rfl rfl).trans (by rw [HGB.out]; rfl)) ?_
            simp only [Act.put, List.setIfInBounds_toArray, List.set_cons_zero, List.set_cons_succ]
            refine list_off (Ch.want_undef rfl rfl rfl) ?_
            simp only [Act.put, List.setIfInBounds_toArray, List.set_cons_zero, List.set_cons_succ]
            refine list_off (Ch.want_undef rfl rfl rfl) ?_
            simp only [Act.put, List.setIfInBounds_toArray, List.set_cons_zero, List.set_cons_succ]
            refine list_off (Ch.want_undef rfl rfl rfl) ?_
            simp only [Act.put, List.setIfInBounds_toArray, List.set_cons_zero, List.set_cons_succ]
            refine list_off ((Ch.want_at rfl rfl rfl).trans (by rw [HGB.out]; rfl)) ?_
            simp only [Act.put, List.setIfInBounds_toArray, List.set_cons_zero, List.set_cons_succ]
            refine list_ev (v := .bool false) rfl (by have h0 := HGB.out; go_simp) ?_
            simp only [Act.put, List.setIfInBounds_toArray, List.set_cons_zero, List.set_cons_succ]
            refine list_ev (v := .bool false) rfl (ev_move rfl rfl) ?_
            simp only [Act.put, List.setIfInBounds_toArray, List.set_cons_zero, List.set_cons_succ]
            refine list_ev (v := .int .i64 0) ((Ch.want_at rfl rfl rfl).trans rfl) (ev_move rfl rfl) ?_
            simp only [Act.put, List.setIfInBounds_toArray, List.set_cons_zero, List.set_cons_succ]
            refine list_ev (v := .bool false) ((Ch.want_at rfl rfl rfl).trans rfl) (by go_simp) ?_
            simp only [Act.put, List.setIfInBounds_toArray, List.set_cons_zero, List.set_cons_succ]
            refine list_ev (v := .bool false) ((Ch.want_at rfl rfl rfl).trans rfl) (ev_move rfl rfl) ?_
            simp only [Act.put, List.setIfInBounds_toArray, List.set_cons_zero, List.set_cons_succ]
            refine list_off ((Ch.want_at rfl rfl rfl).trans rfl) ?_
            simp only [Act.put, List.setIfInBounds_toArray, List.set_cons_zero, List.set_cons_succ]
            refine list_off ((Ch.want_at rfl rfl rfl).trans rfl) ?_
            simp only [Act.put, List.setIfInBounds_toArray, List.set_cons_zero, List.set_cons_succ]
            refine list_off ((Ch.want_at rfl rfl rfl).trans rfl) ?_
            simp only [Act.put, List.setIfInBounds_toArray, List.set_cons_zero, List.set_cons_succ]
            refine list_ev (v := .bool false) ((Ch.want_at rfl rfl rfl).trans rfl) (by go_simp) ?_
            simp only [Act.put, List.setIfInBounds_toArray, List.set_cons_zero, List.set_cons_succ]
            refine list_ev (v := .bool false) rfl (by go_simp) ?_
            simp only [Act.put, List.setIfInBounds_toArray, List.set_cons_zero, List.set_cons_succ]
            go_wp2
            go_ret
            exact ⟨rfl, HB.out⟩
          · subst hqi
            have HQN := Lib.hid (show (qe != 0) = true by simpa using hqe)
            clear hqe
            go_upto_region 16 with fail
            refine wp_region_lit ?_
            refine list_ev (v := .int .i64 ge) rfl (ev_move rfl rfl) ?_
            simp only [Act.put, List.setIfInBounds_toArray, List.set_cons_zero, List.set_cons_succ]
            refine list_ev (v := .bool (ge == 0)) rfl (by go_simp) ?_
            simp only [Act.put, List.setIfInBounds_toArray, List.set_cons_zero, List.set_cons_succ]
            refine list_ev (v := .bool (ge == 0)) rfl (ev_move rfl rfl) ?_
            simp only [Act.put, List.setIfInBounds_toArray, List.set_cons_zero, List.set_cons_succ]
            refine list_off ((Ch.want_at rfl rfl rfl).trans (by rw [HGB.out]; rfl)) ?_
            simp only [Act.put, List.setIfInBounds_toArray, List.set_cons_zero, List.set_cons_succ]
            refine list_off ((Ch.want_at rfl rfl rfl).trans (by rw [HGB.out]; rfl)) ?_
            simp only [Act.put, List.setIfInBounds_toArray, List.set_cons_zero, List.set_cons_succ]
            refine list_off ((Ch.want_at rfl rfl rfl).trans (by rw [HGB.out]; rfl)) ?_
            simp only [Act.put, List.setIfInBounds_toArray, List.set_cons_zero, List.set_cons_succ]
            refine list_off ((Ch.want_at rfl rfl rfl).trans (by rw [HGB.out]; rfl)) ?_
            simp only [Act.put, List.setIfInBounds_toArray, List.set_cons_zero, List.set_cons_succ]
            refine list_off (Ch.want_undef rfl rfl rfl) ?_
            simp only [Act.put, List.setIfInBounds_toArray, List.set_cons_zero, List.set_cons_succ]
            refine list_off (Ch.want_undef rfl rfl rfl) ?_
            simp only [Act.put, List.setIfInBounds_toArray, List.set_cons_zero, List.set_cons_succ]
            refine list_off (Ch.want_undef rfl rfl rfl) ?_
            simp only [Act.put, List.setIfInBounds_toArray, List.set_cons_zero, List.set_cons_succ]
            refine list_off ((Ch.want_at rfl rfl rfl).trans (by rw [HGB.out]; rfl)) ?_
            simp only [Act.put, List.setIfInBounds_toArray, List.set_cons_zero, List.set_cons_succ]
            refine list_ev (v := .bool false) rfl (by have h0 := HGB.out; go_simp) ?_
            simp only [Act.put, List.setIfInBounds_toArray, List.set_cons_zero, List.set_cons_succ]
            refine list_ev (v := .bool false) rfl (ev_move rfl rfl) ?_
            simp only [Act.put, List.setIfInBounds_toArray, List.set_cons_zero, List.set_cons_succ]
            refine list_ev (v := .int .i64 qe) ((Ch.want_at rfl rfl rfl).trans rfl) (ev_move rfl rfl) ?_
            simp only [Act.put, List.setIfInBounds_toArray, List.set_cons_zero, List.set_cons_succ]
            refine list_ev (v := .bool true) ((Ch.want_at rfl rfl rfl).trans rfl) (by have h1 := HQN.out; go_simp) ?_
            simp only [Act.put, List.setIfInBounds_toArray, List.set_cons_zero, List.set_cons_succ]
            refine list_ev (v := .bool true) ((Ch.want_at rfl rfl rfl).trans rfl) (ev_move rfl rfl) ?_
            simp only [Act.put, List.setIfInBounds_toArray, List.set_cons_zero, List.set_cons_succ]
            refine list_ev (v := .int .i64 (a : Int)) ((Ch.want_at rfl rfl rfl).trans rfl) (ev_move rfl rfl) ?_
            simp only [Act.put, List.setIfInBounds_toArray, List.set_cons_zero, List.set_cons_succ]
            refine list_ev (v := .int .i64 (a : Int)) ((Ch.want_at rfl rfl rfl).trans rfl) (ev_move rfl rfl) ?_
            simp only [Act.put, List.setIfInBounds_toArray, List.set_cons_zero, List.set_cons_succ]
            refine list_ev (v := .bool false) ((Ch.want_at rfl rfl rfl).trans rfl) (by go_simp) ?_
            simp only [Act.put, List.setIfInBounds_toArray, List.set_cons_zero, List.set_cons_succ]
            refine list_ev (v := .bool false) ((Ch.want_at rfl rfl rfl).trans rfl) (by go_simp) ?_
            simp only [Act.put, List.setIfInBounds_toArray, List.set_cons_zero, List.set_cons_succ]
            refine list_ev (v := .bool false) rfl (by go_simp) ?_
            simp only [Act.put, List.setIfInBounds_toArray, List.set_cons_zero, List.set_cons_succ]
            go_wp2
            go_ret
            exact ⟨rfl, HB.out⟩
end
end Go.Proofs.YtlefgffnjcmfoaaDoor
