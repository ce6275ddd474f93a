/- The walk of SyntaxTells. -/
import Derived.Test.YtlefgffnjcmfoaaGreatDoorMG
import Derived.Test.YtlefgffnjcmfoaaGreatDoorME
namespace Go.Proofs.YtlefgffnjcmfoaaGreatDoor
open Go.RowKit Go.Maps Go.ChangeMaps Go.MapKept
open Lx Sy Ch
attribute [local go_sem ↓] Go.wp_at_zero Go.wp_at_succ
theorem Ch.does_reads {P : Program} {a : Act} {w : World} {o : Oper} {V : World → Value → Prop} {f : FuncId} {args : Array Value} {v : Value} (h : (execOp a.eval o).run P w = .ok (.enter f args) w) (hC : Calls P f args w (Reads w v)) (hV : V = isV v) : Does P o a w V :=
  .inr ⟨f, args, h, hC.mono fun e w' ⟨h1, h2⟩ => ⟨v, h1, h2, by subst hV; rfl⟩⟩
theorem few_parsed {t : S} {r : Pf} {i e : Int} (ht : t.length ≤ 900) (h : parseS t = (r, i, e)) : fewP r = true := by
  rcases parseS_cases t (by omega) with ⟨q, h1, h2⟩ | ⟨i', e', h1, _⟩
  · rw [h1] at h; cases h; exact few_of h2
  · rw [h1] at h; cases h; exact few_zero
section
variable {E : World → Prop} {w : World}
set_option maxHeartbeats 8000000 in
set_option maxRecDepth 100000 in
theorem tells_walk (A : YApi E) (hE : E w) {x y : Value} {p q : Pf} {s : S} (hx : PfAt w x p) (hy : PfAt w y q) : Calls Tryz.prog 3 #[.string (bs s), x, y] w (Reads w (.bool true)) := by
  obtain ⟨cs, rfl, -⟩ := hx.cells
  obtain ⟨ds, rfl, -⟩ := hy.cells
  have hz := bs_size s
  obtain ⟨t, htt⟩ : ∃ t, t = s.take 900 := ⟨_, rfl⟩
  have htl : t.length ≤ 900 := by rw [htt]; simp; omega
  have hts : t.length ≤ s.length := by rw [htt]; simp; omega
  have hmin : min (s.length : Int) 900 = (t.length : Int) := by rw [htt]; simp; omega
  have hext : (bs s).extract 0 t.length = bs t := by rw [htt]; exact cut_at s 900
  clear htt
  unfold Reads
  have b1 : Below w.heap.size w (w.alloc (.cells cs 24)) := (Below.refl _ _).alloc (Nat.le_refl _) _
  have b2 : Below (w.alloc (.cells cs 24)).heap.size (w.alloc (.cells cs 24)) ((w.alloc (.cells cs 24)).alloc (.cells ds 24)) := (Below.refl _ _).alloc (Nat.le_refl _) _
  have HB := Lib.hid (b1.trans (b2.mono b1.size))
  have HE := Lib.hid (A.keep hE HB.out)
  have K4 := Lib.hid ((Box.new hx).keep b2)
  have K5 := Lib.hid (Box.new (hy.keep b1))
  have e5 : (w.alloc (.cells cs 24)).heap.size = w.heap.size + 1 := by simp
  rw [e5] at K5
  clear hE hx hy b1 b2 e5
  go_enter Tryz.func3, Tryz.ntmps3
  go_upto_region 1 with fail
  obtain ⟨k4, hk4⟩ : ∃ q, q = w.heap.size := ⟨_, rfl⟩
  obtain ⟨k5, hk5⟩ : ∃ q, q = w.heap.size + 1 := ⟨_, rfl⟩
  rw [← hk5] at K5 ⊢
  rw [← hk4] at K4 ⊢
  generalize (w.alloc (.cells cs 24)).alloc (.cells ds 24) = u0 at *
  clear hk4 hk5
  refine wp_region_lit ?_
  refine list_callP rfl (ev_call0 (enters_of Tryz.func4 (by kernel_rfl) rfl)) (small_any A HE.out) ?_
  rintro e1 u1 ⟨rfl, b1⟩
  refine ⟨_, rfl, ?_⟩
  replace K4 := Lib.hid (K4.out.keep b1)
  replace K5 := Lib.hid (K5.out.keep b1)
  replace HE := Lib.hid (A.keep HE.out b1)
  replace HB := Lib.hid (HB.out.trans (b1.mono HB.out.size))
  clear b1
  simp only [Act.put, List.setIfInBounds_toArray, List.set_cons_zero, List.set_cons_succ]
  refine list_ev (v := .bool true) rfl (ev_assign rfl rfl) ?_
  simp only [Act.put, List.setIfInBounds_toArray, List.set_cons_zero, List.set_cons_succ]
  by_cases hf : fewP p = true
  · by_cases hg : fewP q = true
    · go_upto_region 2 with fail
      refine wp_region_lit ?_
      refine list_ev (v := .agg cs) rfl (K4.out.load rfl rfl) ?_
      simp only [Act.put, List.setIfInBounds_toArray, List.set_cons_zero, List.set_cons_succ]
      refine list_callP rfl (ev_call1 rfl (enters_of Tryz.func5 (by kernel_rfl) rfl)) (q_few hf K4.out.pf) ?_
      rintro e2 u2 ⟨rfl, b2⟩
      refine ⟨_, rfl, ?_⟩
      replace K4 := Lib.hid (K4.out.keep b2)
      replace K5 := Lib.hid (K5.out.keep b2)
      replace HE := Lib.hid (A.keep HE.out b2)
      replace HB := Lib.hid (HB.out.trans (b2.mono HB.out.size))
      clear b2
      simp only [Act.put, List.setIfInBounds_toArray, List.set_cons_zero, List.set_cons_succ]
      refine list_ev (v := .bool false) rfl (by go_simp) ?_
      simp only [Act.put, List.setIfInBounds_toArray, List.set_cons_zero, List.set_cons_succ]
      refine list_ev (v := .bool false) rfl (ev_move rfl rfl) ?_
      simp only [Act.put, List.setIfInBounds_toArray, List.set_cons_zero, List.set_cons_succ]
      refine list_ev (v := .agg ds) ((Ch.want_at rfl rfl rfl).trans rfl) (K5.out.load rfl rfl) ?_
      simp only [Act.put, List.setIfInBounds_toArray, List.set_cons_zero, List.set_cons_succ]
      refine list_callP ((Ch.want_at rfl rfl rfl).trans rfl) (ev_call1 rfl (enters_of Tryz.func5 (by kernel_rfl) rfl)) (q_few hg K5.out.pf) ?_
      rintro e3 u3 ⟨rfl, b3⟩
      refine ⟨_, rfl, ?_⟩
      replace K4 := Lib.hid (K4.out.keep b3)
      replace K5 := Lib.hid (K5.out.keep b3)
      replace HE := Lib.hid (A.keep HE.out b3)
      replace HB := Lib.hid (HB.out.trans (b3.mono HB.out.size))
      clear b3
      simp only [Act.put, List.setIfInBounds_toArray, List.set_cons_zero, List.set_cons_succ]
      refine list_ev (v := .bool false) ((Ch.want_at rfl rfl rfl).trans rfl) (by go_simp) ?_
      simp only [Act.put, List.setIfInBounds_toArray, List.set_cons_zero, List.set_cons_succ]
      refine list_ev (v := .bool false) rfl (by go_simp) ?_
      simp only [Act.put, List.setIfInBounds_toArray, List.set_cons_zero, List.set_cons_succ]
      go_upto_region 4 with fail
      refine wp_region_lit ?_
      refine list_ev (v := .string (bs s)) rfl (ev_move rfl rfl) ?_
      simp only [Act.put, List.setIfInBounds_toArray, List.set_cons_zero, List.set_cons_succ]
      refine list_ev (v := .string (bs s)) rfl (ev_move rfl rfl) ?_
      simp only [Act.put, List.setIfInBounds_toArray, List.set_cons_zero, List.set_cons_succ]
      refine list_ev (v := .int .i64 (s.length : Int)) rfl (by go_simp) ?_
      simp only [Act.put, List.setIfInBounds_toArray, List.set_cons_zero, List.set_cons_succ]
      refine list_ev (v := .int .i64 (t.length : Int)) rfl (by go_simp; split <;> omega) ?_
      simp only [Act.put, List.setIfInBounds_toArray, List.set_cons_zero, List.set_cons_succ]
      refine list_ev (v := .string (bs t)) rfl (by go_simp) ?_
      simp only [Act.put, List.setIfInBounds_toArray, List.set_cons_zero, List.set_cons_succ]
      refine list_ev (v := .string (bs t)) rfl (ev_assign rfl rfl) ?_
      simp only [Act.put, List.setIfInBounds_toArray, List.set_cons_zero, List.set_cons_succ]
      obtain ⟨⟨r, i, e⟩, hp⟩ : ∃ y, parseS t = y := ⟨_, rfl⟩
      obtain ⟨⟨z, g⟩, hpr⟩ : ∃ y, printS p = y := ⟨_, rfl⟩
      have hfr : fewP r = true := few_parsed htl hp
      go_upto_region 5 with fail
      refine wp_region_lit ?_
      refine list_ev (v := .string (bs t)) rfl (ev_move rfl rfl) ?_
      simp only [Act.put, List.setIfInBounds_toArray, List.set_cons_zero, List.set_cons_succ]
      refine list_callP rfl (ev_call1 rfl (enters_of Tryz.func6 (by kernel_rfl) rfl)) (A.parse_eq hp HE.out (by omega)) ?_
      rintro e4 u4 ⟨c9, rfl, p9, b4⟩
      refine ⟨_, rfl, ?_⟩
      replace K4 := Lib.hid (K4.out.keep b4)
      replace K5 := Lib.hid (K5.out.keep b4)
      replace HE := Lib.hid (A.keep HE.out b4)
      replace HB := Lib.hid (HB.out.trans (b4.mono HB.out.size))
      clear b4
      simp only [Act.put, List.setIfInBounds_toArray, List.set_cons_zero, List.set_cons_succ]
      refine list_ev (v := .tuple #[.agg c9, .int .i64 i, .int .i64 e]) rfl (ev_move rfl rfl) ?_
      simp only [Act.put, List.setIfInBounds_toArray, List.set_cons_zero, List.set_cons_succ]
      refine list_ev (v := .agg c9) rfl (by go_simp) ?_
      simp only [Act.put, List.setIfInBounds_toArray, List.set_cons_zero, List.set_cons_succ]
      refine list_ev (v := .int .i64 i) rfl (by go_simp) ?_
      simp only [Act.put, List.setIfInBounds_toArray, List.set_cons_zero, List.set_cons_succ]
      refine list_ev (v := .int .i64 e) rfl (by go_simp) ?_
      simp only [Act.put, List.setIfInBounds_toArray, List.set_cons_zero, List.set_cons_succ]
      refine list_new p9 (by simp) (by decide) rfl ?_
      simp only [Act.put, List.setIfInBounds_toArray, List.set_cons_zero, List.set_cons_succ]
      have K9 := Lib.hid (Box.new p9)
      have b5 : Below u4.heap.size u4 (u4.alloc (.cells c9 24)) := (Below.refl _ _).alloc (Nat.le_refl _) _
      replace K4 := Lib.hid (K4.out.keep b5)
      replace K5 := Lib.hid (K5.out.keep b5)
      replace HE := Lib.hid (A.keep HE.out b5)
      replace HB := Lib.hid (HB.out.trans (b5.mono HB.out.size))
      clear b5
      obtain ⟨k9, hk9⟩ : ∃ q, q = u4.heap.size := ⟨_, rfl⟩
      rw [← hk9] at K9 ⊢
      clear hk9
      generalize u4.alloc (.cells c9 24) = u5 at *
      refine list_ev (v := .int .i64 i) rfl (ev_assign rfl rfl) ?_
      simp only [Act.put, List.setIfInBounds_toArray, List.set_cons_zero, List.set_cons_succ]
      refine list_ev (v := .int .i64 e) rfl (ev_assign rfl rfl) ?_
      simp only [Act.put, List.setIfInBounds_toArray, List.set_cons_zero, List.set_cons_succ]
      go_upto_region 6 with fail
      refine wp_region_lit ?_
      refine list_ev (v := .string (bs t)) rfl (ev_move rfl rfl) ?_
      simp only [Act.put, List.setIfInBounds_toArray, List.set_cons_zero, List.set_cons_succ]
      refine list_callP rfl (ev_call1 rfl (enters_of Tryz.func7 (by kernel_rfl) rfl)) (q_parse hp (by omega)) ?_
      rintro e6 u6 ⟨c12, rfl, p12, b6⟩
      refine ⟨_, rfl, ?_⟩
      replace K4 := Lib.hid (K4.out.keep b6)
      replace K5 := Lib.hid (K5.out.keep b6)
      replace K9 := Lib.hid (K9.out.keep b6)
      replace HE := Lib.hid (A.keep HE.out b6)
      replace HB := Lib.hid (HB.out.trans (b6.mono HB.out.size))
      clear b6
      simp only [Act.put, List.setIfInBounds_toArray, List.set_cons_zero, List.set_cons_succ]
      refine list_ev (v := .tuple #[.agg c12, .int .i64 i, .int .i64 e]) rfl (ev_move rfl rfl) ?_
      simp only [Act.put, List.setIfInBounds_toArray, List.set_cons_zero, List.set_cons_succ]
      refine list_ev (v := .agg c12) rfl (by go_simp) ?_
      simp only [Act.put, List.setIfInBounds_toArray, List.set_cons_zero, List.set_cons_succ]
      refine list_ev (v := .int .i64 i) rfl (by go_simp) ?_
      simp only [Act.put, List.setIfInBounds_toArray, List.set_cons_zero, List.set_cons_succ]
      refine list_ev (v := .int .i64 e) rfl (by go_simp) ?_
      simp only [Act.put, List.setIfInBounds_toArray, List.set_cons_zero, List.set_cons_succ]
      refine list_new p12 (by simp) (by decide) rfl ?_
      simp only [Act.put, List.setIfInBounds_toArray, List.set_cons_zero, List.set_cons_succ]
      have K12 := Lib.hid (Box.new p12)
      have b7 : Below u6.heap.size u6 (u6.alloc (.cells c12 24)) := (Below.refl _ _).alloc (Nat.le_refl _) _
      replace K4 := Lib.hid (K4.out.keep b7)
      replace K5 := Lib.hid (K5.out.keep b7)
      replace K9 := Lib.hid (K9.out.keep b7)
      replace HE := Lib.hid (A.keep HE.out b7)
      replace HB := Lib.hid (HB.out.trans (b7.mono HB.out.size))
      clear b7
      obtain ⟨k12, hk12⟩ : ∃ q, q = u6.heap.size := ⟨_, rfl⟩
      rw [← hk12] at K12 ⊢
      clear hk12
      generalize u6.alloc (.cells c12 24) = u7 at *
      refine list_ev (v := .int .i64 i) rfl (ev_assign rfl rfl) ?_
      simp only [Act.put, List.setIfInBounds_toArray, List.set_cons_zero, List.set_cons_succ]
      refine list_ev (v := .int .i64 e) rfl (ev_assign rfl rfl) ?_
      simp only [Act.put, List.setIfInBounds_toArray, List.set_cons_zero, List.set_cons_succ]
      go_upto_region 7 with fail
      refine wp_region_lit ?_
      refine list_ev (v := .agg cs) rfl (K4.out.load rfl rfl) ?_
      simp only [Act.put, List.setIfInBounds_toArray, List.set_cons_zero, List.set_cons_succ]
      refine list_callP rfl (ev_call1 rfl (enters_of Tryz.func8 (by kernel_rfl) rfl)) (A.print_eq hpr HE.out K4.out.pf hf) ?_
      rintro e8 u8 ⟨rfl, b8⟩
      refine ⟨_, rfl, ?_⟩
      replace K4 := Lib.hid (K4.out.keep b8)
      replace K5 := Lib.hid (K5.out.keep b8)
      replace K9 := Lib.hid (K9.out.keep b8)
      replace K12 := Lib.hid (K12.out.keep b8)
      replace HE := Lib.hid (A.keep HE.out b8)
      replace HB := Lib.hid (HB.out.trans (b8.mono HB.out.size))
      clear b8
      simp only [Act.put, List.setIfInBounds_toArray, List.set_cons_zero, List.set_cons_succ]
      refine list_ev (v := .tuple #[.string (bs z), .int .i64 g]) rfl (ev_move rfl rfl) ?_
      simp only [Act.put, List.setIfInBounds_toArray, List.set_cons_zero, List.set_cons_succ]
      refine list_ev (v := .string (bs z)) rfl (by go_simp) ?_
      simp only [Act.put, List.setIfInBounds_toArray, List.set_cons_zero, List.set_cons_succ]
      refine list_ev (v := .int .i64 g) rfl (by go_simp) ?_
      simp only [Act.put, List.setIfInBounds_toArray, List.set_cons_zero, List.set_cons_succ]
      refine list_ev (v := .string (bs z)) rfl (ev_assign rfl rfl) ?_
      simp only [Act.put, List.setIfInBounds_toArray, List.set_cons_zero, List.set_cons_succ]
      refine list_ev (v := .int .i64 g) rfl (ev_assign rfl rfl) ?_
      simp only [Act.put, List.setIfInBounds_toArray, List.set_cons_zero, List.set_cons_succ]
      go_upto_region 8 with fail
      refine wp_region_lit ?_
      refine list_ev (v := .agg cs) rfl (K4.out.load rfl rfl) ?_
      simp only [Act.put, List.setIfInBounds_toArray, List.set_cons_zero, List.set_cons_succ]
      refine list_callP rfl (ev_call1 rfl (enters_of Tryz.func9 (by kernel_rfl) rfl)) (q_print hpr K4.out.pf hf) ?_
      rintro e9 u9 ⟨rfl, b9⟩
      refine ⟨_, rfl, ?_⟩
      replace K4 := Lib.hid (K4.out.keep b9)
      replace K5 := Lib.hid (K5.out.keep b9)
      replace K9 := Lib.hid (K9.out.keep b9)
      replace K12 := Lib.hid (K12.out.keep b9)
      replace HE := Lib.hid (A.keep HE.out b9)
      replace HB := Lib.hid (HB.out.trans (b9.mono HB.out.size))
      clear b9
      simp only [Act.put, List.setIfInBounds_toArray, List.set_cons_zero, List.set_cons_succ]
      refine list_ev (v := .tuple #[.string (bs z), .int .i64 g]) rfl (ev_move rfl rfl) ?_
      simp only [Act.put, List.setIfInBounds_toArray, List.set_cons_zero, List.set_cons_succ]
      refine list_ev (v := .string (bs z)) rfl (by go_simp) ?_
      simp only [Act.put, List.setIfInBounds_toArray, List.set_cons_zero, List.set_cons_succ]
      refine list_ev (v := .int .i64 g) rfl (by go_simp) ?_
      simp only [Act.put, List.setIfInBounds_toArray, List.set_cons_zero, List.set_cons_succ]
      refine list_ev (v := .string (bs z)) rfl (ev_assign rfl rfl) ?_
      simp only [Act.put, List.setIfInBounds_toArray, List.set_cons_zero, List.set_cons_succ]
      refine list_ev (v := .int .i64 g) rfl (ev_assign rfl rfl) ?_
      simp only [Act.put, List.setIfInBounds_toArray, List.set_cons_zero, List.set_cons_succ]
      go_upto_region 9 with fail
      obtain ⟨br, hbr⟩ : ∃ x, decide (Rt p) = x := ⟨_, rfl⟩
      obtain ⟨bb, hbb⟩ : ∃ x, decide (p = q) = x := ⟨_, rfl⟩
      refine region_flowG [isV (.bool true), isV (.bool true), isV (.agg c9), isV (.agg c12), isV (.bool true), isV (.bool true), isV (.bool true), isV (.int .i64 i), isV (.int .i64 i), isV (.bool true), isV (.bool true), isV (.bool true), isV (.int .i64 e), isV (.int .i64 e), isV (.bool true), isV (.bool true), isV (.bool true), isV (.string (bs z)), isV (.string (bs z)), isV (.bool true), isV (.bool true), isV (.bool true), isV (.int .i64 g), isV (.int .i64 g), isV (.bool true), isV (.bool true), isV (.bool true), isV (.agg cs), isV (.bool br), isV (.agg cs), isV (.bool br), isV (.bool true), isV (.bool true), isV (.bool true), isV (.agg cs), isV (.agg ds), isV (.bool bb), isV (.agg cs), isV (.agg ds), isV (.bool bb), isV (.bool true), isV (.bool true), isV (.bool true), isV (.agg cs), isV (.agg cs), isV (.bool true), isV (.bool true), isV (.bool true)] (by kernel_rfl) (by kernel_rfl) ?_ ?_ ?_
      · intro V hV
        simp only [List.mem_cons, List.mem_nil_iff, or_false] at hV
        rcases hV with rfl | rfl | rfl | rfl | rfl | rfl | rfl | rfl | rfl | rfl | rfl | rfl | rfl | rfl | rfl | rfl | rfl | rfl | rfl | rfl | rfl | rfl | rfl | rfl | rfl | rfl | rfl | rfl | rfl | rfl | rfl | rfl | rfl | rfl | rfl | rfl | rfl | rfl | rfl | rfl | rfl | rfl | rfl | rfl | rfl | rfl | rfl | rfl <;> exact stable_isV _
      · refine ⟨?_, ?_, ?_, ?_, ?_, ?_, ?_, ?_, ?_, ?_, ?_, ?_, ?_, ?_, ?_, ?_, ?_, ?_, ?_, ?_, ?_, ?_, ?_, ?_, ?_, ?_, ?_, ?_, ?_, ?_, ?_, ?_, ?_, ?_, ?_, ?_, ?_, ?_, ?_, ?_, ?_, ?_, ?_, ?_, ?_, ?_, ?_, ?_, trivial⟩
        · exact fun a wx hb hs hp => ⟨rfl, does_val (ev_move rfl ((hs 7 (by kernel_rfl)).trans rfl)) rfl⟩
        · exact fun a wx hb hs hp => ⟨rfl, does_val (ev_move rfl (got (hp 0 56 (by kernel_rfl) rfl) rfl)) rfl⟩
        · exact fun a wx hb hs hp => ⟨wanted_on (d := 57) rfl rfl (hp 1 57 (by kernel_rfl) rfl) rfl, does_val ((K9.out.keep hb).load rfl ((hs 9 (by kernel_rfl)).trans rfl)) rfl⟩
        · exact fun a wx hb hs hp => ⟨wanted_on (d := 57) rfl rfl (hp 1 57 (by kernel_rfl) rfl) rfl, does_val ((K12.out.keep hb).load rfl ((hs 12 (by kernel_rfl)).trans rfl)) rfl⟩
        · exact fun a wx hb hs hp => ⟨wanted_on (d := 57) rfl rfl (hp 1 57 (by kernel_rfl) rfl) rfl, does_reads (ev_call2 (got (hp 2 58 (by kernel_rfl) rfl) rfl) (got (hp 3 59 (by kernel_rfl) rfl) rfl) (enters_of Tryz.func10 (by kernel_rfl) rfl)) (q_same (decide_eq_true rfl) (K9.out.keep hb).pf (K12.out.keep hb).pf hfr) rfl⟩
        · exact fun a wx hb hs hp => ⟨rfl, does_val (ev_pick (c := true) (u := .bool true) rfl (got (hp 1 57 (by kernel_rfl) rfl) rfl) (fun _ => (got (hp 4 60 (by kernel_rfl) rfl) rfl))) rfl⟩
        · exact fun a wx hb hs hp => ⟨rfl, does_val (ev_move rfl (got (hp 5 61 (by kernel_rfl) rfl) rfl)) rfl⟩
        · exact fun a wx hb hs hp => ⟨wanted_on (d := 62) rfl rfl (hp 6 62 (by kernel_rfl) rfl) rfl, does_val (ev_move rfl ((hs 10 (by kernel_rfl)).trans rfl)) rfl⟩
        · exact fun a wx hb hs hp => ⟨wanted_on (d := 62) rfl rfl (hp 6 62 (by kernel_rfl) rfl) rfl, does_val (ev_move rfl ((hs 13 (by kernel_rfl)).trans rfl)) rfl⟩
        · exact fun a wx hb hs hp => ⟨wanted_on (d := 62) rfl rfl (hp 6 62 (by kernel_rfl) rfl) rfl, does_val (ev_eql rfl (got (hp 7 63 (by kernel_rfl) rfl) rfl) (got (hp 8 64 (by kernel_rfl) rfl) rfl) (fun o1 o2 w => by go_simp)) rfl⟩
        · exact fun a wx hb hs hp => ⟨rfl, does_val (ev_pick (c := true) (u := .bool true) rfl (got (hp 6 62 (by kernel_rfl) rfl) rfl) (fun _ => (got (hp 9 65 (by kernel_rfl) rfl) rfl))) rfl⟩
        · exact fun a wx hb hs hp => ⟨rfl, does_val (ev_move rfl (got (hp 10 66 (by kernel_rfl) rfl) rfl)) rfl⟩
        · exact fun a wx hb hs hp => ⟨wanted_on (d := 67) rfl rfl (hp 11 67 (by kernel_rfl) rfl) rfl, does_val (ev_move rfl ((hs 11 (by kernel_rfl)).trans rfl)) rfl⟩
        · exact fun a wx hb hs hp => ⟨wanted_on (d := 67) rfl rfl (hp 11 67 (by kernel_rfl) rfl) rfl, does_val (ev_move rfl ((hs 14 (by kernel_rfl)).trans rfl)) rfl⟩
        · exact fun a wx hb hs hp => ⟨wanted_on (d := 67) rfl rfl (hp 11 67 (by kernel_rfl) rfl) rfl, does_val (ev_eql rfl (got (hp 12 68 (by kernel_rfl) rfl) rfl) (got (hp 13 69 (by kernel_rfl) rfl) rfl) (fun o1 o2 w => by go_simp)) rfl⟩
        · exact fun a wx hb hs hp => ⟨rfl, does_val (ev_pick (c := true) (u := .bool true) rfl (got (hp 11 67 (by kernel_rfl) rfl) rfl) (fun _ => (got (hp 14 70 (by kernel_rfl) rfl) rfl))) rfl⟩
        · exact fun a wx hb hs hp => ⟨rfl, does_val (ev_move rfl (got (hp 15 71 (by kernel_rfl) rfl) rfl)) rfl⟩
        · exact fun a wx hb hs hp => ⟨wanted_on (d := 72) rfl rfl (hp 16 72 (by kernel_rfl) rfl) rfl, does_val (ev_move rfl ((hs 15 (by kernel_rfl)).trans rfl)) rfl⟩
        · exact fun a wx hb hs hp => ⟨wanted_on (d := 72) rfl rfl (hp 16 72 (by kernel_rfl) rfl) rfl, does_val (ev_move rfl ((hs 17 (by kernel_rfl)).trans rfl)) rfl⟩
        · exact fun a wx hb hs hp => ⟨wanted_on (d := 72) rfl rfl (hp 16 72 (by kernel_rfl) rfl) rfl, does_val (ev_eql rfl (got (hp 17 73 (by kernel_rfl) rfl) rfl) (got (hp 18 74 (by kernel_rfl) rfl) rfl) (fun o1 o2 w => by go_simp)) rfl⟩
        · exact fun a wx hb hs hp => ⟨rfl, does_val (ev_pick (c := true) (u := .bool true) rfl (got (hp 16 72 (by kernel_rfl) rfl) rfl) (fun _ => (got (hp 19 75 (by kernel_rfl) rfl) rfl))) rfl⟩
        · exact fun a wx hb hs hp => ⟨rfl, does_val (ev_move rfl (got (hp 20 76 (by kernel_rfl) rfl) rfl)) rfl⟩
        · exact fun a wx hb hs hp => ⟨wanted_on (d := 77) rfl rfl (hp 21 77 (by kernel_rfl) rfl) rfl, does_val (ev_move rfl ((hs 16 (by kernel_rfl)).trans rfl)) rfl⟩
        · exact fun a wx hb hs hp => ⟨wanted_on (d := 77) rfl rfl (hp 21 77 (by kernel_rfl) rfl) rfl, does_val (ev_move rfl ((hs 18 (by kernel_rfl)).trans rfl)) rfl⟩
        · exact fun a wx hb hs hp => ⟨wanted_on (d := 77) rfl rfl (hp 21 77 (by kernel_rfl) rfl) rfl, does_val (ev_eql rfl (got (hp 22 78 (by kernel_rfl) rfl) rfl) (got (hp 23 79 (by kernel_rfl) rfl) rfl) (fun o1 o2 w => by go_simp)) rfl⟩
        · exact fun a wx hb hs hp => ⟨rfl, does_val (ev_pick (c := true) (u := .bool true) rfl (got (hp 21 77 (by kernel_rfl) rfl) rfl) (fun _ => (got (hp 24 80 (by kernel_rfl) rfl) rfl))) rfl⟩
        · exact fun a wx hb hs hp => ⟨rfl, does_val (ev_move rfl (got (hp 25 81 (by kernel_rfl) rfl) rfl)) rfl⟩
        · exact fun a wx hb hs hp => ⟨wanted_on (d := 82) rfl rfl (hp 26 82 (by kernel_rfl) rfl) rfl, does_val ((K4.out.keep hb).load rfl ((hs 4 (by kernel_rfl)).trans rfl)) rfl⟩
        · exact fun a wx hb hs hp => ⟨wanted_on (d := 82) rfl rfl (hp 26 82 (by kernel_rfl) rfl) rfl, does_reads (ev_call1 (got (hp 27 83 (by kernel_rfl) rfl) rfl) (enters_of Tryz.func11 (by kernel_rfl) rfl)) (A.right_eq hbr (A.keep HE.out hb) (K4.out.keep hb).pf hf) rfl⟩
        · exact fun a wx hb hs hp => ⟨wanted_on (d := 82) rfl rfl (hp 26 82 (by kernel_rfl) rfl) rfl, does_val ((K4.out.keep hb).load rfl ((hs 4 (by kernel_rfl)).trans rfl)) rfl⟩
        · exact fun a wx hb hs hp => ⟨wanted_on (d := 82) rfl rfl (hp 26 82 (by kernel_rfl) rfl) rfl, does_reads (ev_call1 (got (hp 29 85 (by kernel_rfl) rfl) rfl) (enters_of Tryz.func12 (by kernel_rfl) rfl)) (q_right hbr (K4.out.keep hb).pf hf) rfl⟩
        · exact fun a wx hb hs hp => ⟨wanted_on (d := 82) rfl rfl (hp 26 82 (by kernel_rfl) rfl) rfl, does_val (ev_eql rfl (got (hp 28 84 (by kernel_rfl) rfl) rfl) (got (hp 30 86 (by kernel_rfl) rfl) rfl) (fun o1 o2 w => by go_simp)) rfl⟩
        · exact fun a wx hb hs hp => ⟨rfl, does_val (ev_pick (c := true) (u := .bool true) rfl (got (hp 26 82 (by kernel_rfl) rfl) rfl) (fun _ => (got (hp 31 87 (by kernel_rfl) rfl) rfl))) rfl⟩
        · exact fun a wx hb hs hp => ⟨rfl, does_val (ev_move rfl (got (hp 32 88 (by kernel_rfl) rfl) rfl)) rfl⟩
        · exact fun a wx hb hs hp => ⟨wanted_on (d := 89) rfl rfl (hp 33 89 (by kernel_rfl) rfl) rfl, does_val ((K4.out.keep hb).load rfl ((hs 4 (by kernel_rfl)).trans rfl)) rfl⟩
        · exact fun a wx hb hs hp => ⟨wanted_on (d := 89) rfl rfl (hp 33 89 (by kernel_rfl) rfl) rfl, does_val ((K5.out.keep hb).load rfl ((hs 5 (by kernel_rfl)).trans rfl)) rfl⟩
        · exact fun a wx hb hs hp => ⟨wanted_on (d := 89) rfl rfl (hp 33 89 (by kernel_rfl) rfl) rfl, does_reads (ev_call2 (got (hp 34 90 (by kernel_rfl) rfl) rfl) (got (hp 35 91 (by kernel_rfl) rfl) rfl) (enters_of Tryz.func13 (by kernel_rfl) rfl)) (A.same_eq hbb (A.keep HE.out hb) (K4.out.keep hb).pf (K5.out.keep hb).pf hf hg) rfl⟩
        · exact fun a wx hb hs hp => ⟨wanted_on (d := 89) rfl rfl (hp 33 89 (by kernel_rfl) rfl) rfl, does_val ((K4.out.keep hb).load rfl ((hs 4 (by kernel_rfl)).trans rfl)) rfl⟩
        · exact fun a wx hb hs hp => ⟨wanted_on (d := 89) rfl rfl (hp 33 89 (by kernel_rfl) rfl) rfl, does_val ((K5.out.keep hb).load rfl ((hs 5 (by kernel_rfl)).trans rfl)) rfl⟩
        · exact fun a wx hb hs hp => ⟨wanted_on (d := 89) rfl rfl (hp 33 89 (by kernel_rfl) rfl) rfl, does_reads (ev_call2 (got (hp 37 93 (by kernel_rfl) rfl) rfl) (got (hp 38 94 (by kernel_rfl) rfl) rfl) (enters_of Tryz.func10 (by kernel_rfl) rfl)) (q_same hbb (K4.out.keep hb).pf (K5.out.keep hb).pf hf) rfl⟩
        · exact fun a wx hb hs hp => ⟨wanted_on (d := 89) rfl rfl (hp 33 89 (by kernel_rfl) rfl) rfl, does_val (ev_eql rfl (got (hp 36 92 (by kernel_rfl) rfl) rfl) (got (hp 39 95 (by kernel_rfl) rfl) rfl) (fun o1 o2 w => by go_simp)) rfl⟩
        · exact fun a wx hb hs hp => ⟨rfl, does_val (ev_pick (c := true) (u := .bool true) rfl (got (hp 33 89 (by kernel_rfl) rfl) rfl) (fun _ => (got (hp 40 96 (by kernel_rfl) rfl) rfl))) rfl⟩
        · exact fun a wx hb hs hp => ⟨rfl, does_val (ev_move rfl (got (hp 41 97 (by kernel_rfl) rfl) rfl)) rfl⟩
        · exact fun a wx hb hs hp => ⟨wanted_on (d := 98) rfl rfl (hp 42 98 (by kernel_rfl) rfl) rfl, does_val ((K4.out.keep hb).load rfl ((hs 4 (by kernel_rfl)).trans rfl)) rfl⟩
        · exact fun a wx hb hs hp => ⟨wanted_on (d := 98) rfl rfl (hp 42 98 (by kernel_rfl) rfl) rfl, does_val ((K4.out.keep hb).load rfl ((hs 4 (by kernel_rfl)).trans rfl)) rfl⟩
        · exact fun a wx hb hs hp => ⟨wanted_on (d := 98) rfl rfl (hp 42 98 (by kernel_rfl) rfl) rfl, does_reads (ev_call2 (got (hp 43 99 (by kernel_rfl) rfl) rfl) (got (hp 44 100 (by kernel_rfl) rfl) rfl) (enters_of Tryz.func13 (by kernel_rfl) rfl)) (A.same_eq (decide_eq_true rfl) (A.keep HE.out hb) (K4.out.keep hb).pf (K4.out.keep hb).pf hf hf) rfl⟩
        · exact fun a wx hb hs hp => ⟨rfl, does_val (ev_pick (c := true) (u := .bool true) rfl (got (hp 42 98 (by kernel_rfl) rfl) rfl) (fun _ => (got (hp 45 101 (by kernel_rfl) rfl) rfl))) rfl⟩
        · exact fun a wx hb hs hp => ⟨rfl, does_val (ev_assign rfl (got (hp 46 102 (by kernel_rfl) rfl) rfl)) rfl⟩
      · intro vs w7 b7 hv
        have hvN := hv 47 (by simp)
        simp only [putsFrom, Act.put, List.setIfInBounds_toArray, List.set_cons_zero, List.set_cons_succ]
        rw [show vs 47 = .bool true from hvN]
        have HB7 := Lib.hid (HB.out.trans (b7.mono HB.out.size))
        clear hv hvN b7
        go_wp2
        go_ret
        exact ⟨rfl, HB7.out⟩
    · have hg : fewP q = false := by simpa using hg
      go_upto_region 2 with fail
      refine wp_region_lit ?_
      refine list_ev (v := .agg cs) rfl (K4.out.load rfl rfl) ?_
      simp only [Act.put, List.setIfInBounds_toArray, List.set_cons_zero, List.set_cons_succ]
      refine list_callP rfl (ev_call1 rfl (enters_of Tryz.func5 (by kernel_rfl) rfl)) (q_few hf K4.out.pf) ?_
      rintro e2 u2 ⟨rfl, b2⟩
      refine ⟨_, rfl, ?_⟩
      replace K4 := Lib.hid (K4.out.keep b2)
      replace K5 := Lib.hid (K5.out.keep b2)
      replace HE := Lib.hid (A.keep HE.out b2)
      replace HB := Lib.hid (HB.out.trans (b2.mono HB.out.size))
      clear b2
      simp only [Act.put, List.setIfInBounds_toArray, List.set_cons_zero, List.set_cons_succ]
      refine list_ev (v := .bool false) rfl (by go_simp) ?_
      simp only [Act.put, List.setIfInBounds_toArray, List.set_cons_zero, List.set_cons_succ]
      refine list_ev (v := .bool false) rfl (ev_move rfl rfl) ?_
      simp only [Act.put, List.setIfInBounds_toArray, List.set_cons_zero, List.set_cons_succ]
      refine list_ev (v := .agg ds) ((Ch.want_at rfl rfl rfl).trans rfl) (K5.out.load rfl rfl) ?_
      simp only [Act.put, List.setIfInBounds_toArray, List.set_cons_zero, List.set_cons_succ]
      refine list_callP ((Ch.want_at rfl rfl rfl).trans rfl) (ev_call1 rfl (enters_of Tryz.func5 (by kernel_rfl) rfl)) (q_few hg K5.out.pf) ?_
      rintro e3 u3 ⟨rfl, b3⟩
      refine ⟨_, rfl, ?_⟩
      replace K4 := Lib.hid (K4.out.keep b3)
      replace K5 := Lib.hid (K5.out.keep b3)
      replace HE := Lib.hid (A.keep HE.out b3)
      replace HB := Lib.hid (HB.out.trans (b3.mono HB.out.size))
      clear b3
      simp only [Act.put, List.setIfInBounds_toArray, List.set_cons_zero, List.set_cons_succ]
      refine list_ev (v := .bool true) ((Ch.want_at rfl rfl rfl).trans rfl) (by go_simp) ?_
      simp only [Act.put, List.setIfInBounds_toArray, List.set_cons_zero, List.set_cons_succ]
      refine list_ev (v := .bool true) rfl (by go_simp) ?_
      simp only [Act.put, List.setIfInBounds_toArray, List.set_cons_zero, List.set_cons_succ]
      go_wp2
      go_ret
      exact ⟨rfl, HB.out⟩
  · have hf : fewP p = false := by simpa using hf
    go_upto_region 2 with fail
    refine wp_region_lit ?_
    refine list_ev (v := .agg cs) rfl (K4.out.load rfl rfl) ?_
    simp only [Act.put, List.setIfInBounds_toArray, List.set_cons_zero, List.set_cons_succ]
    refine list_callP rfl (ev_call1 rfl (enters_of Tryz.func5 (by kernel_rfl) rfl)) (q_few hf K4.out.pf) ?_
    rintro e2 u2 ⟨rfl, b2⟩
    refine ⟨_, rfl, ?_⟩
    replace K4 := Lib.hid (K4.out.keep b2)
    replace K5 := Lib.hid (K5.out.keep b2)
    replace HE := Lib.hid (A.keep HE.out b2)
    replace HB := Lib.hid (HB.out.trans (b2.mono HB.out.size))
    clear b2
    simp only [Act.put, List.setIfInBounds_toArray, List.set_cons_zero, List.set_cons_succ]
    refine list_ev (v := .bool true) rfl (by go_simp) ?_
    simp only [Act.put, List.setIfInBounds_toArray, List.set_cons_zero, List.set_cons_succ]
    refine list_ev (v := .bool true) rfl (ev_move rfl rfl) ?_
    simp only [Act.put, List.setIfInBounds_toArray, List.set_cons_zero, List.set_cons_succ]
    refine list_off ((Ch.want_at rfl rfl rfl).trans rfl) ?_
    simp only [Act.put, List.setIfInBounds_toArray, List.set_cons_zero, List.set_cons_succ]
    refine list_off ((Ch.want_at rfl rfl rfl).trans rfl) ?_
    simp only [Act.put, List.setIfInBounds_toArray, List.set_cons_zero, List.set_cons_succ]
    refine list_off ((Ch.want_at rfl rfl rfl).trans rfl) ?_
    simp only [Act.put, List.setIfInBounds_toArray, List.set_cons_zero, List.set_cons_succ]
    refine list_ev (v := .bool true) rfl (by go_simp) ?_
    simp only [Act.put, List.setIfInBounds_toArray, List.set_cons_zero, List.set_cons_succ]
    go_wp2
    go_ret
    exact ⟨rfl, HB.out⟩
end
end Go.Proofs.YtlefgffnjcmfoaaGreatDoor
