/- The walk of SyntaxParts. -/
import Derived.Test.YtlefgffnjcmfoaaDoorMG
namespace Go.Proofs.YtlefgffnjcmfoaaDoor
open Go.RowKit Go.Maps Go.ChangeMaps Go.MapKept
open Lx Sy Ch
attribute [local go_sem ↓] Go.wp_at_zero Go.wp_at_succ
/-- A copy of a profile in a new block, and its fields set. -/
structure Copy (u w : World) (b : Nat) (cs : Array Value) : Prop where
  heap : w.heap[b]? = some (.cells cs 24 (0, 0))
  below : Below u.heap.size u w
  fresh : u.heap.size ≤ b
  size : cs.size = cs.size
theorem Copy.new (u : World) (cs : Array Value) : Copy u (u.alloc (.cells cs 24)) u.heap.size cs := ⟨heap_alloc_new u _, (Below.refl _ _).alloc (Nat.le_refl _) _, Nat.le_refl _, rfl⟩
theorem Copy.set {u w : World} {b : Nat} {cs : Array Value} (h : Copy u w b cs) (j : Nat) (v : Value) : Copy u (w.setCell ⟨b, j, none⟩ v) b (cs.setIfInBounds j v) := ⟨set_heap h.heap v, h.below.setCell (p := ⟨b, j, none⟩) h.fresh _, h.fresh, rfl⟩
theorem Copy.box {u w : World} {b : Nat} {cs : Array Value} {p : Pf} (h : Copy u w b cs) (hp : PfAt u (.agg cs) p) : Box w b cs p := ⟨h.heap, hp.keep h.below, pf_size hp⟩
theorem pf_noWithin {w : World} {cs : Array Value} {p : Pf} (h : PfAt w (.agg cs) p) : PfAt w (.agg (cs.setIfInBounds 2 (.int .i64 0))) (noWithin p) := by
  obtain ⟨tv, h1, h2⟩ := h
  cases h1
  exact ⟨tv, rfl, h2⟩
theorem pf_noFiles {w : World} {cs : Array Value} {p : Pf} (h : PfAt w (.agg cs) p) : PfAt w (.agg (((cs.setIfInBounds 10 (.int .i64 0)).setIfInBounds 11 (.int .i64 0)).setIfInBounds 12 (.slice none 0 0))) (noFiles p) := by
  obtain ⟨tv, h1, h2⟩ := h
  cases h1
  exact ⟨.slice none 0 0, rfl, TxAt.nil _⟩
theorem pf_noKeep {w : World} {cs : Array Value} {p : Pf} (h : PfAt w (.agg cs) p) : PfAt w (.agg (cs.setIfInBounds 21 (.int .i64 0))) (noKeep p) := by
  obtain ⟨tv, h1, h2⟩ := h
  cases h1
  exact ⟨tv, rfl, h2⟩
theorem lt_as {a c : S} {z : Int} (h : (a.length < c.length ∧ 0 < z) ∨ (a = c ∧ z = 0)) : ∃ b : Bool, (b = true ∧ (a.length : Int) < (c.length : Int) ∧ 0 < z) ∨ (b = false ∧ ¬ (a.length : Int) < (c.length : Int) ∧ ¬ 0 < z) := by
  rcases h with ⟨h1, h2⟩ | ⟨h1, h2⟩
  · exact ⟨true, .inl ⟨rfl, by omega, h2⟩⟩
  · exact ⟨false, .inr ⟨rfl, by rw [h1]; omega, by omega⟩⟩
theorem eq_as {a c : S} {z : Int} (h : (a.length < c.length ∧ 0 < z) ∨ (a = c ∧ z = 0)) : ∃ b : Bool, (b = true ∧ a = c ∧ z = 0) ∨ (b = false ∧ ((bs a).toList == (bs c).toList) = false ∧ (z == 0) = false) := by
  rcases h with ⟨h1, h2⟩ | ⟨h1, h2⟩
  · exact ⟨false, .inr ⟨rfl, str_ne (fun e => by rw [e] at h1; omega), by simpa using (by omega : z ≠ 0)⟩⟩
  · exact ⟨true, .inl ⟨rfl, h1, h2⟩⟩
theorem noWithin_cases {p : Pf} (h : Rt p) : ((text (noWithin p)).length < (text p).length ∧ 0 < p.within) ∨ (text (noWithin p) = text p ∧ p.within = 0) := by
  have h0 : 0 ≤ p.within := h.2.1.1.1
  by_cases hw : p.within = 0
  · exact .inr ⟨by rw [noWithin_same hw], hw⟩
  · exact .inl ⟨noWithin_len h (by omega), by omega⟩
theorem noFiles_cases {p : Pf} (h : Rt p) : ((text (noFiles p)).length < (text p).length ∧ 0 < p.files) ∨ (text (noFiles p) = text p ∧ p.files = 0) := by
  have h0 : 0 ≤ p.files := h.2.1.2.2.2.1.1
  by_cases hw : p.files = 0
  · exact .inr ⟨by rw [noFiles_same h hw], hw⟩
  · exact .inl ⟨noFiles_len hw, by omega⟩
theorem noKeep_cases {p : Pf} (h : Rt p) : ((text (noKeep p)).length < (text p).length ∧ 0 < p.keep) ∨ (text (noKeep p) = text p ∧ p.keep = 0) := by
  have h0 : 0 ≤ p.keep := h.2.1.2.2.2.2.2.2.2.2.1
  by_cases hw : p.keep = 0
  · exact .inr ⟨by rw [noKeep_same hw], hw⟩
  · exact .inl ⟨noKeep_len hw, by omega⟩
section
variable {E : World → Prop} {w : World}
set_option maxHeartbeats 8000000 in
set_option maxRecDepth 100000 in
theorem parts_walk (A : YApi E) (hE : E w) {x : Value} {p : Pf} (hx : PfAt w x p) : Calls Tryd.prog 6 #[x] w (Reads w (.bool true)) := by
  obtain ⟨cs, rfl, hsz, -⟩ := hx.cells
  unfold Reads
  have HE := Lib.hid hE
  have HB := Lib.hid ((Below.refl w.heap.size w).alloc (Nat.le_refl _) (.cells cs 24))
  have K1 := Lib.hid (Box.new hx)
  replace HE := Lib.hid (A.keep HE.out HB.out)
  clear hE hx
  go_enter Tryd.func6, Tryd.ntmps6
  go_upto_region 1 with fail
  obtain ⟨k1, hk1⟩ : ∃ q, q = w.heap.size := ⟨_, rfl⟩
  rw [← hk1] at K1 ⊢
  generalize w.alloc (.cells cs 24) = u0 at *
  clear hk1
  refine wp_region_lit ?_
  refine list_callP rfl (ev_call0 (enters_of Tryd.func7 (by kernel_rfl) rfl)) (small_any A HE.out) ?_
  rintro e1 u1 ⟨rfl, b1⟩
  refine ⟨_, rfl, ?_⟩
  replace K1 := Lib.hid (K1.out.keep b1)
  replace HE := Lib.hid (A.keep HE.out b1)
  replace HB := Lib.hid (HB.out.trans (b1.mono HB.out.size))
  clear b1
  simp only [Act.put, List.setIfInBounds_toArray, List.set_cons_zero, List.set_cons_succ]
  refine list_ev (v := .bool true) rfl (ev_assign rfl rfl) ?_
  simp only [Act.put, List.setIfInBounds_toArray, List.set_cons_zero, List.set_cons_succ]
  by_cases hf : fewP p = true
  · by_cases hr : Rt p
    · go_upto_region 2 with fail
      refine wp_region_lit ?_
      refine list_ev (v := .agg cs) rfl (K1.out.load rfl rfl) ?_
      simp only [Act.put, List.setIfInBounds_toArray, List.set_cons_zero, List.set_cons_succ]
      refine list_callP rfl (ev_call1 rfl (enters_of Tryd.func8 (by kernel_rfl) rfl)) (q_few hf K1.out.pf) ?_
      rintro e2 u2 ⟨rfl, b2⟩
      refine ⟨_, rfl, ?_⟩
      replace K1 := Lib.hid (K1.out.keep b2)
      replace HE := Lib.hid (A.keep HE.out b2)
      replace HB := Lib.hid (HB.out.trans (b2.mono HB.out.size))
      clear b2
      simp only [Act.put, List.setIfInBounds_toArray, List.set_cons_zero, List.set_cons_succ]
      refine list_ev (v := .bool false) rfl (by go_simp) ?_
      simp only [Act.put, List.setIfInBounds_toArray, List.set_cons_zero, List.set_cons_succ]
      refine list_ev (v := .bool false) rfl (ev_move rfl rfl) ?_
      simp only [Act.put, List.setIfInBounds_toArray, List.set_cons_zero, List.set_cons_succ]
      refine list_ev (v := .agg cs) ((Ch.want_at rfl rfl rfl).trans rfl) (K1.out.load rfl rfl) ?_
      simp only [Act.put, List.setIfInBounds_toArray, List.set_cons_zero, List.set_cons_succ]
      refine list_callP ((Ch.want_at rfl rfl rfl).trans rfl) (ev_call1 rfl (enters_of Tryd.func10 (by kernel_rfl) rfl)) (A.right_eq (decide_eq_true hr) HE.out K1.out.pf hf) ?_
      rintro e3 u3 ⟨rfl, b3⟩
      refine ⟨_, rfl, ?_⟩
      replace K1 := Lib.hid (K1.out.keep b3)
      replace HE := Lib.hid (A.keep HE.out b3)
      replace HB := Lib.hid (HB.out.trans (b3.mono HB.out.size))
      clear b3
      simp only [Act.put, List.setIfInBounds_toArray, List.set_cons_zero, List.set_cons_succ]
      refine list_ev (v := .bool false) ((Ch.want_at rfl rfl rfl).trans rfl) (by go_simp) ?_
      simp only [Act.put, List.setIfInBounds_toArray, List.set_cons_zero, List.set_cons_succ]
      refine list_ev (v := .bool false) rfl (by go_simp) ?_
      simp only [Act.put, List.setIfInBounds_toArray, List.set_cons_zero, List.set_cons_succ]
      go_upto_region 4 with fail
      refine wp_region_lit ?_
      refine list_ev (v := .agg cs) rfl (K1.out.load rfl rfl) ?_
      simp only [Act.put, List.setIfInBounds_toArray, List.set_cons_zero, List.set_cons_succ]
      refine list_new K1.out.pf (by simp) (by decide) rfl ?_
      simp only [Act.put, List.setIfInBounds_toArray, List.set_cons_zero, List.set_cons_succ]
      have C := Lib.hid (Copy.new u3 cs)
      obtain ⟨k4, hk4⟩ : ∃ q, q = u3.heap.size := ⟨_, rfl⟩
      rw [← hk4] at C ⊢
      generalize u3.alloc (.cells cs 24) = a4 at *
      clear hk4
      have g2 : (a4).cell? ⟨k4, 2, none⟩ = some (cs[2]'(by simp [hsz])) := by rw [Lib.cell_of_heap C.out.heap]; exact Array.getElem?_eq_getElem _
      have g3 : (a4).frozen? ⟨k4, 2, none⟩ = false := Lib.frozen_of_heap C.out.heap 2
      go_upto_region 6 with fail
      clear g2 g3
      replace C := Lib.hid (C.out.set 2 (.int .i64 0))
      generalize (a4).setCell ⟨k4, 2, none⟩ (.int .i64 0) = a4_0 at *
      have K4 := Lib.hid (C.out.box (pf_noWithin K1.out.pf))
      have b4 := C.out.below
      replace K1 := Lib.hid (K1.out.keep b4)
      replace HE := Lib.hid (A.keep HE.out b4)
      replace HB := Lib.hid (HB.out.trans (b4.mono HB.out.size))
      clear b4 C
      obtain ⟨cs4, hcs4⟩ : ∃ q : Array Value, q = (cs.setIfInBounds 2 (.int .i64 0)) := ⟨_, rfl⟩
      rw [← hcs4] at K4
      clear hcs4
      go_upto_region 6 with fail
      refine wp_region_lit ?_
      refine list_ev (v := .agg cs) rfl (K1.out.load rfl rfl) ?_
      simp only [Act.put, List.setIfInBounds_toArray, List.set_cons_zero, List.set_cons_succ]
      refine list_new K1.out.pf (by simp) (by decide) rfl ?_
      simp only [Act.put, List.setIfInBounds_toArray, List.set_cons_zero, List.set_cons_succ]
      have C := Lib.hid (Copy.new a4_0 cs)
      obtain ⟨k5, hk5⟩ : ∃ q, q = a4_0.heap.size := ⟨_, rfl⟩
      rw [← hk5] at C ⊢
      generalize a4_0.alloc (.cells cs 24) = a5 at *
      clear hk5
      have g2 : (a5).cell? ⟨k5, 10, none⟩ = some (cs[10]'(by simp [hsz])) := by rw [Lib.cell_of_heap C.out.heap]; exact Array.getElem?_eq_getElem _
      have g3 : (a5).frozen? ⟨k5, 10, none⟩ = false := Lib.frozen_of_heap C.out.heap 10
      go_upto_region 8 with fail
      clear g2 g3
      replace C := Lib.hid (C.out.set 10 (.int .i64 0))
      generalize (a5).setCell ⟨k5, 10, none⟩ (.int .i64 0) = a5_0 at *
      have g2 : (a5_0).cell? ⟨k5, 11, none⟩ = some ((cs.setIfInBounds 10 (.int .i64 0))[11]'(by simp [hsz])) := by rw [Lib.cell_of_heap C.out.heap]; exact Array.getElem?_eq_getElem _
      have g3 : (a5_0).frozen? ⟨k5, 11, none⟩ = false := Lib.frozen_of_heap C.out.heap 11
      go_upto_region 9 with fail
      clear g2 g3
      replace C := Lib.hid (C.out.set 11 (.int .i64 0))
      generalize (a5_0).setCell ⟨k5, 11, none⟩ (.int .i64 0) = a5_1 at *
      have g2 : (a5_1).cell? ⟨k5, 12, none⟩ = some (((cs.setIfInBounds 10 (.int .i64 0)).setIfInBounds 11 (.int .i64 0))[12]'(by simp [hsz])) := by rw [Lib.cell_of_heap C.out.heap]; exact Array.getElem?_eq_getElem _
      have g3 : (a5_1).frozen? ⟨k5, 12, none⟩ = false := Lib.frozen_of_heap C.out.heap 12
      go_upto_region 10 with fail
      clear g2 g3
      replace C := Lib.hid (C.out.set 12 (.slice none 0 0))
      generalize (a5_1).setCell ⟨k5, 12, none⟩ (.slice none 0 0) = a5_2 at *
      have K5 := Lib.hid (C.out.box (pf_noFiles K1.out.pf))
      have b5 := C.out.below
      replace K1 := Lib.hid (K1.out.keep b5)
      replace K4 := Lib.hid (K4.out.keep b5)
      replace HE := Lib.hid (A.keep HE.out b5)
      replace HB := Lib.hid (HB.out.trans (b5.mono HB.out.size))
      clear b5 C
      obtain ⟨cs5, hcs5⟩ : ∃ q : Array Value, q = (((cs.setIfInBounds 10 (.int .i64 0)).setIfInBounds 11 (.int .i64 0)).setIfInBounds 12 (.slice none 0 0)) := ⟨_, rfl⟩
      rw [← hcs5] at K5
      clear hcs5
      go_upto_region 10 with fail
      refine wp_region_lit ?_
      refine list_ev (v := .agg cs) rfl (K1.out.load rfl rfl) ?_
      simp only [Act.put, List.setIfInBounds_toArray, List.set_cons_zero, List.set_cons_succ]
      refine list_new K1.out.pf (by simp) (by decide) rfl ?_
      simp only [Act.put, List.setIfInBounds_toArray, List.set_cons_zero, List.set_cons_succ]
      have C := Lib.hid (Copy.new a5_2 cs)
      obtain ⟨k6, hk6⟩ : ∃ q, q = a5_2.heap.size := ⟨_, rfl⟩
      rw [← hk6] at C ⊢
      generalize a5_2.alloc (.cells cs 24) = a6 at *
      clear hk6
      have g2 : (a6).cell? ⟨k6, 21, none⟩ = some (cs[21]'(by simp [hsz])) := by rw [Lib.cell_of_heap C.out.heap]; exact Array.getElem?_eq_getElem _
      have g3 : (a6).frozen? ⟨k6, 21, none⟩ = false := Lib.frozen_of_heap C.out.heap 21
      go_upto_region 12 with fail
      clear g2 g3
      replace C := Lib.hid (C.out.set 21 (.int .i64 0))
      generalize (a6).setCell ⟨k6, 21, none⟩ (.int .i64 0) = a6_0 at *
      have K6 := Lib.hid (C.out.box (pf_noKeep K1.out.pf))
      have b6 := C.out.below
      replace K1 := Lib.hid (K1.out.keep b6)
      replace K4 := Lib.hid (K4.out.keep b6)
      replace K5 := Lib.hid (K5.out.keep b6)
      replace HE := Lib.hid (A.keep HE.out b6)
      replace HB := Lib.hid (HB.out.trans (b6.mono HB.out.size))
      clear b6 C
      obtain ⟨cs6, hcs6⟩ : ∃ q : Array Value, q = (cs.setIfInBounds 21 (.int .i64 0)) := ⟨_, rfl⟩
      rw [← hcs6] at K6
      clear hcs6
      obtain ⟨ts, hts⟩ : ∃ q, q = text (p) := ⟨_, rfl⟩
      obtain ⟨ta, hta⟩ : ∃ q, q = text (noWithin p) := ⟨_, rfl⟩
      obtain ⟨tb, htb⟩ : ∃ q, q = text (noFiles p) := ⟨_, rfl⟩
      obtain ⟨tc, htc⟩ : ∃ q, q = text (noKeep p) := ⟨_, rfl⟩
      go_upto_region 12 with fail
      refine wp_region_lit ?_
      refine list_ev (v := .agg cs) rfl (K1.out.load rfl rfl) ?_
      simp only [Act.put, List.setIfInBounds_toArray, List.set_cons_zero, List.set_cons_succ]
      refine list_callP rfl (ev_call1 rfl (enters_of Tryd.func9 (by kernel_rfl) rfl)) (A.print_eq ((printS_right hr).trans (by rw [← hts])) HE.out K1.out.pf (few_of hr)) ?_
      rintro e7 u7 ⟨rfl, b7⟩
      refine ⟨_, rfl, ?_⟩
      replace K1 := Lib.hid (K1.out.keep b7)
      replace K4 := Lib.hid (K4.out.keep b7)
      replace K5 := Lib.hid (K5.out.keep b7)
      replace K6 := Lib.hid (K6.out.keep b7)
      replace HE := Lib.hid (A.keep HE.out b7)
      replace HB := Lib.hid (HB.out.trans (b7.mono HB.out.size))
      clear b7
      simp only [Act.put, List.setIfInBounds_toArray, List.set_cons_zero, List.set_cons_succ]
      refine list_ev (v := .tuple #[.string (bs ts), .int .i64 0]) rfl (ev_move rfl rfl) ?_
      simp only [Act.put, List.setIfInBounds_toArray, List.set_cons_zero, List.set_cons_succ]
      refine list_ev (v := .string (bs ts)) rfl (by go_simp) ?_
      simp only [Act.put, List.setIfInBounds_toArray, List.set_cons_zero, List.set_cons_succ]
      refine list_ev (v := .int .i64 0) rfl (by go_simp) ?_
      simp only [Act.put, List.setIfInBounds_toArray, List.set_cons_zero, List.set_cons_succ]
      refine list_ev (v := .string (bs ts)) rfl (ev_assign rfl rfl) ?_
      simp only [Act.put, List.setIfInBounds_toArray, List.set_cons_zero, List.set_cons_succ]
      refine list_ev (v := .int .i64 0) rfl (ev_assign rfl rfl) ?_
      simp only [Act.put, List.setIfInBounds_toArray, List.set_cons_zero, List.set_cons_succ]
      go_upto_region 13 with fail
      refine wp_region_lit ?_
      refine list_ev (v := .agg cs4) rfl (K4.out.load rfl rfl) ?_
      simp only [Act.put, List.setIfInBounds_toArray, List.set_cons_zero, List.set_cons_succ]
      refine list_callP rfl (ev_call1 rfl (enters_of Tryd.func9 (by kernel_rfl) rfl)) (A.print_eq ((printS_right (rt_noWithin hr)).trans (by rw [← hta])) HE.out K4.out.pf (few_of (rt_noWithin hr))) ?_
      rintro e8 u8 ⟨rfl, b8⟩
      refine ⟨_, rfl, ?_⟩
      replace K1 := Lib.hid (K1.out.keep b8)
      replace K4 := Lib.hid (K4.out.keep b8)
      replace K5 := Lib.hid (K5.out.keep b8)
      replace K6 := Lib.hid (K6.out.keep b8)
      replace HE := Lib.hid (A.keep HE.out b8)
      replace HB := Lib.hid (HB.out.trans (b8.mono HB.out.size))
      clear b8
      simp only [Act.put, List.setIfInBounds_toArray, List.set_cons_zero, List.set_cons_succ]
      refine list_ev (v := .tuple #[.string (bs ta), .int .i64 0]) rfl (ev_move rfl rfl) ?_
      simp only [Act.put, List.setIfInBounds_toArray, List.set_cons_zero, List.set_cons_succ]
      refine list_ev (v := .string (bs ta)) rfl (by go_simp) ?_
      simp only [Act.put, List.setIfInBounds_toArray, List.set_cons_zero, List.set_cons_succ]
      refine list_ev (v := .int .i64 0) rfl (by go_simp) ?_
      simp only [Act.put, List.setIfInBounds_toArray, List.set_cons_zero, List.set_cons_succ]
      refine list_ev (v := .string (bs ta)) rfl (ev_assign rfl rfl) ?_
      simp only [Act.put, List.setIfInBounds_toArray, List.set_cons_zero, List.set_cons_succ]
      refine list_ev (v := .int .i64 0) rfl (ev_assign rfl rfl) ?_
      simp only [Act.put, List.setIfInBounds_toArray, List.set_cons_zero, List.set_cons_succ]
      go_upto_region 14 with fail
      refine wp_region_lit ?_
      refine list_ev (v := .agg cs5) rfl (K5.out.load rfl rfl) ?_
      simp only [Act.put, List.setIfInBounds_toArray, List.set_cons_zero, List.set_cons_succ]
      refine list_callP rfl (ev_call1 rfl (enters_of Tryd.func9 (by kernel_rfl) rfl)) (A.print_eq ((printS_right (rt_noFiles hr)).trans (by rw [← htb])) HE.out K5.out.pf (few_of (rt_noFiles hr))) ?_
      rintro e9 u9 ⟨rfl, b9⟩
      refine ⟨_, rfl, ?_⟩
      replace K1 := Lib.hid (K1.out.keep b9)
      replace K4 := Lib.hid (K4.out.keep b9)
      replace K5 := Lib.hid (K5.out.keep b9)
      replace K6 := Lib.hid (K6.out.keep b9)
      replace HE := Lib.hid (A.keep HE.out b9)
      replace HB := Lib.hid (HB.out.trans (b9.mono HB.out.size))
      clear b9
      simp only [Act.put, List.setIfInBounds_toArray, List.set_cons_zero, List.set_cons_succ]
      refine list_ev (v := .tuple #[.string (bs tb), .int .i64 0]) rfl (ev_move rfl rfl) ?_
      simp only [Act.put, List.setIfInBounds_toArray, List.set_cons_zero, List.set_cons_succ]
      refine list_ev (v := .string (bs tb)) rfl (by go_simp) ?_
      simp only [Act.put, List.setIfInBounds_toArray, List.set_cons_zero, List.set_cons_succ]
      refine list_ev (v := .int .i64 0) rfl (by go_simp) ?_
      simp only [Act.put, List.setIfInBounds_toArray, List.set_cons_zero, List.set_cons_succ]
      refine list_ev (v := .string (bs tb)) rfl (ev_assign rfl rfl) ?_
      simp only [Act.put, List.setIfInBounds_toArray, List.set_cons_zero, List.set_cons_succ]
      refine list_ev (v := .int .i64 0) rfl (ev_assign rfl rfl) ?_
      simp only [Act.put, List.setIfInBounds_toArray, List.set_cons_zero, List.set_cons_succ]
      go_upto_region 15 with fail
      refine wp_region_lit ?_
      refine list_ev (v := .agg cs6) rfl (K6.out.load rfl rfl) ?_
      simp only [Act.put, List.setIfInBounds_toArray, List.set_cons_zero, List.set_cons_succ]
      refine list_callP rfl (ev_call1 rfl (enters_of Tryd.func9 (by kernel_rfl) rfl)) (A.print_eq ((printS_right (rt_noKeep hr)).trans (by rw [← htc])) HE.out K6.out.pf (few_of (rt_noKeep hr))) ?_
      rintro e10 u10 ⟨rfl, b10⟩
      refine ⟨_, rfl, ?_⟩
      replace K1 := Lib.hid (K1.out.keep b10)
      replace K4 := Lib.hid (K4.out.keep b10)
      replace K5 := Lib.hid (K5.out.keep b10)
      replace K6 := Lib.hid (K6.out.keep b10)
      replace HE := Lib.hid (A.keep HE.out b10)
      replace HB := Lib.hid (HB.out.trans (b10.mono HB.out.size))
      clear b10
      simp only [Act.put, List.setIfInBounds_toArray, List.set_cons_zero, List.set_cons_succ]
      refine list_ev (v := .tuple #[.string (bs tc), .int .i64 0]) rfl (ev_move rfl rfl) ?_
      simp only [Act.put, List.setIfInBounds_toArray, List.set_cons_zero, List.set_cons_succ]
      refine list_ev (v := .string (bs tc)) rfl (by go_simp) ?_
      simp only [Act.put, List.setIfInBounds_toArray, List.set_cons_zero, List.set_cons_succ]
      refine list_ev (v := .int .i64 0) rfl (by go_simp) ?_
      simp only [Act.put, List.setIfInBounds_toArray, List.set_cons_zero, List.set_cons_succ]
      refine list_ev (v := .string (bs tc)) rfl (ev_assign rfl rfl) ?_
      simp only [Act.put, List.setIfInBounds_toArray, List.set_cons_zero, List.set_cons_succ]
      refine list_ev (v := .int .i64 0) rfl (ev_assign rfl rfl) ?_
      simp only [Act.put, List.setIfInBounds_toArray, List.set_cons_zero, List.set_cons_succ]
      go_upto_region 16 with fail
      refine wp_region_lit ?_
      refine list_ev (v := .int .i64 0) rfl (ev_move rfl rfl) ?_
      simp only [Act.put, List.setIfInBounds_toArray, List.set_cons_zero, List.set_cons_succ]
      refine list_ev (v := .bool false) rfl (by go_simp) ?_
      simp only [Act.put, List.setIfInBounds_toArray, List.set_cons_zero, List.set_cons_succ]
      refine list_ev (v := .bool false) rfl (ev_move rfl rfl) ?_
      simp only [Act.put, List.setIfInBounds_toArray, List.set_cons_zero, List.set_cons_succ]
      refine list_ev (v := .int .i64 0) ((Ch.want_at rfl rfl rfl).trans rfl) (ev_move rfl rfl) ?_
      simp only [Act.put, List.setIfInBounds_toArray, List.set_cons_zero, List.set_cons_succ]
      refine list_ev (v := .bool false) ((Ch.want_at rfl rfl rfl).trans rfl) (by go_simp) ?_
      simp only [Act.put, List.setIfInBounds_toArray, List.set_cons_zero, List.set_cons_succ]
      refine list_ev (v := .bool false) rfl (by go_simp) ?_
      simp only [Act.put, List.setIfInBounds_toArray, List.set_cons_zero, List.set_cons_succ]
      refine list_ev (v := .bool false) rfl (ev_move rfl rfl) ?_
      simp only [Act.put, List.setIfInBounds_toArray, List.set_cons_zero, List.set_cons_succ]
      refine list_ev (v := .int .i64 0) ((Ch.want_at rfl rfl rfl).trans rfl) (ev_move rfl rfl) ?_
      simp only [Act.put, List.setIfInBounds_toArray, List.set_cons_zero, List.set_cons_succ]
      refine list_ev (v := .bool false) ((Ch.want_at rfl rfl rfl).trans rfl) (by go_simp) ?_
      simp only [Act.put, List.setIfInBounds_toArray, List.set_cons_zero, List.set_cons_succ]
      refine list_ev (v := .bool false) rfl (by go_simp) ?_
      simp only [Act.put, List.setIfInBounds_toArray, List.set_cons_zero, List.set_cons_succ]
      refine list_ev (v := .bool false) rfl (ev_move rfl rfl) ?_
      simp only [Act.put, List.setIfInBounds_toArray, List.set_cons_zero, List.set_cons_succ]
      refine list_ev (v := .int .i64 0) ((Ch.want_at rfl rfl rfl).trans rfl) (ev_move rfl rfl) ?_
      simp only [Act.put, List.setIfInBounds_toArray, List.set_cons_zero, List.set_cons_succ]
      refine list_ev (v := .bool false) ((Ch.want_at rfl rfl rfl).trans rfl) (by go_simp) ?_
      simp only [Act.put, List.setIfInBounds_toArray, List.set_cons_zero, List.set_cons_succ]
      refine list_ev (v := .bool false) rfl (by go_simp) ?_
      simp only [Act.put, List.setIfInBounds_toArray, List.set_cons_zero, List.set_cons_succ]
      go_upto_region 18 with fail
      refine wp_region_lit ?_
      refine list_ev (v := .string (bs ta)) rfl (ev_move rfl rfl) ?_
      simp only [Act.put, List.setIfInBounds_toArray, List.set_cons_zero, List.set_cons_succ]
      refine list_callP rfl (ev_call1 rfl (enters_of Tryd.func11 (by kernel_rfl) rfl)) (A.parse_eq (r := noWithin p) (i := 0) (e := 0) (by rw [hta]; exact parseS_text (rt_noWithin hr)) HE.out (by rw [hta]; exact Nat.le_trans (text_len (rt_noWithin hr)) (by decide))) ?_
      rintro e11 u11 ⟨c15, rfl, p15, b11⟩
      refine ⟨_, rfl, ?_⟩
      replace K1 := Lib.hid (K1.out.keep b11)
      replace K4 := Lib.hid (K4.out.keep b11)
      replace K5 := Lib.hid (K5.out.keep b11)
      replace K6 := Lib.hid (K6.out.keep b11)
      replace HE := Lib.hid (A.keep HE.out b11)
      replace HB := Lib.hid (HB.out.trans (b11.mono HB.out.size))
      clear b11
      simp only [Act.put, List.setIfInBounds_toArray, List.set_cons_zero, List.set_cons_succ]
      refine list_ev (v := .tuple #[.agg c15, .int .i64 0, .int .i64 0]) rfl (ev_move rfl rfl) ?_
      simp only [Act.put, List.setIfInBounds_toArray, List.set_cons_zero, List.set_cons_succ]
      refine list_ev (v := .agg c15) rfl (by go_simp) ?_
      simp only [Act.put, List.setIfInBounds_toArray, List.set_cons_zero, List.set_cons_succ]
      refine list_ev (v := .int .i64 0) rfl (by go_simp) ?_
      simp only [Act.put, List.setIfInBounds_toArray, List.set_cons_zero, List.set_cons_succ]
      refine list_ev (v := .int .i64 0) rfl (by go_simp) ?_
      simp only [Act.put, List.setIfInBounds_toArray, List.set_cons_zero, List.set_cons_succ]
      refine list_new p15 (by simp) (by decide) rfl ?_
      simp only [Act.put, List.setIfInBounds_toArray, List.set_cons_zero, List.set_cons_succ]
      have K15 := Lib.hid (Box.new p15)
      have b12 : Below u11.heap.size u11 (u11.alloc (.cells c15 24)) := (Below.refl _ _).alloc (Nat.le_refl _) _
      replace K1 := Lib.hid (K1.out.keep b12)
      replace K4 := Lib.hid (K4.out.keep b12)
      replace K5 := Lib.hid (K5.out.keep b12)
      replace K6 := Lib.hid (K6.out.keep b12)
      replace HE := Lib.hid (A.keep HE.out b12)
      replace HB := Lib.hid (HB.out.trans (b12.mono HB.out.size))
      clear b12
      obtain ⟨k15, hk15⟩ : ∃ q, q = u11.heap.size := ⟨_, rfl⟩
      rw [← hk15] at K15 ⊢
      clear hk15
      generalize u11.alloc (.cells c15 24) = u12 at *
      refine list_ev (v := .int .i64 0) rfl (ev_assign rfl rfl) ?_
      simp only [Act.put, List.setIfInBounds_toArray, List.set_cons_zero, List.set_cons_succ]
      refine list_ev (v := .int .i64 0) rfl (ev_assign rfl rfl) ?_
      simp only [Act.put, List.setIfInBounds_toArray, List.set_cons_zero, List.set_cons_succ]
      go_upto_region 19 with fail
      refine wp_region_lit ?_
      refine list_ev (v := .string (bs tb)) rfl (ev_move rfl rfl) ?_
      simp only [Act.put, List.setIfInBounds_toArray, List.set_cons_zero, List.set_cons_succ]
      refine list_callP rfl (ev_call1 rfl (enters_of Tryd.func11 (by kernel_rfl) rfl)) (A.parse_eq (r := noFiles p) (i := 0) (e := 0) (by rw [htb]; exact parseS_text (rt_noFiles hr)) HE.out (by rw [htb]; exact Nat.le_trans (text_len (rt_noFiles hr)) (by decide))) ?_
      rintro e13 u13 ⟨c18, rfl, p18, b13⟩
      refine ⟨_, rfl, ?_⟩
      replace K1 := Lib.hid (K1.out.keep b13)
      replace K4 := Lib.hid (K4.out.keep b13)
      replace K5 := Lib.hid (K5.out.keep b13)
      replace K6 := Lib.hid (K6.out.keep b13)
      replace K15 := Lib.hid (K15.out.keep b13)
      replace HE := Lib.hid (A.keep HE.out b13)
      replace HB := Lib.hid (HB.out.trans (b13.mono HB.out.size))
      clear b13
      simp only [Act.put, List.setIfInBounds_toArray, List.set_cons_zero, List.set_cons_succ]
      refine list_ev (v := .tuple #[.agg c18, .int .i64 0, .int .i64 0]) rfl (ev_move rfl rfl) ?_
      simp only [Act.put, List.setIfInBounds_toArray, List.set_cons_zero, List.set_cons_succ]
      refine list_ev (v := .agg c18) rfl (by go_simp) ?_
      simp only [Act.put, List.setIfInBounds_toArray, List.set_cons_zero, List.set_cons_succ]
      refine list_ev (v := .int .i64 0) rfl (by go_simp) ?_
      simp only [Act.put, List.setIfInBounds_toArray, List.set_cons_zero, List.set_cons_succ]
      refine list_ev (v := .int .i64 0) rfl (by go_simp) ?_
      simp only [Act.put, List.setIfInBounds_toArray, List.set_cons_zero, List.set_cons_succ]
      refine list_new p18 (by simp) (by decide) rfl ?_
      simp only [Act.put, List.setIfInBounds_toArray, List.set_cons_zero, List.set_cons_succ]
      have K18 := Lib.hid (Box.new p18)
      have b14 : Below u13.heap.size u13 (u13.alloc (.cells c18 24)) := (Below.refl _ _).alloc (Nat.le_refl _) _
      replace K1 := Lib.hid (K1.out.keep b14)
      replace K4 := Lib.hid (K4.out.keep b14)
      replace K5 := Lib.hid (K5.out.keep b14)
      replace K6 := Lib.hid (K6.out.keep b14)
      replace K15 := Lib.hid (K15.out.keep b14)
      replace HE := Lib.hid (A.keep HE.out b14)
      replace HB := Lib.hid (HB.out.trans (b14.mono HB.out.size))
      clear b14
      obtain ⟨k18, hk18⟩ : ∃ q, q = u13.heap.size := ⟨_, rfl⟩
      rw [← hk18] at K18 ⊢
      clear hk18
      generalize u13.alloc (.cells c18 24) = u14 at *
      refine list_ev (v := .int .i64 0) rfl (ev_assign rfl rfl) ?_
      simp only [Act.put, List.setIfInBounds_toArray, List.set_cons_zero, List.set_cons_succ]
      refine list_ev (v := .int .i64 0) rfl (ev_assign rfl rfl) ?_
      simp only [Act.put, List.setIfInBounds_toArray, List.set_cons_zero, List.set_cons_succ]
      go_upto_region 20 with fail
      refine wp_region_lit ?_
      refine list_ev (v := .string (bs tc)) rfl (ev_move rfl rfl) ?_
      simp only [Act.put, List.setIfInBounds_toArray, List.set_cons_zero, List.set_cons_succ]
      refine list_callP rfl (ev_call1 rfl (enters_of Tryd.func11 (by kernel_rfl) rfl)) (A.parse_eq (r := noKeep p) (i := 0) (e := 0) (by rw [htc]; exact parseS_text (rt_noKeep hr)) HE.out (by rw [htc]; exact Nat.le_trans (text_len (rt_noKeep hr)) (by decide))) ?_
      rintro e15 u15 ⟨c21, rfl, p21, b15⟩
      refine ⟨_, rfl, ?_⟩
      replace K1 := Lib.hid (K1.out.keep b15)
      replace K4 := Lib.hid (K4.out.keep b15)
      replace K5 := Lib.hid (K5.out.keep b15)
      replace K6 := Lib.hid (K6.out.keep b15)
      replace K15 := Lib.hid (K15.out.keep b15)
      replace K18 := Lib.hid (K18.out.keep b15)
      replace HE := Lib.hid (A.keep HE.out b15)
      replace HB := Lib.hid (HB.out.trans (b15.mono HB.out.size))
      clear b15
      simp only [Act.put, List.setIfInBounds_toArray, List.set_cons_zero, List.set_cons_succ]
      refine list_ev (v := .tuple #[.agg c21, .int .i64 0, .int .i64 0]) rfl (ev_move rfl rfl) ?_
      simp only [Act.put, List.setIfInBounds_toArray, List.set_cons_zero, List.set_cons_succ]
      refine list_ev (v := .agg c21) rfl (by go_simp) ?_
      simp only [Act.put, List.setIfInBounds_toArray, List.set_cons_zero, List.set_cons_succ]
      refine list_ev (v := .int .i64 0) rfl (by go_simp) ?_
      simp only [Act.put, List.setIfInBounds_toArray, List.set_cons_zero, List.set_cons_succ]
      refine list_ev (v := .int .i64 0) rfl (by go_simp) ?_
      simp only [Act.put, List.setIfInBounds_toArray, List.set_cons_zero, List.set_cons_succ]
      refine list_new p21 (by simp) (by decide) rfl ?_
      simp only [Act.put, List.setIfInBounds_toArray, List.set_cons_zero, List.set_cons_succ]
      have K21 := Lib.hid (Box.new p21)
      have b16 : Below u15.heap.size u15 (u15.alloc (.cells c21 24)) := (Below.refl _ _).alloc (Nat.le_refl _) _
      replace K1 := Lib.hid (K1.out.keep b16)
      replace K4 := Lib.hid (K4.out.keep b16)
      replace K5 := Lib.hid (K5.out.keep b16)
      replace K6 := Lib.hid (K6.out.keep b16)
      replace K15 := Lib.hid (K15.out.keep b16)
      replace K18 := Lib.hid (K18.out.keep b16)
      replace HE := Lib.hid (A.keep HE.out b16)
      replace HB := Lib.hid (HB.out.trans (b16.mono HB.out.size))
      clear b16
      obtain ⟨k21, hk21⟩ : ∃ q, q = u15.heap.size := ⟨_, rfl⟩
      rw [← hk21] at K21 ⊢
      clear hk21
      generalize u15.alloc (.cells c21 24) = u16 at *
      refine list_ev (v := .int .i64 0) rfl (ev_assign rfl rfl) ?_
      simp only [Act.put, List.setIfInBounds_toArray, List.set_cons_zero, List.set_cons_succ]
      refine list_ev (v := .int .i64 0) rfl (ev_assign rfl rfl) ?_
      simp only [Act.put, List.setIfInBounds_toArray, List.set_cons_zero, List.set_cons_succ]
      go_upto_region 21 with fail
      refine wp_region_lit ?_
      refine list_ev (v := .int .i64 0) rfl (ev_move rfl rfl) ?_
      simp only [Act.put, List.setIfInBounds_toArray, List.set_cons_zero, List.set_cons_succ]
      refine list_ev (v := .bool true) rfl (by go_simp) ?_
      simp only [Act.put, List.setIfInBounds_toArray, List.set_cons_zero, List.set_cons_succ]
      refine list_ev (v := .bool true) rfl (ev_move rfl rfl) ?_
      simp only [Act.put, List.setIfInBounds_toArray, List.set_cons_zero, List.set_cons_succ]
      refine list_ev (v := .int .i64 0) ((Ch.want_at rfl rfl rfl).trans rfl) (ev_move rfl rfl) ?_
      simp only [Act.put, List.setIfInBounds_toArray, List.set_cons_zero, List.set_cons_succ]
      refine list_ev (v := .bool true) ((Ch.want_at rfl rfl rfl).trans rfl) (by go_simp) ?_
      simp only [Act.put, List.setIfInBounds_toArray, List.set_cons_zero, List.set_cons_succ]
      refine list_ev (v := .bool true) rfl (by go_simp) ?_
      simp only [Act.put, List.setIfInBounds_toArray, List.set_cons_zero, List.set_cons_succ]
      refine list_ev (v := .bool true) rfl (ev_move rfl rfl) ?_
      simp only [Act.put, List.setIfInBounds_toArray, List.set_cons_zero, List.set_cons_succ]
      refine list_ev (v := .int .i64 0) ((Ch.want_at rfl rfl rfl).trans rfl) (ev_move rfl rfl) ?_
      simp only [Act.put, List.setIfInBounds_toArray, List.set_cons_zero, List.set_cons_succ]
      refine list_ev (v := .bool true) ((Ch.want_at rfl rfl rfl).trans rfl) (by go_simp) ?_
      simp only [Act.put, List.setIfInBounds_toArray, List.set_cons_zero, List.set_cons_succ]
      refine list_ev (v := .bool true) rfl (by go_simp) ?_
      simp only [Act.put, List.setIfInBounds_toArray, List.set_cons_zero, List.set_cons_succ]
      refine list_ev (v := .bool true) rfl (ev_move rfl rfl) ?_
      simp only [Act.put, List.setIfInBounds_toArray, List.set_cons_zero, List.set_cons_succ]
      refine list_ev (v := .agg c15) ((Ch.want_at rfl rfl rfl).trans rfl) (K15.out.load rfl rfl) ?_
      simp only [Act.put, List.setIfInBounds_toArray, List.set_cons_zero, List.set_cons_succ]
      refine list_ev (v := .agg cs4) ((Ch.want_at rfl rfl rfl).trans rfl) (K4.out.load rfl rfl) ?_
      simp only [Act.put, List.setIfInBounds_toArray, List.set_cons_zero, List.set_cons_succ]
      refine list_callP ((Ch.want_at rfl rfl rfl).trans rfl) (ev_call2 rfl rfl (enters_of Tryd.func12 (by kernel_rfl) rfl)) (q_same (decide_eq_true rfl) K15.out.pf K4.out.pf (few_of (rt_noWithin hr))) ?_
      rintro e17 u17 ⟨rfl, b17⟩
      refine ⟨_, rfl, ?_⟩
      replace K1 := Lib.hid (K1.out.keep b17)
      replace K4 := Lib.hid (K4.out.keep b17)
      replace K5 := Lib.hid (K5.out.keep b17)
      replace K6 := Lib.hid (K6.out.keep b17)
      replace K15 := Lib.hid (K15.out.keep b17)
      replace K18 := Lib.hid (K18.out.keep b17)
      replace K21 := Lib.hid (K21.out.keep b17)
      replace HE := Lib.hid (A.keep HE.out b17)
      replace HB := Lib.hid (HB.out.trans (b17.mono HB.out.size))
      clear b17
      simp only [Act.put, List.setIfInBounds_toArray, List.set_cons_zero, List.set_cons_succ]
      refine list_ev (v := .bool true) rfl (by go_simp) ?_
      simp only [Act.put, List.setIfInBounds_toArray, List.set_cons_zero, List.set_cons_succ]
      refine list_ev (v := .bool true) rfl (ev_move rfl rfl) ?_
      simp only [Act.put, List.setIfInBounds_toArray, List.set_cons_zero, List.set_cons_succ]
      refine list_ev (v := .agg c18) ((Ch.want_at rfl rfl rfl).trans rfl) (K18.out.load rfl rfl) ?_
      simp only [Act.put, List.setIfInBounds_toArray, List.set_cons_zero, List.set_cons_succ]
      refine list_ev (v := .agg cs5) ((Ch.want_at rfl rfl rfl).trans rfl) (K5.out.load rfl rfl) ?_
      simp only [Act.put, List.setIfInBounds_toArray, List.set_cons_zero, List.set_cons_succ]
      refine list_callP ((Ch.want_at rfl rfl rfl).trans rfl) (ev_call2 rfl rfl (enters_of Tryd.func12 (by kernel_rfl) rfl)) (q_same (decide_eq_true rfl) K18.out.pf K5.out.pf (few_of (rt_noFiles hr))) ?_
      rintro e18 u18 ⟨rfl, b18⟩
      refine ⟨_, rfl, ?_⟩
      replace K1 := Lib.hid (K1.out.keep b18)
      replace K4 := Lib.hid (K4.out.keep b18)
      replace K5 := Lib.hid (K5.out.keep b18)
      replace K6 := Lib.hid (K6.out.keep b18)
      replace K15 := Lib.hid (K15.out.keep b18)
      replace K18 := Lib.hid (K18.out.keep b18)
      replace K21 := Lib.hid (K21.out.keep b18)
      replace HE := Lib.hid (A.keep HE.out b18)
      replace HB := Lib.hid (HB.out.trans (b18.mono HB.out.size))
      clear b18
      simp only [Act.put, List.setIfInBounds_toArray, List.set_cons_zero, List.set_cons_succ]
      refine list_ev (v := .bool true) rfl (by go_simp) ?_
      simp only [Act.put, List.setIfInBounds_toArray, List.set_cons_zero, List.set_cons_succ]
      refine list_ev (v := .bool true) rfl (ev_move rfl rfl) ?_
      simp only [Act.put, List.setIfInBounds_toArray, List.set_cons_zero, List.set_cons_succ]
      refine list_ev (v := .agg c21) ((Ch.want_at rfl rfl rfl).trans rfl) (K21.out.load rfl rfl) ?_
      simp only [Act.put, List.setIfInBounds_toArray, List.set_cons_zero, List.set_cons_succ]
      refine list_ev (v := .agg cs6) ((Ch.want_at rfl rfl rfl).trans rfl) (K6.out.load rfl rfl) ?_
      simp only [Act.put, List.setIfInBounds_toArray, List.set_cons_zero, List.set_cons_succ]
      refine list_callP ((Ch.want_at rfl rfl rfl).trans rfl) (ev_call2 rfl rfl (enters_of Tryd.func12 (by kernel_rfl) rfl)) (q_same (decide_eq_true rfl) K21.out.pf K6.out.pf (few_of (rt_noKeep hr))) ?_
      rintro e19 u19 ⟨rfl, b19⟩
      refine ⟨_, rfl, ?_⟩
      replace K1 := Lib.hid (K1.out.keep b19)
      replace K4 := Lib.hid (K4.out.keep b19)
      replace K5 := Lib.hid (K5.out.keep b19)
      replace K6 := Lib.hid (K6.out.keep b19)
      replace K15 := Lib.hid (K15.out.keep b19)
      replace K18 := Lib.hid (K18.out.keep b19)
      replace K21 := Lib.hid (K21.out.keep b19)
      replace HE := Lib.hid (A.keep HE.out b19)
      replace HB := Lib.hid (HB.out.trans (b19.mono HB.out.size))
      clear b19
      simp only [Act.put, List.setIfInBounds_toArray, List.set_cons_zero, List.set_cons_succ]
      refine list_ev (v := .bool true) rfl (by go_simp) ?_
      simp only [Act.put, List.setIfInBounds_toArray, List.set_cons_zero, List.set_cons_succ]
      refine list_ev (v := .bool true) rfl (ev_assign rfl rfl) ?_
      simp only [Act.put, List.setIfInBounds_toArray, List.set_cons_zero, List.set_cons_succ]
      obtain ⟨bw, hbw⟩ := lt_as (noWithin_cases hr)
      obtain ⟨bf, hbf⟩ := lt_as (noFiles_cases hr)
      obtain ⟨bk, hbk⟩ := lt_as (noKeep_cases hr)
      obtain ⟨nw, hnw⟩ := eq_as (noWithin_cases hr)
      rw [← hta, ← hts] at hbw hnw
      rw [← htb, ← hts] at hbf
      rw [← htc, ← hts] at hbk
      have z1 := bs_size ts
      have z2 := bs_size ta
      have z3 := bs_size tb
      have z4 := bs_size tc
      have HW := Lib.hid hbw
      have HF := Lib.hid hbf
      have HK := Lib.hid hbk
      have HN := Lib.hid hnw
      clear hbw hbf hbk hnw hta htb htc hts
      have c2 : (u19).cell? ⟨k1, 2, none⟩ = some (.int .i64 p.within) := by obtain ⟨tv, h1, -⟩ := K1.out.pf; rw [Lib.cell_of_heap K1.out.heap]; cases h1; rfl
      have c10 : (u19).cell? ⟨k1, 10, none⟩ = some (.int .i64 p.files) := by obtain ⟨tv, h1, -⟩ := K1.out.pf; rw [Lib.cell_of_heap K1.out.heap]; cases h1; rfl
      have c21 : (u19).cell? ⟨k1, 21, none⟩ = some (.int .i64 p.keep) := by obtain ⟨tv, h1, -⟩ := K1.out.pf; rw [Lib.cell_of_heap K1.out.heap]; cases h1; rfl
      go_upto_region 22 with fail
      refine wp_region_lit ?_
      refine list_ev (v := .bool true) rfl (ev_move rfl rfl) ?_
      simp only [Act.put, List.setIfInBounds_toArray, List.set_cons_zero, List.set_cons_succ]
      refine list_ev (v := .bool true) rfl (ev_move rfl rfl) ?_
      simp only [Act.put, List.setIfInBounds_toArray, List.set_cons_zero, List.set_cons_succ]
      refine list_ev (v := .bool true) ((Ch.want_at rfl rfl rfl).trans rfl) (ev_move rfl rfl) ?_
      simp only [Act.put, List.setIfInBounds_toArray, List.set_cons_zero, List.set_cons_succ]
      refine list_ev (v := .bool true) rfl (by go_simp) ?_
      simp only [Act.put, List.setIfInBounds_toArray, List.set_cons_zero, List.set_cons_succ]
      refine list_ev (v := .bool true) rfl (ev_move rfl rfl) ?_
      simp only [Act.put, List.setIfInBounds_toArray, List.set_cons_zero, List.set_cons_succ]
      refine list_ev (v := .string (bs ta)) ((Ch.want_at rfl rfl rfl).trans rfl) (ev_move rfl rfl) ?_
      simp only [Act.put, List.setIfInBounds_toArray, List.set_cons_zero, List.set_cons_succ]
      refine list_ev (v := .int .i64 (ta.length : Int)) ((Ch.want_at rfl rfl rfl).trans rfl) (by go_simp) ?_
      simp only [Act.put, List.setIfInBounds_toArray, List.set_cons_zero, List.set_cons_succ]
      refine list_ev (v := .string (bs ts)) ((Ch.want_at rfl rfl rfl).trans rfl) (ev_move rfl rfl) ?_
      simp only [Act.put, List.setIfInBounds_toArray, List.set_cons_zero, List.set_cons_succ]
      refine list_ev (v := .int .i64 (ts.length : Int)) ((Ch.want_at rfl rfl rfl).trans rfl) (by go_simp) ?_
      simp only [Act.put, List.setIfInBounds_toArray, List.set_cons_zero, List.set_cons_succ]
      refine list_ev (v := .bool bw) ((Ch.want_at rfl rfl rfl).trans rfl) (by rcases HW.out with ⟨rfl, h1, h2⟩ | ⟨rfl, h1, h2⟩ <;> go_simp) ?_
      simp only [Act.put, List.setIfInBounds_toArray, List.set_cons_zero, List.set_cons_succ]
      refine list_ev (v := .pointer (some ⟨k1, 2, none⟩)) ((Ch.want_at rfl rfl rfl).trans rfl) (by go_simp) ?_
      simp only [Act.put, List.setIfInBounds_toArray, List.set_cons_zero, List.set_cons_succ]
      refine list_ev (v := .int .i64 p.within) ((Ch.want_at rfl rfl rfl).trans rfl) (by go_simp) ?_
      simp only [Act.put, List.setIfInBounds_toArray, List.set_cons_zero, List.set_cons_succ]
      refine list_ev (v := .bool bw) ((Ch.want_at rfl rfl rfl).trans rfl) (by rcases HW.out with ⟨rfl, h1, h2⟩ | ⟨rfl, h1, h2⟩ <;> go_simp) ?_
      simp only [Act.put, List.setIfInBounds_toArray, List.set_cons_zero, List.set_cons_succ]
      refine list_ev (v := .bool true) ((Ch.want_at rfl rfl rfl).trans rfl) (by go_simp) ?_
      simp only [Act.put, List.setIfInBounds_toArray, List.set_cons_zero, List.set_cons_succ]
      refine list_ev (v := .bool true) rfl (by go_simp) ?_
      simp only [Act.put, List.setIfInBounds_toArray, List.set_cons_zero, List.set_cons_succ]
      refine list_ev (v := .bool true) rfl (ev_move rfl rfl) ?_
      simp only [Act.put, List.setIfInBounds_toArray, List.set_cons_zero, List.set_cons_succ]
      refine list_ev (v := .string (bs tb)) ((Ch.want_at rfl rfl rfl).trans rfl) (ev_move rfl rfl) ?_
      simp only [Act.put, List.setIfInBounds_toArray, List.set_cons_zero, List.set_cons_succ]
      refine list_ev (v := .int .i64 (tb.length : Int)) ((Ch.want_at rfl rfl rfl).trans rfl) (by go_simp) ?_
      simp only [Act.put, List.setIfInBounds_toArray, List.set_cons_zero, List.set_cons_succ]
      refine list_ev (v := .string (bs ts)) ((Ch.want_at rfl rfl rfl).trans rfl) (ev_move rfl rfl) ?_
      simp only [Act.put, List.setIfInBounds_toArray, List.set_cons_zero, List.set_cons_succ]
      refine list_ev (v := .int .i64 (ts.length : Int)) ((Ch.want_at rfl rfl rfl).trans rfl) (by go_simp) ?_
      simp only [Act.put, List.setIfInBounds_toArray, List.set_cons_zero, List.set_cons_succ]
      refine list_ev (v := .bool bf) ((Ch.want_at rfl rfl rfl).trans rfl) (by rcases HF.out with ⟨rfl, h1, h2⟩ | ⟨rfl, h1, h2⟩ <;> go_simp) ?_
      simp only [Act.put, List.setIfInBounds_toArray, List.set_cons_zero, List.set_cons_succ]
      refine list_ev (v := .pointer (some ⟨k1, 10, none⟩)) ((Ch.want_at rfl rfl rfl).trans rfl) (by go_simp) ?_
      simp only [Act.put, List.setIfInBounds_toArray, List.set_cons_zero, List.set_cons_succ]
      refine list_ev (v := .int .i64 p.files) ((Ch.want_at rfl rfl rfl).trans rfl) (by go_simp) ?_
      simp only [Act.put, List.setIfInBounds_toArray, List.set_cons_zero, List.set_cons_succ]
      refine list_ev (v := .bool bf) ((Ch.want_at rfl rfl rfl).trans rfl) (by rcases HF.out with ⟨rfl, h1, h2⟩ | ⟨rfl, h1, h2⟩ <;> go_simp) ?_
      simp only [Act.put, List.setIfInBounds_toArray, List.set_cons_zero, List.set_cons_succ]
      refine list_ev (v := .bool true) ((Ch.want_at rfl rfl rfl).trans rfl) (by go_simp) ?_
      simp only [Act.put, List.setIfInBounds_toArray, List.set_cons_zero, List.set_cons_succ]
      refine list_ev (v := .bool true) rfl (by go_simp) ?_
      simp only [Act.put, List.setIfInBounds_toArray, List.set_cons_zero, List.set_cons_succ]
      refine list_ev (v := .bool true) rfl (ev_move rfl rfl) ?_
      simp only [Act.put, List.setIfInBounds_toArray, List.set_cons_zero, List.set_cons_succ]
      refine list_ev (v := .string (bs tc)) ((Ch.want_at rfl rfl rfl).trans rfl) (ev_move rfl rfl) ?_
      simp only [Act.put, List.setIfInBounds_toArray, List.set_cons_zero, List.set_cons_succ]
      refine list_ev (v := .int .i64 (tc.length : Int)) ((Ch.want_at rfl rfl rfl).trans rfl) (by go_simp) ?_
      simp only [Act.put, List.setIfInBounds_toArray, List.set_cons_zero, List.set_cons_succ]
      refine list_ev (v := .string (bs ts)) ((Ch.want_at rfl rfl rfl).trans rfl) (ev_move rfl rfl) ?_
      simp only [Act.put, List.setIfInBounds_toArray, List.set_cons_zero, List.set_cons_succ]
      refine list_ev (v := .int .i64 (ts.length : Int)) ((Ch.want_at rfl rfl rfl).trans rfl) (by go_simp) ?_
      simp only [Act.put, List.setIfInBounds_toArray, List.set_cons_zero, List.set_cons_succ]
      refine list_ev (v := .bool bk) ((Ch.want_at rfl rfl rfl).trans rfl) (by rcases HK.out with ⟨rfl, h1, h2⟩ | ⟨rfl, h1, h2⟩ <;> go_simp) ?_
      simp only [Act.put, List.setIfInBounds_toArray, List.set_cons_zero, List.set_cons_succ]
      refine list_ev (v := .pointer (some ⟨k1, 21, none⟩)) ((Ch.want_at rfl rfl rfl).trans rfl) (by go_simp) ?_
      simp only [Act.put, List.setIfInBounds_toArray, List.set_cons_zero, List.set_cons_succ]
      refine list_ev (v := .int .i64 p.keep) ((Ch.want_at rfl rfl rfl).trans rfl) (by go_simp) ?_
      simp only [Act.put, List.setIfInBounds_toArray, List.set_cons_zero, List.set_cons_succ]
      refine list_ev (v := .bool bk) ((Ch.want_at rfl rfl rfl).trans rfl) (by rcases HK.out with ⟨rfl, h1, h2⟩ | ⟨rfl, h1, h2⟩ <;> go_simp) ?_
      simp only [Act.put, List.setIfInBounds_toArray, List.set_cons_zero, List.set_cons_succ]
      refine list_ev (v := .bool true) ((Ch.want_at rfl rfl rfl).trans rfl) (by go_simp) ?_
      simp only [Act.put, List.setIfInBounds_toArray, List.set_cons_zero, List.set_cons_succ]
      refine list_ev (v := .bool true) rfl (by go_simp) ?_
      simp only [Act.put, List.setIfInBounds_toArray, List.set_cons_zero, List.set_cons_succ]
      refine list_ev (v := .bool true) rfl (ev_move rfl rfl) ?_
      simp only [Act.put, List.setIfInBounds_toArray, List.set_cons_zero, List.set_cons_succ]
      refine list_ev (v := .string (bs ta)) ((Ch.want_at rfl rfl rfl).trans rfl) (ev_move rfl rfl) ?_
      simp only [Act.put, List.setIfInBounds_toArray, List.set_cons_zero, List.set_cons_succ]
      refine list_ev (v := .string (bs ts)) ((Ch.want_at rfl rfl rfl).trans rfl) (ev_move rfl rfl) ?_
      simp only [Act.put, List.setIfInBounds_toArray, List.set_cons_zero, List.set_cons_succ]
      refine list_ev (v := .bool nw) ((Ch.want_at rfl rfl rfl).trans rfl) (by rcases HN.out with ⟨rfl, h1, h2⟩ | ⟨rfl, h1, h2⟩ <;> go_simp) ?_
      simp only [Act.put, List.setIfInBounds_toArray, List.set_cons_zero, List.set_cons_succ]
      refine list_ev (v := .pointer (some ⟨k1, 2, none⟩)) ((Ch.want_at rfl rfl rfl).trans rfl) (by go_simp) ?_
      simp only [Act.put, List.setIfInBounds_toArray, List.set_cons_zero, List.set_cons_succ]
      refine list_ev (v := .int .i64 p.within) ((Ch.want_at rfl rfl rfl).trans rfl) (by go_simp) ?_
      simp only [Act.put, List.setIfInBounds_toArray, List.set_cons_zero, List.set_cons_succ]
      refine list_ev (v := .bool nw) ((Ch.want_at rfl rfl rfl).trans rfl) (by rcases HN.out with ⟨rfl, h1, h2⟩ | ⟨rfl, h1, h2⟩ <;> go_simp) ?_
      simp only [Act.put, List.setIfInBounds_toArray, List.set_cons_zero, List.set_cons_succ]
      refine list_ev (v := .bool true) ((Ch.want_at rfl rfl rfl).trans rfl) (by go_simp) ?_
      simp only [Act.put, List.setIfInBounds_toArray, List.set_cons_zero, List.set_cons_succ]
      refine list_ev (v := .bool true) rfl (by go_simp) ?_
      simp only [Act.put, List.setIfInBounds_toArray, List.set_cons_zero, List.set_cons_succ]
      refine list_ev (v := .bool true) rfl (ev_assign rfl rfl) ?_
      simp only [Act.put, List.setIfInBounds_toArray, List.set_cons_zero, List.set_cons_succ]
      go_wp2
      go_ret
      exact ⟨rfl, HB.out⟩
    · go_upto_region 2 with fail
      refine wp_region_lit ?_
      refine list_ev (v := .agg cs) rfl (K1.out.load rfl rfl) ?_
      simp only [Act.put, List.setIfInBounds_toArray, List.set_cons_zero, List.set_cons_succ]
      refine list_callP rfl (ev_call1 rfl (enters_of Tryd.func8 (by kernel_rfl) rfl)) (q_few hf K1.out.pf) ?_
      rintro e2 u2 ⟨rfl, b2⟩
      refine ⟨_, rfl, ?_⟩
      replace K1 := Lib.hid (K1.out.keep b2)
      replace HE := Lib.hid (A.keep HE.out b2)
      replace HB := Lib.hid (HB.out.trans (b2.mono HB.out.size))
      clear b2
      simp only [Act.put, List.setIfInBounds_toArray, List.set_cons_zero, List.set_cons_succ]
      refine list_ev (v := .bool false) rfl (by go_simp) ?_
      simp only [Act.put, List.setIfInBounds_toArray, List.set_cons_zero, List.set_cons_succ]
      refine list_ev (v := .bool false) rfl (ev_move rfl rfl) ?_
      simp only [Act.put, List.setIfInBounds_toArray, List.set_cons_zero, List.set_cons_succ]
      refine list_ev (v := .agg cs) ((Ch.want_at rfl rfl rfl).trans rfl) (K1.out.load rfl rfl) ?_
      simp only [Act.put, List.setIfInBounds_toArray, List.set_cons_zero, List.set_cons_succ]
      refine list_callP ((Ch.want_at rfl rfl rfl).trans rfl) (ev_call1 rfl (enters_of Tryd.func10 (by kernel_rfl) rfl)) (A.right_eq (decide_eq_false hr) HE.out K1.out.pf hf) ?_
      rintro e3 u3 ⟨rfl, b3⟩
      refine ⟨_, rfl, ?_⟩
      replace K1 := Lib.hid (K1.out.keep b3)
      replace HE := Lib.hid (A.keep HE.out b3)
      replace HB := Lib.hid (HB.out.trans (b3.mono HB.out.size))
      clear b3
      simp only [Act.put, List.setIfInBounds_toArray, List.set_cons_zero, List.set_cons_succ]
      refine list_ev (v := .bool true) ((Ch.want_at rfl rfl rfl).trans rfl) (by go_simp) ?_
      simp only [Act.put, List.setIfInBounds_toArray, List.set_cons_zero, List.set_cons_succ]
      refine list_ev (v := .bool true) rfl (by go_simp) ?_
      simp only [Act.put, List.setIfInBounds_toArray, List.set_cons_zero, List.set_cons_succ]
      go_wp2
      go_ret
      exact ⟨rfl, HB.out⟩
  · have hf : fewP p = false := by simpa using hf
    go_upto_region 2 with fail
    refine wp_region_lit ?_
    refine list_ev (v := .agg cs) rfl (K1.out.load rfl rfl) ?_
    simp only [Act.put, List.setIfInBounds_toArray, List.set_cons_zero, List.set_cons_succ]
    refine list_callP rfl (ev_call1 rfl (enters_of Tryd.func8 (by kernel_rfl) rfl)) (q_few hf K1.out.pf) ?_
    rintro e2 u2 ⟨rfl, b2⟩
    refine ⟨_, rfl, ?_⟩
    replace K1 := Lib.hid (K1.out.keep b2)
    replace HE := Lib.hid (A.keep HE.out b2)
    replace HB := Lib.hid (HB.out.trans (b2.mono HB.out.size))
    clear b2
    simp only [Act.put, List.setIfInBounds_toArray, List.set_cons_zero, List.set_cons_succ]
    refine list_ev (v := .bool true) rfl (by go_simp) ?_
    simp only [Act.put, List.setIfInBounds_toArray, List.set_cons_zero, List.set_cons_succ]
    refine list_ev (v := .bool true) rfl (ev_move rfl rfl) ?_
    simp only [Act.put, List.setIfInBounds_toArray, List.set_cons_zero, List.set_cons_succ]
    refine list_off ((Ch.want_at rfl rfl rfl).trans rfl) ?_
    simp only [Act.put, List.setIfInBounds_toArray, List.set_cons_zero, List.set_cons_succ]
    refine list_off ((Ch.want_at rfl rfl rfl).trans rfl) ?_
    simp only [Act.put, List.setIfInBounds_toArray, List.set_cons_zero, List.set_cons_succ]
    refine list_off ((Ch.want_at rfl rfl rfl).trans rfl) ?_
    simp only [Act.put, List.setIfInBounds_toArray, List.set_cons_zero, List.set_cons_succ]
    refine list_ev (v := .bool true) rfl (by go_simp) ?_
    simp only [Act.put, List.setIfInBounds_toArray, List.set_cons_zero, List.set_cons_succ]
    go_wp2
    go_ret
    exact ⟨rfl, HB.out⟩
end
end Go.Proofs.YtlefgffnjcmfoaaDoor
