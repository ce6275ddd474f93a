/- The examples of layer 9. -/
import Derived.Test.YtmlogoaicjdjiaaRApi
import Derived.Test.YtmlogoaicjdjiaaOrd7
namespace Go.Proofs.Ytmlogoaicjdjiaa
open Go.RowKit Go.Maps Go.ChangeMaps Go.MapKept
open Rt
attribute [local go_sem ↓] Go.wp_at_zero Go.wp_at_succ
theorem ex_free : ∀ k : Nat, k < 4 → ∃ x y : Int, ([2, 4, 5, 1073741824] : List Int)[k]? = some x ∧ ([3, 9, 10, 10] : List Int)[k]? = some y ∧ free 0 1 3 10 x = (y, 0) ∧ (0 ≤ x ∧ x ≤ 1073741824)
  | 0, _ => ⟨2, 3, rfl, rfl, by decide, by decide⟩
  | 1, _ => ⟨4, 9, rfl, rfl, by decide, by decide⟩
  | 2, _ => ⟨5, 10, rfl, rfl, by decide, by decide⟩
  | 3, _ => ⟨1073741824, 10, rfl, rfl, by decide, by decide⟩
  | k + 4, h => by omega
theorem ex_next : ∀ k : Nat, k < 4 → ∃ x y : Int, ([0, 3, 4, 10] : List Int)[k]? = some x ∧ ([1, 2, 3, 5] : List Int)[k]? = some y ∧ next 0 1 3 10 x = (y, 0) ∧ (0 ≤ x ∧ x ≤ 1073741824)
  | 0, _ => ⟨0, 1, rfl, rfl, by decide, by decide⟩
  | 1, _ => ⟨3, 2, rfl, rfl, by decide, by decide⟩
  | 2, _ => ⟨4, 3, rfl, rfl, by decide, by decide⟩
  | 3, _ => ⟨10, 5, rfl, rfl, by decide, by decide⟩
  | k + 4, h => by omega
theorem two_lits (w : World) (l m : List Int) (hl : l.length ≤ 100) (hm : m.length ≤ 100) :
    NumsAt ((w.alloc (.cells (intVs l).toArray 3)).alloc (.cells (intVs m).toArray 3)) (.slice (some ⟨w.heap.size, 0, none⟩) l.length l.length) l ∧
    NumsAt ((w.alloc (.cells (intVs l).toArray 3)).alloc (.cells (intVs m).toArray 3)) (.slice (some ⟨w.heap.size + 1, 0, none⟩) m.length m.length) m ∧
    Below w.heap.size w ((w.alloc (.cells (intVs l).toArray 3)).alloc (.cells (intVs m).toArray 3)) := by
  have a1 := nums_lit w l hl
  have b1 := (Below.refl w.heap.size w).alloc (Nat.le_refl _) (.cells (intVs l).toArray 3)
  have s1 : (w.alloc (.cells (intVs l).toArray 3)).heap.size = w.heap.size + 1 := by simp
  generalize w.alloc (.cells (intVs l).toArray 3) = wa at a1 b1 s1
  have a2 := nums_lit wa m hm
  have b2 := (Below.refl wa.heap.size wa).alloc (Nat.le_refl _) (.cells (intVs m).toArray 3)
  rw [s1] at a2
  exact ⟨a1.keep b2, a2, b1.trans (b2.mono b1.size)⟩
set_option maxHeartbeats 8000000 in
set_option maxRecDepth 100000 in
theorem small_any (A : RApi) (w : World) : Calls Try.prog 7 #[] w fun e w' => e = .returned (.bool true) ∧ Below w.heap.size w w' := by
  have D : ∀ x : Int, -1000000000000000000 ≤ x ∧ x ≤ 1000000000000000000 → I64 x := fun x h => i64_of_small h
  have H1 := Lib.hid (A.take_eq (w := w) (show take 10 0 3 10 0 4 = ((6, 0), 0) by decide) (D _ (by decide)) (D _ (by decide)) (D _ (by decide)) (D _ (by decide)) (D _ (by decide)) (D _ (by decide)))
  have H2 := Lib.hid (fun w => A.take_eq (w := w) (show take 6 0 3 10 0 9 = ((6, 0), 6) by decide) (D _ (by decide)) (D _ (by decide)) (D _ (by decide)) (D _ (by decide)) (D _ (by decide)) (D _ (by decide)))
  have H3 := Lib.hid (fun w => A.take_eq (w := w) (show take 6 0 3 10 1 9 = ((0, 1), 0) by decide) (D _ (by decide)) (D _ (by decide)) (D _ (by decide)) (D _ (by decide)) (D _ (by decide)) (D _ (by decide)))
  go_enter Try.func7, Try.ntmps7
  go_wp2_with (go_at_call 8; refine (H1.out).mono ?_; rintro e w1 ⟨rfl, b1⟩; refine Hid.out ?_)
  refine Lib.hid ?_
  have B1 := Lib.hid (b1.alloc b1.size (.cells #[.int .i64 6, .int .i64 0] 24))
  obtain ⟨c0, c1⟩ := buck_new w1 6 0
  clear b1 H1
  go_wp2_with (go_at_call 8; refine (H2.out _).mono ?_; rintro e w2 ⟨rfl, b2⟩; refine Hid.out ?_)
  refine Lib.hid ?_
  have c0 := below_cell c0 b2
  have c1 := below_cell c1 b2
  have B2 := Lib.hid (B1.out.trans (b2.mono B1.out.size))
  obtain ⟨d0, d1⟩ := buck_new w2 6 0
  have bb := (Below.refl w2.heap.size w2).alloc (Nat.le_refl _) (.cells #[.int .i64 6, .int .i64 0] 24)
  have c0 := below_cell c0 bb
  have c1 := below_cell c1 bb
  have B2 := Lib.hid (B2.out.trans (bb.mono B2.out.size))
  clear b2 bb
  go_wp2_with (go_at_call 8; refine (H3.out _).mono ?_; rintro e w3 ⟨rfl, b3⟩; refine Hid.out ?_)
  refine Lib.hid ?_
  have c0 := below_cell c0 b3
  have c1 := below_cell c1 b3
  have B3 := Lib.hid (B2.out.trans (b3.mono B2.out.size))
  obtain ⟨e0, e1⟩ := buck_new w3 0 1
  have bb := (Below.refl w3.heap.size w3).alloc (Nat.le_refl _) (.cells #[.int .i64 0, .int .i64 1] 24)
  have c0 := below_cell c0 bb
  have c1 := below_cell c1 bb
  have B3 := Lib.hid (B3.out.trans (bb.mono B3.out.size))
  clear b3 bb
  have hsz : (w3.alloc (.cells #[.int .i64 0, .int .i64 1] 24)).heap.size = w3.heap.size + 1 := by simp
  obtain ⟨nx, ny, bb⟩ : NumsAt (((w3.alloc (.cells #[.int .i64 0, .int .i64 1] 24)).alloc (.cells #[.int .i64 2, .int .i64 4, .int .i64 5, .int .i64 1073741824] 3)).alloc (.cells #[.int .i64 3, .int .i64 9, .int .i64 10, .int .i64 10] 3)) (.slice (some ⟨(w3.alloc (.cells #[.int .i64 0, .int .i64 1] 24)).heap.size, 0, none⟩) 4 4) [2, 4, 5, 1073741824] ∧ NumsAt (((w3.alloc (.cells #[.int .i64 0, .int .i64 1] 24)).alloc (.cells #[.int .i64 2, .int .i64 4, .int .i64 5, .int .i64 1073741824] 3)).alloc (.cells #[.int .i64 3, .int .i64 9, .int .i64 10, .int .i64 10] 3)) (.slice (some ⟨(w3.alloc (.cells #[.int .i64 0, .int .i64 1] 24)).heap.size + 1, 0, none⟩) 4 4) [3, 9, 10, 10] ∧ Below (w3.alloc (.cells #[.int .i64 0, .int .i64 1] 24)).heap.size (w3.alloc (.cells #[.int .i64 0, .int .i64 1] 24)) (((w3.alloc (.cells #[.int .i64 0, .int .i64 1] 24)).alloc (.cells #[.int .i64 2, .int .i64 4, .int .i64 5, .int .i64 1073741824] 3)).alloc (.cells #[.int .i64 3, .int .i64 9, .int .i64 10, .int .i64 10] 3)) := two_lits (w3.alloc (.cells #[.int .i64 0, .int .i64 1] 24)) [2, 4, 5, 1073741824] [3, 9, 10, 10] (by decide) (by decide)
  rw [hsz] at nx ny
  have C0 := Lib.hid (below_cell e0 bb)
  have C1 := Lib.hid (below_cell e1 bb)
  have NX := Lib.hid nx
  have NY := Lib.hid ny
  have BB := Lib.hid (B3.out.trans (bb.mono B3.out.size))
  clear nx ny bb hsz
  go_wp2
  clear c0 c1 d0 d1 e0 e1 H3 H2
  skip
  generalize (((w3.alloc (.cells #[.int .i64 0, .int .i64 1] 24)).alloc (.cells #[.int .i64 2, .int .i64 4, .int .i64 5, .int .i64 1073741824] 3)).alloc (.cells #[.int .i64 3, .int .i64 9, .int .i64 10, .int .i64 10] 3)) = wb at C0 C1 NX NY BB ⊢
  go_loopw [9] (fun i wr => ∃ k : Nat, k ≤ 4 ∧ i = .int .i64 k ∧ Hid (Below wb.heap.size wb wr)) (fun i _ => 4 - (RowKit.intOf i).toNat)
  case atStart => exact ⟨0, by omega, rfl, Lib.hid (Below.refl _ _)⟩
  case round =>
    obtain ⟨k, hk, rfl, HB⟩ := hrel
    by_cases hlt : k < 4
    · obtain ⟨x, y, hx, hy, hf, hxb⟩ := ex_free k hlt
      have s0 := below_cell C0.out (HB.out.trans ((below_drew wr).mono HB.out.size))
      have s1 := below_cell C1.out (HB.out.trans ((below_drew wr).mono HB.out.size))
      have s2 := below_cell (NX.out.at_ hx) (HB.out.trans ((below_drew wr).mono HB.out.size))
      have HY := Lib.hid (fun w' b => (NY.out.keep (w' := w') b).at_ hy)
      have H1 := Lib.hid (A.free_eq (w := wr.drew) hf (D _ (by decide)) (D _ (by decide)) (D _ (by decide)) (D _ (by decide)) (D _ (by omega)))
      rw [Nat.zero_add] at s2
      have S0 := And.intro s0 (And.intro s1 s2)
      clear hx hy hf s0 s1 s2
      go_wp2
      refine region_till 5 (fun wx => wx.cell? ⟨w3.heap.size, 0, none⟩ = some (.int .i64 0) ∧ wx.cell? ⟨w3.heap.size, 1, none⟩ = some (.int .i64 1) ∧ wx.cell? ⟨w3.heap.size + 1, k, none⟩ = some (.int .i64 x)) (by kernel_rfl) ?_
      refine till_take 0 20 true (v := ?v0a) (by kernel_rfl) (by kernel_rfl) (by kernel_rfl) (by kernel_rfl) (by kernel_rfl) (fun _ _ _ h => h) ?hw0a S0 ?hy0a ?rest0a
      case hw0a => (simp only [List.getElem?_toArray, List.getElem?_cons_zero, Option.elim]; rfl)
      case hy0a => (simp only [List.getElem?_toArray, List.getElem?_cons_zero, Option.elim]; intro wx hx; have x0 := (hx trivial).1; have x1 := (hx trivial).2.1; have x2 := (hx trivial).2.2; go_simp; with_reducible rfl)
      simp only [dstOf, List.getElem?_toArray, List.getElem?_cons_zero, Option.bind, Act.put, List.setIfInBounds_toArray, List.set_cons_zero, List.set_cons_succ]
      refine till_take 1 20 false (v := ?v1a) (by kernel_rfl) (by kernel_rfl) (by kernel_rfl) (by kernel_rfl) (by kernel_rfl) (fun _ _ _ h => h) ?hw1a S0 ?hy1a ?rest1a
      case hw1a => (simp only [List.getElem?_toArray, List.getElem?_cons_zero, List.getElem?_cons_succ, Option.elim]; rfl)
      case hy1a => (simp only [List.getElem?_toArray, List.getElem?_cons_zero, List.getElem?_cons_succ, Option.elim]; intro wx _; go_simp; with_reducible rfl)
      simp only [dstOf, List.getElem?_toArray, List.getElem?_cons_zero, List.getElem?_cons_succ, Option.bind, Act.put, List.setIfInBounds_toArray, List.set_cons_zero, List.set_cons_succ]
      refine till_take 2 20 false (v := ?v2a) (by kernel_rfl) (by kernel_rfl) (by kernel_rfl) (by kernel_rfl) (by kernel_rfl) (fun _ _ _ h => h) ?hw2a S0 ?hy2a ?rest2a
      case hw2a => (simp only [List.getElem?_toArray, List.getElem?_cons_zero, List.getElem?_cons_succ, Option.elim]; rfl)
      case hy2a => (simp only [List.getElem?_toArray, List.getElem?_cons_zero, List.getElem?_cons_succ, Option.elim]; intro wx _; go_simp; with_reducible rfl)
      simp only [dstOf, List.getElem?_toArray, List.getElem?_cons_zero, List.getElem?_cons_succ, Option.bind, Act.put, List.setIfInBounds_toArray, List.set_cons_zero, List.set_cons_succ]
      refine till_take 3 20 false (v := ?v3a) (by kernel_rfl) (by kernel_rfl) (by kernel_rfl) (by kernel_rfl) (by kernel_rfl) (fun _ _ _ h => h) ?hw3a S0 ?hy3a ?rest3a
      case hw3a => (simp only [List.getElem?_toArray, List.getElem?_cons_zero, List.getElem?_cons_succ, Option.elim]; rfl)
      case hy3a => (simp only [List.getElem?_toArray, List.getElem?_cons_zero, List.getElem?_cons_succ, Option.elim]; intro wx _; go_simp; with_reducible rfl)
      simp only [dstOf, List.getElem?_toArray, List.getElem?_cons_zero, List.getElem?_cons_succ, Option.bind, Act.put, List.setIfInBounds_toArray, List.set_cons_zero, List.set_cons_succ]
      refine till_take 4 20 true (v := ?v4a) (by kernel_rfl) (by kernel_rfl) (by kernel_rfl) (by kernel_rfl) (by kernel_rfl) (fun _ _ _ h => h) ?hw4a S0 ?hy4a ?rest4a
      case hw4a => (simp only [List.getElem?_toArray, List.getElem?_cons_zero, List.getElem?_cons_succ, Option.elim]; rfl)
      case hy4a => (simp only [List.getElem?_toArray, List.getElem?_cons_zero, List.getElem?_cons_succ, Option.elim]; intro wx hx; have x0 := (hx trivial).1; have x1 := (hx trivial).2.1; have x2 := (hx trivial).2.2; go_simp; with_reducible rfl)
      simp only [dstOf, List.getElem?_toArray, List.getElem?_cons_zero, List.getElem?_cons_succ, Option.bind, Act.put, List.setIfInBounds_toArray, List.set_cons_zero, List.set_cons_succ]
      refine till_step 5 (by kernel_rfl) (by kernel_rfl) (fun K hK => ?_)
      simp only [List.getElem?_toArray, List.getElem?_cons_zero, List.getElem?_cons_succ, Option.elim]
      rw [if_pos (by rfl)]
      go_simp
      go_at_call 10
      refine (H1.out).mono ?_
      rintro e w7 ⟨rfl, b7⟩
      refine hK.out _ _ ?_
      clear hK K
      try simp only [Act.put, List.setIfInBounds_toArray, List.set_cons_zero, List.set_cons_succ]
      have B7 := Lib.hid (HB.out.trans (((below_drew wr).trans (b7.mono (below_drew wr).size)).mono HB.out.size))
      clear b7 H1 S0
      refine till_late 6 (v := ?v6a) (by kernel_rfl) (by kernel_rfl) (by kernel_rfl) (by kernel_rfl) (fun _ _ _ h => h) (by kernel_rfl) ?hw6a ?hy6a ?rest6a
      case hw6a => (simp only [List.getElem?_toArray, List.getElem?_cons_zero, List.getElem?_cons_succ, Option.elim]; rfl)
      case hy6a => (simp only [List.getElem?_toArray, List.getElem?_cons_zero, List.getElem?_cons_succ, Option.elim]; intro wx; go_simp; with_reducible rfl)
      simp only [dstOf, List.getElem?_toArray, List.getElem?_cons_zero, List.getElem?_cons_succ, Option.bind, Act.put, List.setIfInBounds_toArray, List.set_cons_zero, List.set_cons_succ]
      refine till_late 7 (v := ?v7a) (by kernel_rfl) (by kernel_rfl) (by kernel_rfl) (by kernel_rfl) (fun _ _ _ h => h) (by kernel_rfl) ?hw7a ?hy7a ?rest7a
      case hw7a => (simp only [List.getElem?_toArray, List.getElem?_cons_zero, List.getElem?_cons_succ, Option.elim]; rfl)
      case hy7a => (simp only [List.getElem?_toArray, List.getElem?_cons_zero, List.getElem?_cons_succ, Option.elim]; intro wx; go_simp; with_reducible rfl)
      simp only [dstOf, List.getElem?_toArray, List.getElem?_cons_zero, List.getElem?_cons_succ, Option.bind, Act.put, List.setIfInBounds_toArray, List.set_cons_zero, List.set_cons_succ]
      refine till_late 8 (v := ?v8a) (by kernel_rfl) (by kernel_rfl) (by kernel_rfl) (by kernel_rfl) (fun _ _ _ h => h) (by kernel_rfl) ?hw8a ?hy8a ?rest8a
      case hw8a => (simp only [List.getElem?_toArray, List.getElem?_cons_zero, List.getElem?_cons_succ, Option.elim]; rfl)
      case hy8a => (simp only [List.getElem?_toArray, List.getElem?_cons_zero, List.getElem?_cons_succ, Option.elim]; intro wx; go_simp; with_reducible rfl)
      simp only [dstOf, List.getElem?_toArray, List.getElem?_cons_zero, List.getElem?_cons_succ, Option.bind, Act.put, List.setIfInBounds_toArray, List.set_cons_zero, List.set_cons_succ]
      refine till_late 9 (v := ?v9a) (by kernel_rfl) (by kernel_rfl) (by kernel_rfl) (by kernel_rfl) (fun _ _ _ h => h) (by kernel_rfl) ?hw9a ?hy9a ?rest9a
      case hw9a => (simp only [List.getElem?_toArray, List.getElem?_cons_zero, List.getElem?_cons_succ, Option.elim]; rfl)
      case hy9a => (simp only [List.getElem?_toArray, List.getElem?_cons_zero, List.getElem?_cons_succ, Option.elim]; intro wx; go_simp; with_reducible rfl)
      simp only [dstOf, List.getElem?_toArray, List.getElem?_cons_zero, List.getElem?_cons_succ, Option.bind, Act.put, List.setIfInBounds_toArray, List.set_cons_zero, List.set_cons_succ]
      refine till_late 10 (v := ?v10a) (by kernel_rfl) (by kernel_rfl) (by kernel_rfl) (by kernel_rfl) (fun _ _ _ h => h) (by kernel_rfl) ?hw10a ?hy10a ?rest10a
      case hw10a => (simp only [List.getElem?_toArray, List.getElem?_cons_zero, List.getElem?_cons_succ, Option.elim]; rfl)
      case hy10a => (simp only [List.getElem?_toArray, List.getElem?_cons_zero, List.getElem?_cons_succ, Option.elim]; intro wx; go_simp; with_reducible rfl)
      simp only [dstOf, List.getElem?_toArray, List.getElem?_cons_zero, List.getElem?_cons_succ, Option.bind, Act.put, List.setIfInBounds_toArray, List.set_cons_zero, List.set_cons_succ]
      refine till_end (by kernel_rfl) ?_ _
      have c2 := HY.out w7 B7.out
      rw [Nat.zero_add] at c2
      go_wp2
      go_roundw
      case rel => exact ⟨k + 1, by omega, by go_num, B7⟩
      case measure => (simp [RowKit.intOf]; try omega)
    · obtain rfl : k = 4 := by omega
      rw [show ((4 : Nat) : Int) = 4 from rfl]
      obtain ⟨nx, ny, bb⟩ : NumsAt ((wr.alloc (.cells #[.int .i64 0, .int .i64 3, .int .i64 4, .int .i64 10] 3)).alloc (.cells #[.int .i64 1, .int .i64 2, .int .i64 3, .int .i64 5] 3)) (.slice (some ⟨wr.heap.size, 0, none⟩) 4 4) [0, 3, 4, 10] ∧ NumsAt ((wr.alloc (.cells #[.int .i64 0, .int .i64 3, .int .i64 4, .int .i64 10] 3)).alloc (.cells #[.int .i64 1, .int .i64 2, .int .i64 3, .int .i64 5] 3)) (.slice (some ⟨wr.heap.size + 1, 0, none⟩) 4 4) [1, 2, 3, 5] ∧ Below wr.heap.size wr ((wr.alloc (.cells #[.int .i64 0, .int .i64 3, .int .i64 4, .int .i64 10] 3)).alloc (.cells #[.int .i64 1, .int .i64 2, .int .i64 3, .int .i64 5] 3)) := two_lits wr [0, 3, 4, 10] [1, 2, 3, 5] (by decide) (by decide)
      have bb2 := HB.out.trans (bb.mono HB.out.size)
      have C0 := Lib.hid (below_cell C0.out bb2)
      have C1 := Lib.hid (below_cell C1.out bb2)
      have NX := Lib.hid nx
      have NY := Lib.hid ny
      have BB := Lib.hid (BB.out.trans (bb2.mono BB.out.size))
      clear nx ny bb bb2 HB
      go_wp2
      generalize wr.heap.size = sz at NX NY ⊢
      generalize ((wr.alloc (.cells #[.int .i64 0, .int .i64 3, .int .i64 4, .int .i64 10] 3)).alloc (.cells #[.int .i64 1, .int .i64 2, .int .i64 3, .int .i64 5] 3)) = wb at C0 C1 NX NY BB ⊢
      go_loopw [14] (fun i wr => ∃ k : Nat, k ≤ 4 ∧ i = .int .i64 k ∧ Hid (Below wb.heap.size wb wr)) (fun i _ => 4 - (RowKit.intOf i).toNat)
      case atStart => exact ⟨0, by omega, rfl, Lib.hid (Below.refl _ _)⟩
      case round =>
        obtain ⟨k, hk, rfl, HB⟩ := hrel
        by_cases hlt : k < 4
        · obtain ⟨x, y, hx, hy, hf, hxb⟩ := ex_next k hlt
          have s0 := below_cell C0.out (HB.out.trans ((below_drew wr).mono HB.out.size))
          have s1 := below_cell C1.out (HB.out.trans ((below_drew wr).mono HB.out.size))
          have s2 := below_cell (NX.out.at_ hx) (HB.out.trans ((below_drew wr).mono HB.out.size))
          have HY := Lib.hid (fun w' b => (NY.out.keep (w' := w') b).at_ hy)
          have H1 := Lib.hid (A.next_eq (w := wr.drew) hf (D _ (by decide)) (D _ (by decide)) (D _ (by decide)) (D _ (by decide)) (D _ (by omega)))
          rw [Nat.zero_add] at s2
          have S0 := And.intro s0 (And.intro s1 s2)
          clear hx hy hf s0 s1 s2
          go_wp2
          refine region_till 5 (fun wx => wx.cell? ⟨w3.heap.size, 0, none⟩ = some (.int .i64 0) ∧ wx.cell? ⟨w3.heap.size, 1, none⟩ = some (.int .i64 1) ∧ wx.cell? ⟨sz, k, none⟩ = some (.int .i64 x)) (by kernel_rfl) ?_
          refine till_take 0 20 true (v := ?v0b) (by kernel_rfl) (by kernel_rfl) (by kernel_rfl) (by kernel_rfl) (by kernel_rfl) (fun _ _ _ h => h) ?hw0b S0 ?hy0b ?rest0b
          case hw0b => (simp only [List.getElem?_toArray, List.getElem?_cons_zero, Option.elim]; rfl)
          case hy0b => (simp only [List.getElem?_toArray, List.getElem?_cons_zero, Option.elim]; intro wx hx; have x0 := (hx trivial).1; have x1 := (hx trivial).2.1; have x2 := (hx trivial).2.2; go_simp; with_reducible rfl)
          simp only [dstOf, List.getElem?_toArray, List.getElem?_cons_zero, Option.bind, Act.put, List.setIfInBounds_toArray, List.set_cons_zero, List.set_cons_succ]
          refine till_take 1 20 false (v := ?v1b) (by kernel_rfl) (by kernel_rfl) (by kernel_rfl) (by kernel_rfl) (by kernel_rfl) (fun _ _ _ h => h) ?hw1b S0 ?hy1b ?rest1b
          case hw1b => (simp only [List.getElem?_toArray, List.getElem?_cons_zero, List.getElem?_cons_succ, Option.elim]; rfl)
          case hy1b => (simp only [List.getElem?_toArray, List.getElem?_cons_zero, List.getElem?_cons_succ, Option.elim]; intro wx _; go_simp; with_reducible rfl)
          simp only [dstOf, List.getElem?_toArray, List.getElem?_cons_zero, List.getElem?_cons_succ, Option.bind, Act.put, List.setIfInBounds_toArray, List.set_cons_zero, List.set_cons_succ]
          refine till_take 2 20 false (v := ?v2b) (by kernel_rfl) (by kernel_rfl) (by kernel_rfl) (by kernel_rfl) (by kernel_rfl) (fun _ _ _ h => h) ?hw2b S0 ?hy2b ?rest2b
          case hw2b => (simp only [List.getElem?_toArray, List.getElem?_cons_zero, List.getElem?_cons_succ, Option.elim]; rfl)
          case hy2b => (simp only [List.getElem?_toArray, List.getElem?_cons_zero, List.getElem?_cons_succ, Option.elim]; intro wx _; go_simp; with_reducible rfl)
          simp only [dstOf, List.getElem?_toArray, List.getElem?_cons_zero, List.getElem?_cons_succ, Option.bind, Act.put, List.setIfInBounds_toArray, List.set_cons_zero, List.set_cons_succ]
          refine till_take 3 20 false (v := ?v3b) (by kernel_rfl) (by kernel_rfl) (by kernel_rfl) (by kernel_rfl) (by kernel_rfl) (fun _ _ _ h => h) ?hw3b S0 ?hy3b ?rest3b
          case hw3b => (simp only [List.getElem?_toArray, List.getElem?_cons_zero, List.getElem?_cons_succ, Option.elim]; rfl)
          case hy3b => (simp only [List.getElem?_toArray, List.getElem?_cons_zero, List.getElem?_cons_succ, Option.elim]; intro wx _; go_simp; with_reducible rfl)
          simp only [dstOf, List.getElem?_toArray, List.getElem?_cons_zero, List.getElem?_cons_succ, Option.bind, Act.put, List.setIfInBounds_toArray, List.set_cons_zero, List.set_cons_succ]
          refine till_take 4 20 true (v := ?v4b) (by kernel_rfl) (by kernel_rfl) (by kernel_rfl) (by kernel_rfl) (by kernel_rfl) (fun _ _ _ h => h) ?hw4b S0 ?hy4b ?rest4b
          case hw4b => (simp only [List.getElem?_toArray, List.getElem?_cons_zero, List.getElem?_cons_succ, Option.elim]; rfl)
          case hy4b => (simp only [List.getElem?_toArray, List.getElem?_cons_zero, List.getElem?_cons_succ, Option.elim]; intro wx hx; have x0 := (hx trivial).1; have x1 := (hx trivial).2.1; have x2 := (hx trivial).2.2; go_simp; with_reducible rfl)
          simp only [dstOf, List.getElem?_toArray, List.getElem?_cons_zero, List.getElem?_cons_succ, Option.bind, Act.put, List.setIfInBounds_toArray, List.set_cons_zero, List.set_cons_succ]
          refine till_step 5 (by kernel_rfl) (by kernel_rfl) (fun K hK => ?_)
          simp only [List.getElem?_toArray, List.getElem?_cons_zero, List.getElem?_cons_succ, Option.elim]
          rw [if_pos (by rfl)]
          go_simp
          go_at_call 12
          refine (H1.out).mono ?_
          rintro e w7 ⟨rfl, b7⟩
          refine hK.out _ _ ?_
          clear hK K
          try simp only [Act.put, List.setIfInBounds_toArray, List.set_cons_zero, List.set_cons_succ]
          have B7 := Lib.hid (HB.out.trans (((below_drew wr).trans (b7.mono (below_drew wr).size)).mono HB.out.size))
          clear b7 H1 S0
          refine till_late 6 (v := ?v6b) (by kernel_rfl) (by kernel_rfl) (by kernel_rfl) (by kernel_rfl) (fun _ _ _ h => h) (by kernel_rfl) ?hw6b ?hy6b ?rest6b
          case hw6b => (simp only [List.getElem?_toArray, List.getElem?_cons_zero, List.getElem?_cons_succ, Option.elim]; rfl)
          case hy6b => (simp only [List.getElem?_toArray, List.getElem?_cons_zero, List.getElem?_cons_succ, Option.elim]; intro wx; go_simp; with_reducible rfl)
          simp only [dstOf, List.getElem?_toArray, List.getElem?_cons_zero, List.getElem?_cons_succ, Option.bind, Act.put, List.setIfInBounds_toArray, List.set_cons_zero, List.set_cons_succ]
          refine till_late 7 (v := ?v7b) (by kernel_rfl) (by kernel_rfl) (by kernel_rfl) (by kernel_rfl) (fun _ _ _ h => h) (by kernel_rfl) ?hw7b ?hy7b ?rest7b
          case hw7b => (simp only [List.getElem?_toArray, List.getElem?_cons_zero, List.getElem?_cons_succ, Option.elim]; rfl)
          case hy7b => (simp only [List.getElem?_toArray, List.getElem?_cons_zero, List.getElem?_cons_succ, Option.elim]; intro wx; go_simp; with_reducible rfl)
          simp only [dstOf, List.getElem?_toArray, List.getElem?_cons_zero, List.getElem?_cons_succ, Option.bind, Act.put, List.setIfInBounds_toArray, List.set_cons_zero, List.set_cons_succ]
          refine till_late 8 (v := ?v8b) (by kernel_rfl) (by kernel_rfl) (by kernel_rfl) (by kernel_rfl) (fun _ _ _ h => h) (by kernel_rfl) ?hw8b ?hy8b ?rest8b
          case hw8b => (simp only [List.getElem?_toArray, List.getElem?_cons_zero, List.getElem?_cons_succ, Option.elim]; rfl)
          case hy8b => (simp only [List.getElem?_toArray, List.getElem?_cons_zero, List.getElem?_cons_succ, Option.elim]; intro wx; go_simp; with_reducible rfl)
          simp only [dstOf, List.getElem?_toArray, List.getElem?_cons_zero, List.getElem?_cons_succ, Option.bind, Act.put, List.setIfInBounds_toArray, List.set_cons_zero, List.set_cons_succ]
          refine till_late 9 (v := ?v9b) (by kernel_rfl) (by kernel_rfl) (by kernel_rfl) (by kernel_rfl) (fun _ _ _ h => h) (by kernel_rfl) ?hw9b ?hy9b ?rest9b
          case hw9b => (simp only [List.getElem?_toArray, List.getElem?_cons_zero, List.getElem?_cons_succ, Option.elim]; rfl)
          case hy9b => (simp only [List.getElem?_toArray, List.getElem?_cons_zero, List.getElem?_cons_succ, Option.elim]; intro wx; go_simp; with_reducible rfl)
          simp only [dstOf, List.getElem?_toArray, List.getElem?_cons_zero, List.getElem?_cons_succ, Option.bind, Act.put, List.setIfInBounds_toArray, List.set_cons_zero, List.set_cons_succ]
          refine till_late 10 (v := ?v10b) (by kernel_rfl) (by kernel_rfl) (by kernel_rfl) (by kernel_rfl) (fun _ _ _ h => h) (by kernel_rfl) ?hw10b ?hy10b ?rest10b
          case hw10b => (simp only [List.getElem?_toArray, List.getElem?_cons_zero, List.getElem?_cons_succ, Option.elim]; rfl)
          case hy10b => (simp only [List.getElem?_toArray, List.getElem?_cons_zero, List.getElem?_cons_succ, Option.elim]; intro wx; go_simp; with_reducible rfl)
          simp only [dstOf, List.getElem?_toArray, List.getElem?_cons_zero, List.getElem?_cons_succ, Option.bind, Act.put, List.setIfInBounds_toArray, List.set_cons_zero, List.set_cons_succ]
          refine till_end (by kernel_rfl) ?_ _
          have c2 := HY.out w7 B7.out
          rw [Nat.zero_add] at c2
          go_wp2
          go_roundw
          case rel => exact ⟨k + 1, by omega, by go_num, B7⟩
          case measure => (simp [RowKit.intOf]; try omega)
        · obtain rfl : k = 4 := by omega
          rw [show ((4 : Nat) : Int) = 4 from rfl]
          have c0 := below_cell C0.out HB.out
          have c1 := below_cell C1.out HB.out
          have BE := Lib.hid (BB.out.trans (HB.out.mono BB.out.size))
          have H5 := Lib.hid (fun w => A.next_eq (w := w) (show next 0 1 3 10 11 = (0, 6) by decide) (D _ (by decide)) (D _ (by decide)) (D _ (by decide)) (D _ (by decide)) (D _ (by decide)))
          have H6 := Lib.hid (fun w => A.right_eq (w := w) (show right 0 1 3 10 = true by decide) (D _ (by decide)) (D _ (by decide)) (D _ (by decide)) (D _ (by decide)))
          have H7 := Lib.hid (fun w => A.right_eq (w := w) (show right 0 1 (-1) 10 = false by decide) (D _ (by decide)) (D _ (by decide)) (D _ (by decide)) (D _ (by decide)))
          go_wp2_with (go_at_call 12; refine (H5.out _).mono ?_; rintro e w4 ⟨rfl, b4⟩; refine Hid.out ?_)
          refine Lib.hid ?_
          have c0 := below_cell c0 b4
          have c1 := below_cell c1 b4
          have BE := Lib.hid (BE.out.trans (b4.mono BE.out.size))
          clear b4
          go_wp2_with (go_at_call 14; refine (H6.out _).mono ?_; rintro e w5 ⟨rfl, b5⟩; refine Hid.out ?_)
          refine Lib.hid ?_
          have c0 := below_cell c0 b5
          have c1 := below_cell c1 b5
          have BE := Lib.hid (BE.out.trans (b5.mono BE.out.size))
          clear b5
          go_wp2_with (go_at_call 14; refine (H7.out _).mono ?_; rintro e w6 ⟨rfl, b6⟩; refine Hid.out ?_)
          refine Lib.hid ?_
          go_wp2
          go_ret
          exact ⟨rfl, BE.out.trans (b6.mono BE.out.size)⟩
end Go.Proofs.Ytmlogoaicjdjiaa
