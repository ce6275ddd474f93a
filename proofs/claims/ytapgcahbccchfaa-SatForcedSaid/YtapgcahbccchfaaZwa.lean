/- Package sat: search, way. -/
import Derived.Test.YtapgcahbccchfaaZse
namespace Go.Proofs.Ytapgcahbccchfaa
open Go.RowKit Go.Maps Go.ChangeMaps Go.MapKept
open St
attribute [local go_sem ↓] Go.wp_at_zero Go.wp_at_succ

theorem search_setup {w2 : World} {g q B mb N : Nat} {R : List Int} (hR : WRow w2 g R) (c0 : w2.cell? ⟨B, 0, none⟩ = some (.map (some mb))) (hB : B ≠ g) :
    ∃ W6, (store ⟨w2.heap.size + 1, 0, none⟩ (.func (.func 39) #[] #[.pointer (some ⟨B, 0, none⟩), .pointer (some ⟨w2.heap.size, 0, none⟩), .pointer (some ⟨w2.heap.size + 1, 0, none⟩)])).run Try.prog
      (((w2.setCell ⟨g, q, none⟩ (.int .i64 (q : Int))).alloc (.cells #[.slice (some ⟨g, 0, none⟩) N N] 54)).alloc (.cells #[.nilFunc] 59)) = .ok () W6 ∧
      W6.cell? ⟨B, 0, none⟩ = some (.map (some mb)) ∧ W6.cell? ⟨w2.heap.size, 0, none⟩ = some (.slice (some ⟨g, 0, none⟩) N N) ∧
      W6.cell? ⟨w2.heap.size + 1, 0, none⟩ = some (.func (.func 39) #[] #[.pointer (some ⟨B, 0, none⟩), .pointer (some ⟨w2.heap.size, 0, none⟩), .pointer (some ⟨w2.heap.size + 1, 0, none⟩)]) ∧
      WRow W6 g (R.set q (q : Int)) ∧ w2.grownBy W6 (some g) := by
  have hgl := hR.lt
  have hBl : B < w2.heap.size := Lib.lt_of_cell c0
  have hR3 := hR.set q (q : Int)
  have g3 := grown_cell w2 g q (.int .i64 (q : Int))
  have s3 : (w2.setCell ⟨g, q, none⟩ (.int .i64 (q : Int))).heap.size = w2.heap.size := set_size _ _ _
  have c3 := g3.cell c0 (fun e => hB (Option.some.inj e))
  generalize w2.setCell ⟨g, q, none⟩ (.int .i64 (q : Int)) = W3 at hR3 g3 s3 c3 ⊢
  have a4 := MapKept.heap_alloc W3 (.cells #[.slice (some ⟨g, 0, none⟩) N N] 54)
  have s4 : (W3.alloc (.cells #[.slice (some ⟨g, 0, none⟩) N N] 54)).heap.size = w2.heap.size + 1 := by simp [s3]
  have b4 := (Below.refl W3.heap.size W3).alloc (Nat.le_refl _) (.cells #[.slice (some ⟨g, 0, none⟩) N N] 54)
  generalize W3.alloc (.cells #[.slice (some ⟨g, 0, none⟩) N N] 54) = W4 at a4 s4 b4 ⊢
  have a5 := MapKept.heap_alloc W4 (.cells #[.nilFunc] 59)
  have b5 := (Below.refl W4.heap.size W4).alloc (Nat.le_refl _) (.cells #[.nilFunc] 59)
  generalize W4.alloc (.cells #[.nilFunc] 59) = W5 at a5 b5 ⊢
  rw [s4] at a5
  rw [s3] at a4
  have e5 : W5.cell? ⟨w2.heap.size + 1, 0, none⟩ = some .nilFunc := by rw [Lib.cell_of_heap a5.1]; rfl
  have f5 : W5.frozen? ⟨w2.heap.size + 1, 0, none⟩ = false := Lib.frozen_of_heap a5.1 0
  have b35 := b4.trans (b5.mono (by omega))
  have hb6 : ∀ v k, k < w2.heap.size + 1 → (W5.setCell ⟨w2.heap.size + 1, 0, none⟩ v).heap[k]? = W4.heap[k]? := fun v k hk => by rw [set_other (by simp; omega), a5.2 k hk]
  refine ⟨W5.setCell ⟨w2.heap.size + 1, 0, none⟩ (.func (.func 39) #[] #[.pointer (some ⟨B, 0, none⟩), .pointer (some ⟨w2.heap.size, 0, none⟩), .pointer (some ⟨w2.heap.size + 1, 0, none⟩)]), ?_, ?_, ?_, ?_, ?_, ?_⟩
  · rw [run_store _ _ _ _ _ rfl, e5]; simp [f5]
  · exact (World.cell?_of_block (a := ⟨B, 0, none⟩) ((hb6 _ B (by omega)).trans (a4.2 B (by omega)))).trans c3
  · exact (World.cell?_of_block (a := ⟨w2.heap.size, 0, none⟩) (hb6 _ w2.heap.size (by omega))).trans (by rw [Lib.cell_of_heap a4.1]; rfl)
  · exact World.cell?_setCell_same' _ _ _ (by rw [e5]; rfl)
  · exact hR3.block ((hb6 _ g (by omega)).trans (a4.2 g (by omega)))
  · refine ⟨?_, ?_, ?_, ?_, fun k hk hr => ?_⟩
    · exact b35.os.trans g3.os
    · exact b35.tape.trans g3.tape
    · exact b35.output.trans g3.output
    · rw [set_size]; have := b35.size; omega
    · exact ((hb6 _ k (by omega)).trans (a4.2 k (by omega))).trans (g3.block k hk hr)
set_option maxHeartbeats 4000000 in
set_option maxRecDepth 100000 in
theorem p_search {w : World} {l : List Cl} {n : Nat} {first : Int} {mb : Nat} (hi : ImpAt w mb (fo l)) (hr : right l (n : Int) = true) (hll : l.length ≤ 2000) (hf : 0 ≤ first ∧ first < 2 * (n : Int)) :
    Calls Try.prog 34 #[.map (some mb), .int .i64 (n : Int), .int .i64 first] w fun e w' => ∃ g T, e = .returned (.slice (some ⟨g, 0, none⟩) (2 * n) (2 * n)) ∧ WRow w' g T ∧ St.Found l n first T ∧ Below w.heap.size w w' ∧ w.heap.size ≤ g := by
  obtain ⟨q, rfl⟩ : ∃ q : Nat, first = (q : Int) := ⟨first.toNat, by omega⟩
  have hn := (right_iff.1 hr).1
  have hn4 : n ≤ 400 := by omega
  have hq : q < 2 * n := by omega
  have HI := Lib.hid hi
  have HRR := Lib.hid hr
  have hb1 := ((Below.refl w.heap.size w).alloc (Nat.le_refl _) (.cells #[.map (some mb)] 45)).alloc (by simp) (.cells #[.int .i64 (-1)] 3)
  have hs1 : ((w.alloc (.cells #[.map (some mb)] 45)).alloc (.cells #[.int .i64 (-1)] 3)).heap.size = w.heap.size + 1 + 1 := by simp
  have k1 : ((w.alloc (.cells #[.map (some mb)] 45)).alloc (.cells #[.int .i64 (-1)] 3)).cell? ⟨w.heap.size + 1, 0, none⟩ = some (.int .i64 (-1)) := by
    rw [show w.heap.size + 1 = (w.alloc (.cells #[.map (some mb)] 45)).heap.size by simp, Lib.cell_of_heap (MapKept.heap_alloc _ _).1]; rfl
  have k0 : ((w.alloc (.cells #[.map (some mb)] 45)).alloc (.cells #[.int .i64 (-1)] 3)).cell? ⟨w.heap.size, 0, none⟩ = some (.map (some mb)) := by
    rw [World.cell?_alloc_past _ _ _ (by simp), World.cell?_alloc_at _ _ _ _ rfl]; rfl
  have HRP := p_repeat (cap := 1) (N := 2 * n) k1 (by omega) (by omega)
  rw [show ((2 * n : Nat) : Int) = 2 * (n : Int) by omega] at HRP
  have HP := Lib.hid HRP
  have HB1 := Lib.hid hb1
  have K0 := Lib.hid k0
  clear hi hr HRP k1 k0 hb1
  go_enter Try.func34, Try.ntmps34
  go_wp2_with (go_at_call 38; refine (HP.out).mono ?_; rintro e w2 ⟨g, rfl, r2, b2, hg⟩; refine Hid.out ?_)
  refine Lib.hid ?_
  have c0 := below_cell K0.out b2
  have HB2 := Lib.hid (HB1.out.trans (b2.mono (by omega)))
  have hg2 : w.heap.size + 1 + 1 ≤ g := by omega
  have hgl := r2.lt
  have HR2 := Lib.hid r2
  have C0 := Lib.hid c0
  have hs2 := b2.size
  clear r2 b2 c0 hg K0 HB1 HP
  generalize hB : w.heap.size = B at *
  have HBB := Lib.hid hB
  have hs3 : B + 1 + 1 ≤ w2.heap.size := by omega
  clear hB hs1 hs2
  have d1 := (HR2.out.cell (j := q) (z := -1) (by rw [List.getElem?_replicate, if_pos hq])).1
  have d2 := (HR2.out.cell (j := q) (z := -1) (by rw [List.getElem?_replicate, if_pos hq])).2
  obtain ⟨W6, hst, x0, x1, x2, hR6, g6⟩ := search_setup (q := q) (N := 2 * n) HR2.out C0.out (by omega)
  have HT6 := Trl.start (l := l) (n := n) (first := (q : Int)) hf
  rw [Int.toNat_natCast] at HT6
  have hB6 : Below w.heap.size w W6 := by
    refine below_grown (by rw [HBB.out]; exact HB2.out) g6 fun x hx => ?_
    cases hx; rw [HBB.out]; omega
  have HV := p_visit (w0 := w) (q1 := B) (qt := w2.heap.size) (qv := w2.heap.size + 1) (mb := mb) (tb := g) HI HRR hll hn4 (2 * n) [(q : Int)] _ (q : Int) W6 (by simp) ⟨x0, x1, x2, ⟨by omega, by omega, by omega⟩, by rw [HBB.out]; omega, hB6⟩ hR6 HT6 (by simp)
  have HV := Lib.hid HV
  have HB6 := Lib.hid hB6
  have X1 := Lib.hid x1
  have HGS := Lib.hid (show w2.heap.size ≠ g from by omega)
  clear hR6 HT6 hB6 g6
  go_wp2_with (go_at_call 39; refine HV.out.mono ?_; rintro e w7 ⟨rfl, T7, E7, r7, g7, t7, s7, e7⟩; refine Hid.out ?_)
  refine Lib.hid ?_
  have x7 := g7.cell X1.out (fun e => HGS.out (Option.some.inj e))
  have HB7 := Lib.hid (below_grown HB6.out g7 fun x hx => (by cases hx; rw [HBB.out]; omega))
  have HF := Lib.hid (show St.Found l n (q : Int) T7 from ⟨_, t7, fun z hz => by
    rcases List.mem_append.1 hz with h | h
    · simp at h; subst h; exact s7
    · exact e7 z h⟩)
  have HR7 := Lib.hid r7
  clear r7 g7 t7 s7 e7 x0 x1 x2
  go_wp2
  go_ret
  exact ⟨g, T7, rfl, HR7.out, HF.out, HB7.out, by rw [HBB.out]; omega⟩
end Go.Proofs.Ytapgcahbccchfaa
