/- The reference's survive. -/
import Derived.Test.YtadnmoaemnajgaaRAdd
import Derived.Test.YtadnmoaemnajgaaOrd
namespace Go.Proofs.Ytadnmoaemnajgaa
open Go.RowKit Go.Maps Go.ChangeMaps Go.MapKept
open Dp
attribute [local go_sem ↓] Go.wp_at_zero Go.wp_at_succ

def Rf.harden (R : Rf) (p : Nat × Nat) : Rf := R.set ⟨p.1, R.now p.1, putL (R.dur p.1) (64 * p.2) (sec (R.now p.1) p.2)⟩
/-- What a callee that writes nothing leaves of a local struct of three cells. -/
theorem blk3 {w1 w4 w5 : World} {u0 u1 u2 : Value} {T : TypeId} (b : Below w4.heap.size w4 w5) (h : w4.os = w1.os ∧ w4.tape = w1.tape ∧ w4.output = w1.output ∧ w4.heap = (w1.alloc (.cells #[u0, u1, u2] T)).heap) :
    w5.cell? ⟨w1.heap.size, 0, none⟩ = some u0 ∧ w5.cell? ⟨w1.heap.size, 1, none⟩ = some u1 ∧ w5.cell? ⟨w1.heap.size, 2, none⟩ = some u2 ∧ w5.frozen? ⟨w1.heap.size, 2, none⟩ = false ∧ Below w1.heap.size w1 w5 := by
  obtain ⟨h1, h2, h3, h4⟩ := h
  have hs : w4.heap.size = w1.heap.size + 1 := by rw [h4]; simp
  have hb : w5.heap[w1.heap.size]? = some (.cells #[u0, u1, u2] T (0, 0)) := (b.block _ (by omega)).trans (by rw [h4]; exact heap_alloc_new w1 _)
  refine ⟨by rw [Lib.cell_of_heap hb]; rfl, by rw [Lib.cell_of_heap hb]; rfl, by rw [Lib.cell_of_heap hb]; rfl, Lib.frozen_of_heap hb 2, ⟨b.os.trans h1, b.tape.trans h2, b.output.trans h3, by have := b.size; omega, fun k hk => (b.block k (by omega)).trans ?_⟩⟩
  rw [h4]; exact Lib.alloc_old w1 _ k hk
theorem below_rb {w4 w4' w5 : World} (b : Below w4.heap.size w4 w5) (h1 : w4.os = w4'.os) (h2 : w4.tape = w4'.tape) (h3 : w4.output = w4'.output) (h4 : w4.heap = w4'.heap) : Below w4'.heap.size w4' w5 := by
  exact ⟨b.os.trans h1, b.tape.trans h2, b.output.trans h3, by rw [← h4]; exact b.size, fun k hk => (b.block k (by rw [h4]; exact hk)).trans (by rw [h4])⟩
theorem str_slice (w : World) {s : List UInt8} (i j : Nat) (h1 : i ≤ j) (h2 : j ≤ (bs s).size) : (Instr.slice 9 (.string (bs s)) (some (.int .i64 (i : Int))) (some (.int .i64 (j : Int))) none).run Try.prog w = .ok (.string ((bs s).extract i j)) w := by
  simp [Instr.slice, Instr.sliceBounds, Instr.sliceBound, asIntOf, run_underlying Try.underlying9, h1, h2, Result.andThen, go_sem]
section
variable {w : World} {lab : Nat → Nat} {id r : Nat} {R : Rf} {L : RLoc}
set_option maxHeartbeats 4000000 in
set_option maxRecDepth 100000 in
theorem survive_any (h : RIn w lab id r R L) (p : Nat × Nat) (hp1 : p.1 < 16) (hp : 64 * p.2 < (R.now p.1).length) :
    Calls Try.prog 51 #[.pointer (some ⟨r, 0, none⟩), .agg #[.int .i64 (p.1 : Int), .int .i64 (p.2 : Int)]] w (RPostK lab id r (.tuple #[]) (R.harden p) L w) := by
  have H := Lib.hid h
  obtain ⟨hn1, hn2⟩ := rnow_len h.ok (p.1 : Int)
  have hb0 := below_alloc w (.cells #[.int .i64 (p.1 : Int), .int .i64 (p.2 : Int)] 79)
  have HB0 := Lib.hid hb0
  have HG := Lib.hid (get_any (h.fresh hb0) (p.1 : Int) ⟨by omega, by omega⟩)
  have x0 := alloc_new_cell w #[.int .i64 (p.1 : Int), .int .i64 (p.2 : Int)] 79 0
  have x1 := alloc_new_cell w #[.int .i64 (p.1 : Int), .int .i64 (p.2 : Int)] 79 1
  simp only [List.getElem?_toArray, List.getElem?_cons_zero, List.getElem?_cons_succ] at x0 x1
  have hsl : (sec (R.now p.1) p.2).length = min 64 ((R.now p.1).length - 64 * p.2) := sec_length _ _
  have hpl : (putL (R.dur p.1) (64 * p.2) (sec (R.now p.1) p.2)).length ≤ 16777216 := by rw [putL_length]; omega
  have HPL := Lib.hid hpl
  have HN1 := Lib.hid hn1
  have HN2 := Lib.hid hn2
  have hpt := fun w => rput_any (R.dur p.1) (64 * p.2) (sec (R.now p.1) p.2) hn2 (by omega) w
  rw [show ((64 * p.2 : Nat) : Int) = 64 * (p.2 : Int) by omega] at hpt
  have hne : sec (R.now p.1) p.2 ≠ [] := fun e => by rw [e] at hsl; simp at hsl; omega
  have hpn : putN (R.dur p.1) (64 * p.2) (sec (R.now p.1) p.2) = putL (R.dur p.1) (64 * p.2) (sec (R.now p.1) p.2) := by unfold putN; rw [if_neg hne]
  rw [hpn] at hpt
  have HPT := Lib.hid hpt
  have HNE := Lib.hid hne
  have hz := bs_size (R.now p.1)
  have hlt : 64 * (p.2 : Int) < ((bs (R.now p.1)).size : Int) := by omega
  obtain ⟨m, hm⟩ : ∃ m : Nat, m = min (64 * p.2 + 64) (R.now p.1).length := ⟨_, rfl⟩
  have hmm : min (64 * (p.2 : Int) + 64) ((bs (R.now p.1)).size : Int) = (m : Int) := by omega
  have hml : m ≤ (bs (R.now p.1)).size := by omega
  have hm0 : 64 * p.2 ≤ m := by omega
  have hzz : (bs (R.now p.1)).size ≤ 16777216 := by omega
  have hi1 : 64 * (p.2 : Int) ≤ (m : Int) := by omega
  have hi2 : (m : Int) ≤ ((bs (R.now p.1)).size : Int) := by omega
  have hi3 : (0 : Int) ≤ 64 * (p.2 : Int) := by omega
  have hw1 : IntKind.i64.wrap (64 * (p.2 : Int)) = 64 * (p.2 : Int) := by rw [IntKind.wrap_i64]; omega
  have hw2 : IntKind.i64.wrap (64 * (p.2 : Int) + 64) = 64 * (p.2 : Int) + 64 := by rw [IntKind.wrap_i64]; omega
  have HEX := Lib.hid (show (bs (R.now p.1)).extract (64 * p.2) m = bs (sec (R.now p.1) p.2) by
    rw [bs_extract]; congr 1
    unfold sec
    apply List.ext_getElem?
    intro i
    rw [List.getElem?_take, List.getElem?_take]
    by_cases hi : i < 64
    · rw [if_pos hi]
      split
      · rfl
      · exact (List.getElem?_eq_none (by simp; omega)).symm
    · rw [if_neg hi, if_neg (by omega)])
  have hsli : ∀ w, (Instr.slice 9 (.string (bs (R.now p.1))) (some (.int .i64 (64 * (p.2 : Int)))) (some (.int .i64 (m : Int))) none).run Try.prog w = .ok (.string (bs (sec (R.now p.1) p.2))) w := fun w => by
    have := str_slice w (64 * p.2) m hm0 hml
    rw [show ((64 * p.2 : Nat) : Int) = 64 * (p.2 : Int) by omega] at this
    rw [this, HEX.out]
  clear h hn1 hn2 hb0 hsl hpl hne hz hp hm hpt hpn
  go_enter Try.func51, Try.ntmps51
  go_wp2_with (go_at_call 39; refine HG.out.mono ?_; rintro e w1 ⟨rfl, b1⟩; refine Hid.out ?_)
  refine Lib.hid ?_
  have y0 := below_cell x0 b1
  have y1 := below_cell x1 b1
  have hbw1 : Below w.heap.size w w1 := HB0.out.trans (b1.mono HB0.out.size)
  have hxl : w.heap.size < w1.heap.size := Nat.lt_of_lt_of_le (by simp) b1.size
  have hA := below_alloc w1 (.cells #[.int .i64 (p.1 : Int), .string (bs (R.now p.1)), .string (bs (R.dur p.1))] 67)
  have z0 := below_cell y0 hA
  have z1 := below_cell y1 hA
  have d0 := alloc_new_cell w1 #[.int .i64 (p.1 : Int), .string (bs (R.now p.1)), .string (bs (R.dur p.1))] 67 0
  have d1 := alloc_new_cell w1 #[.int .i64 (p.1 : Int), .string (bs (R.now p.1)), .string (bs (R.dur p.1))] 67 1
  have d2 := alloc_new_cell w1 #[.int .i64 (p.1 : Int), .string (bs (R.now p.1)), .string (bs (R.dur p.1))] 67 2
  simp only [List.getElem?_toArray, List.getElem?_cons_zero, List.getElem?_cons_succ] at d0 d1 d2
  have HBW := Lib.hid hbw1
  have HBA := Lib.hid hA
  have HXL := Lib.hid hxl
  clear x0 x1 y0 y1 b1 hbw1 hxl hA HG
  go_wp2
  have fz2 := Lib.frozen_of_heap (heap_alloc_new w1 (.cells #[.int .i64 (p.1 : Int), .string (bs (R.now p.1)), .string (bs (R.dur p.1))] 67)) 2
  have S0 := And.intro z1 (And.intro d1 d2)
  refine region_till 19 (fun w' => w'.cell? ⟨w.heap.size, 1, none⟩ = some (.int .i64 (p.2 : Int)) ∧ w'.cell? ⟨w1.heap.size, 1, none⟩ = some (.string (bs (R.now p.1))) ∧ w'.cell? ⟨w1.heap.size, 2, none⟩ = some (.string (bs (R.dur p.1)))) (by kernel_rfl) ?_
  refine till_take 0 6 false (v := ?v0) (by kernel_rfl) (by kernel_rfl) (by kernel_rfl) (by kernel_rfl) (by kernel_rfl) (fun _ _ _ h => h) ?hw0 S0 ?hy0 ?rest0
  case hw0 => (simp only [List.getElem?_toArray, List.getElem?_cons_zero, Option.elim]; rfl)
  case hy0 => (simp only [List.getElem?_toArray, List.getElem?_cons_zero, Option.elim]; intro wx _; go_simp; with_reducible rfl)
  simp only [dstOf, List.getElem?_toArray, List.getElem?_cons_zero, Option.bind, Act.put, List.setIfInBounds_toArray, List.set_cons_zero, List.set_cons_succ]
  refine till_take 1 6 true (v := ?v1) (by kernel_rfl) (by kernel_rfl) (by kernel_rfl) (by kernel_rfl) (by kernel_rfl) (fun _ _ _ h => h) ?hw1 S0 ?hy1 ?rest1
  case hw1 => (simp only [List.getElem?_toArray, List.getElem?_cons_zero, List.getElem?_cons_succ, Option.elim]; rfl)
  case hy1 => (simp only [List.getElem?_toArray, List.getElem?_cons_zero, List.getElem?_cons_succ, Option.elim]; intro wx hx; obtain ⟨x1, x2, x3⟩ := hx trivial; go_simp; with_reducible rfl)
  simp only [dstOf, List.getElem?_toArray, List.getElem?_cons_zero, List.getElem?_cons_succ, Option.bind, Act.put, List.setIfInBounds_toArray, List.set_cons_zero, List.set_cons_succ]
  refine till_take 2 6 false (v := ?v2) (by kernel_rfl) (by kernel_rfl) (by kernel_rfl) (by kernel_rfl) (by kernel_rfl) (fun _ _ _ h => h) ?hw2 S0 ?hy2 ?rest2
  case hw2 => (simp only [List.getElem?_toArray, List.getElem?_cons_zero, List.getElem?_cons_succ, Option.elim]; rfl)
  case hy2 => (simp only [List.getElem?_toArray, List.getElem?_cons_zero, List.getElem?_cons_succ, Option.elim]; intro wx _; go_simp; with_reducible rfl)
  simp only [dstOf, List.getElem?_toArray, List.getElem?_cons_zero, List.getElem?_cons_succ, Option.bind, Act.put, List.setIfInBounds_toArray, List.set_cons_zero, List.set_cons_succ]
  refine till_take 3 6 true (v := ?v3) (by kernel_rfl) (by kernel_rfl) (by kernel_rfl) (by kernel_rfl) (by kernel_rfl) (fun _ _ _ h => h) ?hw3 S0 ?hy3 ?rest3
  case hw3 => (simp only [List.getElem?_toArray, List.getElem?_cons_zero, List.getElem?_cons_succ, Option.elim]; rfl)
  case hy3 => (simp only [List.getElem?_toArray, List.getElem?_cons_zero, List.getElem?_cons_succ, Option.elim]; intro wx hx; obtain ⟨x1, x2, x3⟩ := hx trivial; go_simp; with_reducible rfl)
  simp only [dstOf, List.getElem?_toArray, List.getElem?_cons_zero, List.getElem?_cons_succ, Option.bind, Act.put, List.setIfInBounds_toArray, List.set_cons_zero, List.set_cons_succ]
  refine till_take 4 6 false (v := ?v4) (by kernel_rfl) (by kernel_rfl) (by kernel_rfl) (by kernel_rfl) (by kernel_rfl) (fun _ _ _ h => h) ?hw4 S0 ?hy4 ?rest4
  case hw4 => (simp only [List.getElem?_toArray, List.getElem?_cons_zero, List.getElem?_cons_succ, Option.elim]; rfl)
  case hy4 => (simp only [List.getElem?_toArray, List.getElem?_cons_zero, List.getElem?_cons_succ, Option.elim]; intro wx _; go_simp; with_reducible rfl)
  simp only [dstOf, List.getElem?_toArray, List.getElem?_cons_zero, List.getElem?_cons_succ, Option.bind, Act.put, List.setIfInBounds_toArray, List.set_cons_zero, List.set_cons_succ]
  refine till_take 5 6 false (v := ?v5) (by kernel_rfl) (by kernel_rfl) (by kernel_rfl) (by kernel_rfl) (by kernel_rfl) (fun _ _ _ h => h) ?hw5 S0 ?hy5 ?rest5
  case hw5 => (simp only [List.getElem?_toArray, List.getElem?_cons_zero, List.getElem?_cons_succ, Option.elim]; rfl)
  case hy5 => (simp only [List.getElem?_toArray, List.getElem?_cons_zero, List.getElem?_cons_succ, Option.elim]; intro wx _; go_simp; with_reducible rfl)
  simp only [dstOf, List.getElem?_toArray, List.getElem?_cons_zero, List.getElem?_cons_succ, Option.bind, Act.put, List.setIfInBounds_toArray, List.set_cons_zero, List.set_cons_succ]
  refine till_take 6 6 true (v := ?v6) (by kernel_rfl) (by kernel_rfl) (by kernel_rfl) (by kernel_rfl) (by kernel_rfl) (fun _ _ _ h => h) ?hw6 S0 ?hy6 ?rest6
  case hw6 => (simp only [List.getElem?_toArray, List.getElem?_cons_zero, List.getElem?_cons_succ, Option.elim]; rfl)
  case hy6 => (simp only [List.getElem?_toArray, List.getElem?_cons_zero, List.getElem?_cons_succ, Option.elim]; intro wx hx; obtain ⟨x1, x2, x3⟩ := hx trivial; go_simp; with_reducible rfl)
  simp only [dstOf, List.getElem?_toArray, List.getElem?_cons_zero, List.getElem?_cons_succ, Option.bind, Act.put, List.setIfInBounds_toArray, List.set_cons_zero, List.set_cons_succ]
  refine till_take 7 6 false (v := ?v7) (by kernel_rfl) (by kernel_rfl) (by kernel_rfl) (by kernel_rfl) (by kernel_rfl) (fun _ _ _ h => h) ?hw7 S0 ?hy7 ?rest7
  case hw7 => (simp only [List.getElem?_toArray, List.getElem?_cons_zero, List.getElem?_cons_succ, Option.elim]; rfl)
  case hy7 => (simp only [List.getElem?_toArray, List.getElem?_cons_zero, List.getElem?_cons_succ, Option.elim]; intro wx _; go_simp; with_reducible rfl)
  simp only [dstOf, List.getElem?_toArray, List.getElem?_cons_zero, List.getElem?_cons_succ, Option.bind, Act.put, List.setIfInBounds_toArray, List.set_cons_zero, List.set_cons_succ]
  refine till_take 8 6 true (v := ?v8) (by kernel_rfl) (by kernel_rfl) (by kernel_rfl) (by kernel_rfl) (by kernel_rfl) (fun _ _ _ h => h) ?hw8 S0 ?hy8 ?rest8
  case hw8 => (simp only [List.getElem?_toArray, List.getElem?_cons_zero, List.getElem?_cons_succ, Option.elim]; rfl)
  case hy8 => (simp only [List.getElem?_toArray, List.getElem?_cons_zero, List.getElem?_cons_succ, Option.elim]; intro wx hx; obtain ⟨x1, x2, x3⟩ := hx trivial; go_simp; with_reducible rfl)
  simp only [dstOf, List.getElem?_toArray, List.getElem?_cons_zero, List.getElem?_cons_succ, Option.bind, Act.put, List.setIfInBounds_toArray, List.set_cons_zero, List.set_cons_succ]
  refine till_take 9 6 false (v := ?v9) (by kernel_rfl) (by kernel_rfl) (by kernel_rfl) (by kernel_rfl) (by kernel_rfl) (fun _ _ _ h => h) ?hw9 S0 ?hy9 ?rest9
  case hw9 => (simp only [List.getElem?_toArray, List.getElem?_cons_zero, List.getElem?_cons_succ, Option.elim]; rfl)
  case hy9 => (simp only [List.getElem?_toArray, List.getElem?_cons_zero, List.getElem?_cons_succ, Option.elim]; intro wx _; go_simp; with_reducible rfl)
  simp only [dstOf, List.getElem?_toArray, List.getElem?_cons_zero, List.getElem?_cons_succ, Option.bind, Act.put, List.setIfInBounds_toArray, List.set_cons_zero, List.set_cons_succ]
  refine till_take 10 6 false (v := ?v10) (by kernel_rfl) (by kernel_rfl) (by kernel_rfl) (by kernel_rfl) (by kernel_rfl) (fun _ _ _ h => h) ?hw10 S0 ?hy10 ?rest10
  case hw10 => (simp only [List.getElem?_toArray, List.getElem?_cons_zero, List.getElem?_cons_succ, Option.elim]; rfl)
  case hy10 => (simp only [List.getElem?_toArray, List.getElem?_cons_zero, List.getElem?_cons_succ, Option.elim]; intro wx _; go_simp; with_reducible rfl)
  simp only [dstOf, List.getElem?_toArray, List.getElem?_cons_zero, List.getElem?_cons_succ, Option.bind, Act.put, List.setIfInBounds_toArray, List.set_cons_zero, List.set_cons_succ]
  refine till_take 11 6 true (v := ?v11) (by kernel_rfl) (by kernel_rfl) (by kernel_rfl) (by kernel_rfl) (by kernel_rfl) (fun _ _ _ h => h) ?hw11 S0 ?hy11 ?rest11
  case hw11 => (simp only [List.getElem?_toArray, List.getElem?_cons_zero, List.getElem?_cons_succ, Option.elim]; rfl)
  case hy11 => (simp only [List.getElem?_toArray, List.getElem?_cons_zero, List.getElem?_cons_succ, Option.elim]; intro wx hx; obtain ⟨x1, x2, x3⟩ := hx trivial; go_simp; with_reducible rfl)
  simp only [dstOf, List.getElem?_toArray, List.getElem?_cons_zero, List.getElem?_cons_succ, Option.bind, Act.put, List.setIfInBounds_toArray, List.set_cons_zero, List.set_cons_succ]
  refine till_take 12 6 false (v := ?v12) (by kernel_rfl) (by kernel_rfl) (by kernel_rfl) (by kernel_rfl) (by kernel_rfl) (fun _ _ _ h => h) ?hw12 S0 ?hy12 ?rest12
  case hw12 => (simp only [List.getElem?_toArray, List.getElem?_cons_zero, List.getElem?_cons_succ, Option.elim]; rfl)
  case hy12 => (simp only [List.getElem?_toArray, List.getElem?_cons_zero, List.getElem?_cons_succ, Option.elim]; intro wx _; go_simp; with_reducible rfl)
  simp only [dstOf, List.getElem?_toArray, List.getElem?_cons_zero, List.getElem?_cons_succ, Option.bind, Act.put, List.setIfInBounds_toArray, List.set_cons_zero, List.set_cons_succ]
  refine till_take 13 6 false (v := ?v13) (by kernel_rfl) (by kernel_rfl) (by kernel_rfl) (by kernel_rfl) (by kernel_rfl) (fun _ _ _ h => h) ?hw13 S0 ?hy13 ?rest13
  case hw13 => (simp only [List.getElem?_toArray, List.getElem?_cons_zero, List.getElem?_cons_succ, Option.elim]; rfl)
  case hy13 => (simp only [List.getElem?_toArray, List.getElem?_cons_zero, List.getElem?_cons_succ, Option.elim]; intro wx _; go_simp; with_reducible rfl)
  simp only [dstOf, List.getElem?_toArray, List.getElem?_cons_zero, List.getElem?_cons_succ, Option.bind, Act.put, List.setIfInBounds_toArray, List.set_cons_zero, List.set_cons_succ]
  refine till_take 14 6 false (v := ?v14) (by kernel_rfl) (by kernel_rfl) (by kernel_rfl) (by kernel_rfl) (by kernel_rfl) (fun _ _ _ h => h) ?hw14 S0 ?hy14 ?rest14
  case hw14 => (simp only [List.getElem?_toArray, List.getElem?_cons_zero, List.getElem?_cons_succ, Option.elim]; rfl)
  case hy14 => (simp only [List.getElem?_toArray, List.getElem?_cons_zero, List.getElem?_cons_succ, Option.elim]; intro wx _; go_simp; with_reducible rfl)
  simp only [dstOf, List.getElem?_toArray, List.getElem?_cons_zero, List.getElem?_cons_succ, Option.bind, Act.put, List.setIfInBounds_toArray, List.set_cons_zero, List.set_cons_succ]
  refine till_take 15 6 true (v := ?v15) (by kernel_rfl) (by kernel_rfl) (by kernel_rfl) (by kernel_rfl) (by kernel_rfl) (fun _ _ _ h => h) ?hw15 S0 ?hy15 ?rest15
  case hw15 => (simp only [List.getElem?_toArray, List.getElem?_cons_zero, List.getElem?_cons_succ, Option.elim]; rfl)
  case hy15 => (simp only [List.getElem?_toArray, List.getElem?_cons_zero, List.getElem?_cons_succ, Option.elim]; intro wx hx; obtain ⟨x1, x2, x3⟩ := hx trivial; go_simp; with_reducible rfl)
  simp only [dstOf, List.getElem?_toArray, List.getElem?_cons_zero, List.getElem?_cons_succ, Option.bind, Act.put, List.setIfInBounds_toArray, List.set_cons_zero, List.set_cons_succ]
  refine till_take 16 6 false (v := ?v16) (by kernel_rfl) (by kernel_rfl) (by kernel_rfl) (by kernel_rfl) (by kernel_rfl) (fun _ _ _ h => h) ?hw16 S0 ?hy16 ?rest16
  case hw16 => (simp only [List.getElem?_toArray, List.getElem?_cons_zero, List.getElem?_cons_succ, Option.elim]; rfl)
  case hy16 => (simp only [List.getElem?_toArray, List.getElem?_cons_zero, List.getElem?_cons_succ, Option.elim]; intro wx _; go_simp; with_reducible rfl)
  simp only [dstOf, List.getElem?_toArray, List.getElem?_cons_zero, List.getElem?_cons_succ, Option.bind, Act.put, List.setIfInBounds_toArray, List.set_cons_zero, List.set_cons_succ]
  refine till_take 17 6 false (v := ?v17) (by kernel_rfl) (by kernel_rfl) (by kernel_rfl) (by kernel_rfl) (by kernel_rfl) (fun _ _ _ h => h) ?hw17 S0 ?hy17 ?rest17
  case hw17 => (simp only [List.getElem?_toArray, List.getElem?_cons_zero, List.getElem?_cons_succ, Option.elim]; rfl)
  case hy17 => (simp only [List.getElem?_toArray, List.getElem?_cons_zero, List.getElem?_cons_succ, Option.elim]; intro wx _; go_simp; with_reducible rfl)
  simp only [dstOf, List.getElem?_toArray, List.getElem?_cons_zero, List.getElem?_cons_succ, Option.bind, Act.put, List.setIfInBounds_toArray, List.set_cons_zero, List.set_cons_succ]
  refine till_take 18 6 false (v := ?v18) (by kernel_rfl) (by kernel_rfl) (by kernel_rfl) (by kernel_rfl) (by kernel_rfl) (fun _ _ _ h => h) ?hw18 S0 ?hy18 ?rest18
  case hw18 => (simp only [List.getElem?_toArray, List.getElem?_cons_zero, List.getElem?_cons_succ, Option.elim]; rfl)
  case hy18 => (simp only [List.getElem?_toArray, List.getElem?_cons_zero, List.getElem?_cons_succ, Option.elim]; intro wx _; go_simp; with_reducible rfl)
  simp only [dstOf, List.getElem?_toArray, List.getElem?_cons_zero, List.getElem?_cons_succ, Option.bind, Act.put, List.setIfInBounds_toArray, List.set_cons_zero, List.set_cons_succ]
  refine till_step 19 (by kernel_rfl) (by kernel_rfl) (fun K hK => ?_)
  simp only [List.getElem?_toArray, List.getElem?_cons_zero, List.getElem?_cons_succ, Option.elim]
  rw [if_pos (by rfl)]
  go_simp
  go_at_call 57
  refine (HPT.out _).mono ?_
  rintro e w5 ⟨rfl, b5⟩
  refine hK.out _ _ ?_
  clear hK K
  try simp only [Act.put, List.setIfInBounds_toArray, List.set_cons_zero, List.set_cons_succ]
  obtain ⟨e0, e1, e2, fe2, b6⟩ := blk3 (w1 := w1) (u0 := .int .i64 (p.1 : Int)) (u1 := .string (bs (R.now p.1))) (u2 := .string (bs (R.dur p.1))) (T := 67) b5 ⟨rfl, rfl, rfl, rfl⟩
  refine till_step 20 (by kernel_rfl) (by kernel_rfl) (fun K hK => ?_)
  simp only [List.getElem?_toArray, List.getElem?_cons_zero, List.getElem?_cons_succ, Option.elim]
  rw [if_pos (by rfl)]
  go_simp
  refine hK.out _ _ ?_
  clear hK K
  try simp only [Act.put, List.setIfInBounds_toArray, List.set_cons_zero, List.set_cons_succ]
  refine till_step 21 (by kernel_rfl) (by kernel_rfl) (fun K hK => ?_)
  simp only [List.getElem?_toArray, List.getElem?_cons_zero, List.getElem?_cons_succ, Option.elim]
  rw [if_pos (by rfl)]
  go_simp
  refine hK.out _ _ ?_
  clear hK K
  refine till_end (by kernel_rfl) ?_ _
  have hbw3 : Below w.heap.size w (w5.setCell ⟨w1.heap.size, 2, none⟩ (.string (bs (putL (R.dur p.1) (64 * p.2) (sec (R.now p.1) p.2))))) := (HBW.out.trans (b6.mono HBW.out.size)).setCell (p := ⟨w1.heap.size, 2, none⟩) HBW.out.size _
  have HS := Lib.hid (rset_keep (H.out.fresh hbw3) ⟨p.1, R.now p.1, putL (R.dur p.1) (64 * p.2) (sec (R.now p.1) p.2)⟩ hp1 HN1.out HPL.out)
  have HK3 := Lib.hid (H.out.chg0 hbw3)
  clear hbw3 b6 b5 S0 z0 z1 d0 d1 d2 fz2 hlt hmm hml hm0 hzz hi1 hi2 hi3 hw1 hw2 hsli
  go_wp2_with (go_at_call 56; refine HS.out.mono ?_; rintro e w6 ⟨rfl, lab6, L6, g6, g7, k6⟩; refine Hid.out ?_)
  refine Lib.hid ?_
  have HF := Lib.hid (show RPostK lab id r (.tuple #[]) (R.harden p) L w (.returned (.tuple #[])) w6 from ⟨rfl, lab6, L6, g6, g7, HK3.out.trans k6⟩)
  clear g6 g7 k6 HS
  go_wp2
  go_end0
  exact HF.out
end
end Go.Proofs.Ytadnmoaemnajgaa
