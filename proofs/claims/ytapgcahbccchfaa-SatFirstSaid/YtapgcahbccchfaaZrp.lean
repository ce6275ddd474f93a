/- slices.Repeat of one number; whole rows of numbers. -/
import Derived.Test.YtapgcahbccchfaaZmp
import Derived.Laws.CopyOwn
import Derived.Lib.SlBuf
namespace Go.Proofs.Ytapgcahbccchfaa
open Go.RowKit Go.Maps Go.ChangeMaps Go.MapKept
open St
attribute [local go_sem ↓] Go.wp_at_zero Go.wp_at_succ

/-- A whole row of numbers. -/
def WRow (w : World) (g : Nat) (R : List Int) : Prop := w.heap[g]? = some (.cells (intVs R).toArray 3 (0, 0))
section
variable {w w' : World} {g : Nat} {R : List Int}
theorem WRow.block (h : WRow w g R) (hb : w'.heap[g]? = w.heap[g]?) : WRow w' g R := hb.trans h
theorem WRow.lt (h : WRow w g R) : g < w.heap.size := by
  unfold WRow at h
  exact (Array.getElem?_eq_some_iff.1 h).1
theorem WRow.own (h : WRow w g R) (hn : R.length ≤ 100000) : w.ownsRow 0 3 1 (.slice (some ⟨g, 0, none⟩) R.length R.length) R.length (intVs R) :=
  ⟨by rw [intVs_length, Nat.mul_one], .inr ⟨g, R.length, _, rfl, Nat.zero_le _, h, Nat.le_refl _, by unfold maxLen; omega, by simp [intVs_length], by rw [Nat.mul_one, List.take_of_length_le (by simp [intVs_length])]⟩⟩
theorem WRow.of_own {xs : List Int} {n : Nat} (h : w.ownsRow 0 3 1 (.slice (some ⟨g, 0, none⟩) n n) n (intVs xs)) : WRow w g xs := by
  rcases h.2 with ⟨q, _⟩ | ⟨g', cap, cur, e, _, hg, _, _, hs, ht⟩
  · cases q
  · cases e
    rw [List.take_of_length_le (by simp [hs])] at ht
    unfold WRow
    rw [hg, ← ht]
theorem WRow.nums (h : WRow w g R) (hn : R.length ≤ 100000) : NumsAt w (.slice (some ⟨g, 0, none⟩) R.length R.length) R := NumsAt.of_own (h.own hn)
theorem WRow.set (h : WRow w g R) (j : Nat) (z : Int) : WRow (w.setCell ⟨g, j, none⟩ (.int .i64 z)) g (R.set j z) := by
  unfold WRow at h ⊢
  rw [setCell_eq_setRow w g j _ 3 (0, 0) (.int .i64 z) h]
  have := setRow_heap w g _ ((intVs R).toArray.setIfInBounds j (.int .i64 z)) 3 (0, 0) h
  rw [this]
  simp [intVs, List.map_set]
theorem WRow.cell (h : WRow w g R) {j : Nat} {z : Int} (hj : R[j]? = some z) : w.cell? ⟨g, j, none⟩ = some (.int .i64 z) ∧ w.frozen? ⟨g, j, none⟩ = false := by
  unfold WRow at h
  have hjl := (List.getElem?_eq_some_iff.1 hj).1
  have e : (intVs R).toArray[j]? = some (.int .i64 z) := by simp [intVs, hj]
  constructor
  · simp only [World.cell?, h]; exact e
  · simp [World.frozen?, h]
end
def rpl (z : Int) (N m : Nat) : List Int := List.replicate m z ++ List.replicate (N - m) 0
theorem rpl_len {z : Int} {N m : Nat} (h : m ≤ N) : (rpl z N m).length = N := by unfold rpl; simp; omega
theorem rpl_all (z : Int) (N : Nat) : rpl z N N = List.replicate N z := by unfold rpl; simp
theorem rpl_copy {z : Int} {N m c : Nat} (h : m + c ≤ N) : (intVs (rpl z N m)).take m ++ List.replicate c (Value.int .i64 z) ++ (intVs (rpl z N m)).drop (m + c) = intVs (rpl z N (m + c)) := by
  unfold intVs rpl
  rw [List.map_append, List.map_replicate, List.map_replicate, List.map_append, List.map_replicate, List.map_replicate, List.take_left' (by simp), List.drop_append]
  simp only [List.length_replicate]
  rw [List.drop_of_length_le (by simp), List.nil_append, List.drop_replicate, List.replicate_append_replicate]
  congr 2
  omega
theorem run_part {w : World} {g N m : Nat} {z : Int} (h : WRow w g (rpl z N m)) (hm : m < N) (ty : TypeId) :
    (Builtin.copy_ #[54, 54] ty #[.slice (some ⟨g, m, none⟩) (N - m) (N - m), .slice (some ⟨g, 0, none⟩) m N]).run Try.prog w = .ok (.int .i64 ((min m (N - m) : Nat) : Int)) (w.setRow g (intVs (rpl z N (m + min m (N - m)))).toArray) := by
  obtain ⟨i0, hi, hz0, hz1, hz2⟩ := info_parts int_info
  have hr := run_copy_row (P := Try.prog) w 54 54 ty 3 g m (N - m) (N - m) ⟨g, 0, none⟩ m N (intVs (rpl z N m)).toArray 3 (List.replicate (min m (N - m)) (Value.int .i64 z)) Try.underlying54 (by rw [hi]; simp [hz1]) h (by simp [Nat.min_def])
    (fun j v hj => by
      have hjl := (List.getElem?_eq_some_iff.1 hj).1
      rw [List.getElem?_replicate] at hj
      simp at hjl
      rw [if_pos (by omega)] at hj
      cases hj
      rw [Lib.add_plain]
      refine (h.cell (z := z) ?_).1
      rw [Nat.zero_add]
      unfold rpl
      rw [List.getElem?_append_left (by simp; omega), List.getElem?_replicate, if_pos (by omega)])
    (by simp [intVs_length, rpl_len (show m ≤ N by omega)]; omega) (fun v hv => by rw [(List.mem_replicate.1 hv).2]; rfl)
  rw [hr, List.length_replicate]
  have e := rpl_copy (z := z) (N := N) (m := m) (c := min m (N - m)) (by omega)
  simp only at e ⊢
  rw [e]; rfl
theorem row_setRow {w : World} {g : Nat} {R R' : List Int} (h : WRow w g R) : WRow (w.setRow g (intVs R').toArray) g R' := setRow_heap w g _ _ 3 (0, 0) h
theorem run_first {w : World} {g b off cap N : Nat} {z : Int} (h : WRow w g (rpl z N 0)) (hN : 0 < N) (hc : w.cell? ⟨b, off, none⟩ = some (.int .i64 z)) (ty : TypeId) :
    (Builtin.copy_ #[54, 54] ty #[.slice (some ⟨g, 0, none⟩) N N, .slice (some ⟨b, off, none⟩) 1 cap]).run Try.prog w = .ok (.int .i64 1) (w.setRow g (intVs (rpl z N 1)).toArray) := by
  obtain ⟨i0, hi, hz0, hz1, hz2⟩ := info_parts int_info
  have hr := run_copy_row (P := Try.prog) w 54 54 ty 3 g 0 N N ⟨b, off, none⟩ 1 cap (intVs (rpl z N 0)).toArray 3 (List.replicate 1 (Value.int .i64 z)) Try.underlying54 (by rw [hi]; simp [hz1]) h (by simp [Nat.min_def]; omega)
    (fun j v hj => by
      cases j with
      | zero => simp at hj; subst hj; rw [Lib.add_plain]; exact hc
      | succ j => simp at hj)
    (by simp [intVs_length, rpl_len (show 0 ≤ N by omega)]; omega) (fun v hv => by rw [(List.mem_replicate.1 hv).2]; rfl)
  rw [hr, List.length_replicate]
  have e := rpl_copy (z := z) (N := N) (m := 0) (c := 1) (by omega)
  simp only at e ⊢
  rw [e]; rfl
theorem make_trail (w : World) (N : Nat) (hn : N ≤ 100000) : ∃ w', (Instr.makeSlice 54 (.int .i64 (N : Int)) (.int .i64 (N : Int))).run Try.prog w = .ok (.slice (some ⟨w.heap.size, 0, none⟩) N N) w' ∧ WRow w' w.heap.size (rpl 0 N 0) ∧ w.grownBy w' none := by
  obtain ⟨i0, hi, hz0, hz1, hz2⟩ := info_parts int_info
  obtain ⟨w', r1, r2, r3⟩ := run_make_full (P := Try.prog) w 0 54 3 i0 (.int .i64 0) 1 Try.underlying54 hi hz0 hz1 .i64 .i64 N (by rw [hz2]; omega) (by unfold maxLen; omega) (Nat.zero_le _)
  refine ⟨w', r1, ?_, r3⟩
  rw [show (madeCells (Value.int .i64 0).cells (N * 1)).toList = intVs (rpl 0 N 0) by
    rw [Nat.mul_one]
    show (madeCells #[Value.int .i64 0] N).toList = _
    rw [toList_madeCells_one]; simp [intVs, rpl]] at r2
  exact WRow.of_own r2
theorem rpl_zero (z : Int) (N : Nat) : rpl z N 0 = rpl 0 N 0 := by unfold rpl; simp
set_option maxHeartbeats 2000000 in
set_option maxRecDepth 100000 in
theorem p_repeat {w : World} {b off cap : Nat} {z : Int} {N : Nat} (hc : w.cell? ⟨b, off, none⟩ = some (.int .i64 z)) (h1 : 0 < N) (hN : N ≤ 1000) :
    Calls Try.prog 38 #[.slice (some ⟨b, off, none⟩) 1 cap, .int .i64 (N : Int)] w fun e w' => ∃ g, e = .returned (.slice (some ⟨g, 0, none⟩) N N) ∧ WRow w' g (List.replicate N z) ∧ Below w.heap.size w w' ∧ w.heap.size ≤ g := by
  have HM := Lib.hid (Any.bits_Mul Try.lmul 1 N (by omega) (by omega) w)
  obtain ⟨w1, rmk, ro, rg⟩ := make_trail w N (by omega)
  have hb1 : Below w.heap.size w w1 := below_grown (Below.refl _ _) rg (fun x hx => by cases hx)
  have hR1 : WRow w1 w.heap.size (rpl z N 0) := by rw [rpl_zero]; exact ro
  have rc1 := fun ty => run_first (cap := cap) hR1 h1 (below_cell hc hb1) ty
  have hR2 := row_setRow (R' := rpl z N 1) hR1
  have hb2 := hb1.trans (below_setRow (w := w1) (Below.refl w.heap.size w1) (Nat.le_refl _) (intVs (rpl z N 1)).toArray)
  generalize hW2 : w1.setRow w.heap.size (intVs (rpl z N 1)).toArray = w2 at rc1 hR2 hb2
  have HR2 := Lib.hid hR2
  have HB2 := Lib.hid hb2
  clear hb1 hR1 hb2 hR2 ro rg hW2
  have hd0 : 1 * N / 18446744073709551616 = 0 := by omega
  have hd1 : 1 * N % 18446744073709551616 = N := by omega
  rw [hd0, hd1] at HM
  clear hd0 hd1
  go_enter Try.func38, Try.ntmps38
  go_wp2_with (go_at_call 41; refine (HM.out).mono ?_; rintro e w0 ⟨rfl, rfl⟩; refine Hid.out ?_)
  refine Lib.hid ?_
  go_wp2
  have HW := Lib.hid (show w0.heap.size ≤ w0.heap.size from Nat.le_refl _)
  generalize hG : w0.heap.size = G at HR2 HB2 HW ⊢
  have HG := Lib.hid hG
  clear hG rmk rc1 hc HM
  go_loopw [8] (fun i wr => ∃ m : Nat, 0 < m ∧ m ≤ N ∧ i = .int .i64 m ∧ Hid (WRow wr G (rpl z N m)) ∧ Hid (Below G w0 wr)) (fun i _ => N - (RowKit.intOf i).toNat)
  case atStart => exact ⟨1, by omega, by omega, rfl, HR2, HB2⟩
  case round =>
    obtain ⟨m, hm0, hm, rfl, HR, HB⟩ := hrel
    by_cases hlt : m < N
    · have HC := Lib.hid (run_part (w := wr.drew) HR.out hlt 3)
      have HR3 := Lib.hid (row_setRow (w := wr.drew) (R' := rpl z N (m + min m (N - m))) HR.out)
      have HB3 := Lib.hid (below_setRow (HB.out.trans ((below_drew wr).mono (by rw [← HG.out]; exact HB.out.size))) (Nat.le_refl _) (intVs (rpl z N (m + min m (N - m)))).toArray)
      generalize hc : min m (N - m) = c at HC HR3 HB3
      have hc1 : 0 < c ∧ m + c ≤ N := by omega
      clear hc
      have S0 : True := trivial
      have hw1 : IntKind.i64.wrap ((m : Int) + (c : Int)) = ((m + c : Nat) : Int) := by rw [IntKind.wrap_i64]; omega
      have HNM := Lib.hid (show ¬ (N = m) by omega)
      go_wp2
      refine region_till 7 (fun _ => True) (by kernel_rfl) ?_
      refine till_take 0 40 false (v := ?v0) (by kernel_rfl) (by kernel_rfl) (by kernel_rfl) (by kernel_rfl) (by kernel_rfl) (fun _ _ _ h => h) ?hw0 S0 ?hy0 ?rest0
      case hw0 => (simp only [List.getElem?_toArray, List.getElem?_cons_zero, Option.elim]; rfl)
      case hy0 => (simp only [List.getElem?_toArray, List.getElem?_cons_zero, Option.elim]; intro wx _; go_simp; with_reducible rfl)
      simp only [dstOf, List.getElem?_toArray, List.getElem?_cons_zero, Option.bind, Act.put, List.setIfInBounds_toArray, List.set_cons_zero, List.set_cons_succ]
      refine till_take 1 40 false (v := ?v1) (by kernel_rfl) (by kernel_rfl) (by kernel_rfl) (by kernel_rfl) (by kernel_rfl) (fun _ _ _ h => h) ?hw1 S0 ?hy1 ?rest1
      case hw1 => (simp only [List.getElem?_toArray, List.getElem?_cons_zero, List.getElem?_cons_succ, Option.elim]; rfl)
      case hy1 => (simp only [List.getElem?_toArray, List.getElem?_cons_zero, List.getElem?_cons_succ, Option.elim]; intro wx _; go_simp; with_reducible rfl)
      simp only [dstOf, List.getElem?_toArray, List.getElem?_cons_zero, List.getElem?_cons_succ, Option.bind, Act.put, List.setIfInBounds_toArray, List.set_cons_zero, List.set_cons_succ]
      refine till_take 2 40 false (v := ?v2) (by kernel_rfl) (by kernel_rfl) (by kernel_rfl) (by kernel_rfl) (by kernel_rfl) (fun _ _ _ h => h) ?hw2 S0 ?hy2 ?rest2
      case hw2 => (simp only [List.getElem?_toArray, List.getElem?_cons_zero, List.getElem?_cons_succ, Option.elim]; rfl)
      case hy2 => (simp only [List.getElem?_toArray, List.getElem?_cons_zero, List.getElem?_cons_succ, Option.elim]; intro wx _; go_simp; with_reducible rfl)
      simp only [dstOf, List.getElem?_toArray, List.getElem?_cons_zero, List.getElem?_cons_succ, Option.bind, Act.put, List.setIfInBounds_toArray, List.set_cons_zero, List.set_cons_succ]
      refine till_take 3 40 false (v := ?v3) (by kernel_rfl) (by kernel_rfl) (by kernel_rfl) (by kernel_rfl) (by kernel_rfl) (fun _ _ _ h => h) ?hw3 S0 ?hy3 ?rest3
      case hw3 => (simp only [List.getElem?_toArray, List.getElem?_cons_zero, List.getElem?_cons_succ, Option.elim]; rfl)
      case hy3 => (simp only [List.getElem?_toArray, List.getElem?_cons_zero, List.getElem?_cons_succ, Option.elim]; intro wx _; go_simp; rw [if_neg HNM.out]; try with_reducible rfl)
      simp only [dstOf, List.getElem?_toArray, List.getElem?_cons_zero, List.getElem?_cons_succ, Option.bind, Act.put, List.setIfInBounds_toArray, List.set_cons_zero, List.set_cons_succ]
      refine till_take 4 40 false (v := ?v4) (by kernel_rfl) (by kernel_rfl) (by kernel_rfl) (by kernel_rfl) (by kernel_rfl) (fun _ _ _ h => h) ?hw4 S0 ?hy4 ?rest4
      case hw4 => (simp only [List.getElem?_toArray, List.getElem?_cons_zero, List.getElem?_cons_succ, Option.elim]; rfl)
      case hy4 => (simp only [List.getElem?_toArray, List.getElem?_cons_zero, List.getElem?_cons_succ, Option.elim]; intro wx _; go_simp; with_reducible rfl)
      simp only [dstOf, List.getElem?_toArray, List.getElem?_cons_zero, List.getElem?_cons_succ, Option.bind, Act.put, List.setIfInBounds_toArray, List.set_cons_zero, List.set_cons_succ]
      refine till_take 5 40 false (v := ?v5) (by kernel_rfl) (by kernel_rfl) (by kernel_rfl) (by kernel_rfl) (by kernel_rfl) (fun _ _ _ h => h) ?hw5 S0 ?hy5 ?rest5
      case hw5 => (simp only [List.getElem?_toArray, List.getElem?_cons_zero, List.getElem?_cons_succ, Option.elim]; rfl)
      case hy5 => (simp only [List.getElem?_toArray, List.getElem?_cons_zero, List.getElem?_cons_succ, Option.elim]; intro wx _; go_simp; with_reducible rfl)
      simp only [dstOf, List.getElem?_toArray, List.getElem?_cons_zero, List.getElem?_cons_succ, Option.bind, Act.put, List.setIfInBounds_toArray, List.set_cons_zero, List.set_cons_succ]
      refine till_take 6 40 false (v := ?v6) (by kernel_rfl) (by kernel_rfl) (by kernel_rfl) (by kernel_rfl) (by kernel_rfl) (fun _ _ _ h => h) ?hw6 S0 ?hy6 ?rest6
      case hw6 => (simp only [List.getElem?_toArray, List.getElem?_cons_zero, List.getElem?_cons_succ, Option.elim]; rfl)
      case hy6 => (simp only [List.getElem?_toArray, List.getElem?_cons_zero, List.getElem?_cons_succ, Option.elim]; intro wx _; go_simp; with_reducible rfl)
      simp only [dstOf, List.getElem?_toArray, List.getElem?_cons_zero, List.getElem?_cons_succ, Option.bind, Act.put, List.setIfInBounds_toArray, List.set_cons_zero, List.set_cons_succ]
      refine till_step 7 (by kernel_rfl) (by kernel_rfl) (fun K hK => ?_)
      simp only [List.getElem?_toArray, List.getElem?_cons_zero, List.getElem?_cons_succ, Option.elim]
      rw [if_pos (by rfl)]
      refine Lib.wp_copy_run _ (.tmp 41) (.tmp 44) 54 54 rfl _ _ rfl rfl HC.out ?_
      refine hK.out _ _ ?_
      clear hK K
      try simp only [Act.put, List.setIfInBounds_toArray, List.set_cons_zero, List.set_cons_succ]
      refine till_late 8 (v := ?v8) (by kernel_rfl) (by kernel_rfl) (by kernel_rfl) (by kernel_rfl) (fun _ _ _ h => h) (by kernel_rfl) ?hw8 ?hy8 ?rest8
      case hw8 => (simp only [List.getElem?_toArray, List.getElem?_cons_zero, List.getElem?_cons_succ, Option.elim]; rfl)
      case hy8 => (simp only [List.getElem?_toArray, List.getElem?_cons_zero, List.getElem?_cons_succ, Option.elim]; intro wx; go_simp; with_reducible rfl)
      simp only [dstOf, List.getElem?_toArray, List.getElem?_cons_zero, List.getElem?_cons_succ, Option.bind, Act.put, List.setIfInBounds_toArray, List.set_cons_zero, List.set_cons_succ]
      refine till_late 9 (v := ?v9) (by kernel_rfl) (by kernel_rfl) (by kernel_rfl) (by kernel_rfl) (fun _ _ _ h => h) (by kernel_rfl) ?hw9 ?hy9 ?rest9
      case hw9 => (simp only [List.getElem?_toArray, List.getElem?_cons_zero, List.getElem?_cons_succ, Option.elim]; rfl)
      case hy9 => (simp only [List.getElem?_toArray, List.getElem?_cons_zero, List.getElem?_cons_succ, Option.elim]; intro wx; go_simp; with_reducible rfl)
      simp only [dstOf, List.getElem?_toArray, List.getElem?_cons_zero, List.getElem?_cons_succ, Option.bind, Act.put, List.setIfInBounds_toArray, List.set_cons_zero, List.set_cons_succ]
      refine till_end (by kernel_rfl) ?_ _
      go_wp2
      go_roundw
      case rel => exact ⟨m + c, by omega, by omega, by go_num, HR3, HB3⟩
      case measure => (simp [RowKit.intOf]; try omega)
    · obtain rfl : m = N := by omega
      have hR := HR.out
      rw [rpl_all] at hR
      have HR4 := Lib.hid hR
      clear hR
      go_wp2
      go_ret
      exact ⟨_, rfl, HR4.out, HG.out ▸ HB.out, Nat.le_of_eq HG.out⟩
end Go.Proofs.Ytapgcahbccchfaa
