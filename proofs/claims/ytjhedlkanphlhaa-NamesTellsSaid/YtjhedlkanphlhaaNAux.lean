/- What the statements of layer 4 call besides the two lists: Few, Strings, Long. -/
import Derived.Test.YtjhedlkanphlhaaNOpen
import Derived.Lib.MinMax
import Derived.Laws.IdiomStrings
namespace Go.Proofs.Ytjhedlkanphlhaa
open Go.RowKit Go.Maps Go.ChangeMaps Go.MapKept
open Np
attribute [local go_sem ↓] Go.wp_at_zero Go.wp_at_succ

section
variable {w : World}
theorem few_not {l : List ByteArray} {n k : Nat} (hk : k < l.length) (h : 200 < l[k].size) : few l n = false := by
  unfold few; rw [decide_eq_false_iff_not]; exact fun q => by have := q.2 _ (List.getElem_mem hk); omega
theorem few_len {l : List ByteArray} {n : Nat} (h : n < l.length) : few l n = false := by
  unfold few; rw [decide_eq_false_iff_not]; exact fun q => by have := q.1; omega
theorem few_yes {l : List ByteArray} {n : Nat} (h : l.length ≤ n) (h2 : ∀ s ∈ l, s.size ≤ 200) : few l n = true := decide_eq_true ⟨h, h2⟩
set_option maxHeartbeats 1000000 in
set_option maxRecDepth 100000 in
theorem few_any (v : Value) (l : List ByteArray) (n : Nat) (hv : TextsAt w v l) (hn : n ≤ 100000) : Calls Try.prog 8 #[v, .int .i64 (n : Int)] w fun e w' => e = .returned (.bool (few l n)) ∧ w = w' := by
  obtain ⟨a, cap, rfl, hc⟩ := hv.form
  have HC := Lib.hid hc
  clear hc hv
  go_enter Try.func8, Try.ntmps8
  go_wp2
  go_loopw [5] (fun i wr => ∃ k : Nat, k ≤ l.length ∧ k ≤ n + 1 ∧ i = .int .i64 k ∧ (∀ s ∈ l.take k, s.size ≤ 200) ∧ wr = w) (fun i _ => l.length - (intOf i).toNat)
  case atStart => exact ⟨0, Nat.zero_le _, Nat.zero_le _, rfl, by simp, rfl⟩
  case round =>
    obtain ⟨k, hk, hkn, rfl, hs, rfl⟩ := hrel
    have HS := Lib.hid hs
    clear hs
    by_cases hlt : k < l.length
    · by_cases hln : k ≤ n
      · obtain ⟨g, off, rfl, hcell⟩ := HC.out k hlt
        by_cases hz : 200 < l[k].size
        · have HR := Lib.hid (few_not (n := n) hlt hz)
          go_wp2
          go_ret
          exact ⟨ret_bool HR.out.symm, rfl⟩
        · go_wp2
          go_roundw
          case rel =>
            refine ⟨k + 1, by omega, by omega, by go_num, fun s hs => ?_, by trivial⟩
            rw [List.take_succ_eq_append_getElem hlt] at hs
            rcases List.mem_append.1 hs with q | q
            · exact HS.out s q
            · simp at q; subst q; omega
          case measure => simp [intOf]; omega
      · have HR := Lib.hid (few_len (l := l) (n := n) (by omega))
        have hgt : ¬ ((l.length : Int) ≤ (n : Int)) := by omega
        go_wp2
        go_ret
        exact ⟨ret_bool (by rw [HR.out]), rfl⟩
    · obtain rfl : k = l.length := by omega
      have hs := HS.out
      rw [List.take_length] at hs
      by_cases hln : l.length ≤ n
      · have HR := Lib.hid (few_yes hln hs)
        clear HS hs
        go_wp2
        go_ret
        exact ⟨ret_bool (by rw [HR.out]), rfl⟩
      · have HR := Lib.hid (few_len (l := l) (n := n) (by omega))
        clear HS hs
        go_wp2
        go_ret
        exact ⟨ret_bool (by rw [HR.out]), rfl⟩
theorem str_ne {a b : ByteArray} (h : a ≠ b) : (a.toList == b.toList) = false := by
  rw [beq_eq_false_iff_ne]
  intro e
  rw [Lib.toList_data, Lib.toList_data] at e
  exact h (by rw [← Lib.mk_data a, ← Lib.mk_data b, e])
theorem eq_not {x y : List ByteArray} {k : Nat} (hk : k < x.length) (hy : k < y.length) (h : x[k] ≠ y[k]) : decide (x = y) = false := by
  rw [decide_eq_false_iff_not]; rintro rfl; exact h rfl
theorem eq_len {x y : List ByteArray} (h : x.length ≠ y.length) : decide (x = y) = false := by
  rw [decide_eq_false_iff_not]; rintro rfl; exact h rfl
theorem take_eq {x y : List ByteArray} {k : Nat} (hk : k < x.length) (hy : k < y.length) (h : x.take k = y.take k) (he : x[k] = y[k]) : x.take (k + 1) = y.take (k + 1) := by
  rw [List.take_succ_eq_append_getElem hk, List.take_succ_eq_append_getElem hy, h, he]
set_option maxHeartbeats 1000000 in
set_option maxRecDepth 100000 in
theorem strings_any (v u : Value) (x y : List ByteArray) (hv : TextsAt w v x) (hu : TextsAt w u y) (hx : x.length ≤ 140737488355328) :
    Calls Try.prog 20 #[v, u] w fun e w' => e = .returned (.bool (decide (x = y))) ∧ Below w.heap.size w w' := by
  have HV := Lib.hid hv
  have HU := Lib.hid hu
  obtain ⟨a, cap, rfl, hc⟩ := hv.form
  obtain ⟨b, cap', rfl, hd⟩ := hu.form
  clear hc hv hu hd
  by_cases hxy : x.length = y.length
  · rw [← hxy] at HU ⊢
    have HXY := Lib.hid hxy
    clear hxy
    go_enter Try.func20, Try.ntmps20
    go_wp2
    go_loopw [5] (fun i wr => ∃ k : Nat, k ≤ x.length ∧ i = .int .i64 k ∧ x.take k = y.take k ∧ Below w.heap.size w wr) (fun i _ => x.length - (intOf i).toNat)
    case atStart => exact ⟨0, Nat.zero_le _, rfl, by simp, Below.refl _ _⟩
    case round =>
      obtain ⟨k, hk, rfl, ht, hb⟩ := hrel
      have HT := Lib.hid ht
      have HB := Lib.hid hb
      clear ht
      by_cases hlt : k < x.length
      · have hlt' : k < y.length := by rw [← HXY.out]; exact hlt
        obtain ⟨_, _, h1, hc⟩ := (HV.out.keep hb).form
        cases h1
        obtain ⟨g, off, rfl, hcx⟩ := hc k hlt
        obtain ⟨_, _, h1, hd⟩ := (HU.out.keep hb).form
        simp only [Value.slice.injEq] at h1
        obtain ⟨h1, -, -⟩ := h1
        subst h1
        obtain ⟨g', off', rfl, hcy⟩ := hd k hlt'
        clear hc hd hb
        by_cases he : x[k] = y[k]
        · have HN := Lib.hid (take_eq hlt hlt' HT.out he)
          rw [he] at hcx
          have HY := Lib.hid hlt'
          clear he
          go_wp2
          go_quiet (fail)
          go_wp2
          go_roundw
          case rel => exact ⟨k + 1, by omega, by go_num, HN.out, ⟨HB.out.os, HB.out.tape, HB.out.output, HB.out.size, HB.out.block⟩⟩
          case measure => simp [intOf]; omega
        · have HR := Lib.hid (eq_not hlt hlt' he)
          have hq := str_ne he
          go_wp2
          go_quiet (fail)
          go_wp2
          go_ret
          exact ⟨ret_bool HR.out.symm, ⟨HB.out.os, HB.out.tape, HB.out.output, HB.out.size, HB.out.block⟩⟩
      · obtain rfl : k = x.length := by omega
        have ht := HT.out
        rw [List.take_length, List.take_of_length_le (by rw [HXY.out]; exact Nat.le_refl _)] at ht
        have HR := Lib.hid (decide_eq_true ht)
        clear ht hb
        go_wp2
        go_ret
        exact ⟨ret_bool HR.out.symm, HB.out⟩
  · have hne : ¬ ((x.length : Int) = (y.length : Int)) := by omega
    have HR := Lib.hid (eq_len hxy)
    go_enter Try.func20, Try.ntmps20
    go_wp2
    go_ret
    exact ⟨ret_bool HR.out.symm, Below.refl _ _⟩
/-- make([]byte, n), and its string. -/
theorem make_zeros (w : World) (n : Nat) (hn : n ≤ 16777216) : ∃ w', (Instr.makeSlice 46 (.int .i64 (n : Int)) (.int .i64 (n : Int))).run Try.prog w = .ok (.slice (some ⟨w.heap.size, 0, none⟩) n n) w' ∧ Below w.heap.size w w' ∧
    (convert 46 9 (.slice (some ⟨w.heap.size, 0, none⟩) n n)).run Try.prog w' = .ok (.string ⟨(List.replicate n 0).toArray⟩) w' := by
  obtain ⟨i0, hi, hz0, hz1, hz2⟩ := info_parts byte_info
  have hr := run_makeSlice (P := Try.prog) w 46 5 i0 (.int .u8 0) Try.underlying46 hi hz0 .i64 .i64 (n : Int) (n : Int) (by omega) (Int.le_refl _) (by rw [hz1]; omega) (by rw [hz2]; omega) (by omega)
  simp only [Int.toNat_natCast, hz1, Nat.mul_one] at hr
  refine ⟨_, hr, (Below.refl _ _).alloc (Nat.le_refl _) _, ?_⟩
  have := run_convert_bytes_back (w.alloc (.cells (madeCells (Value.int IntKind.u8 0).cells n) 5)) 46 9 5 ⟨w.heap.size, 0, none⟩ n (List.replicate n 0) Try.underlying46 Try.underlying5 Try.underlying9 (fun j hj => by
    rw [List.length_replicate] at hj
    rw [Lib.add_plain, Nat.zero_add, Lib.cell_of_heap (heap_alloc_new w _), List.getElem_replicate, ← Array.getElem?_toList]
    show (madeCells #[Value.int IntKind.u8 0] n).toList[j]? = _
    rw [toList_madeCells_one]
    simp [hj])
  rwa [List.length_replicate] at this
set_option maxHeartbeats 1000000 in
set_option maxRecDepth 100000 in
theorem long_any (n : Int) (w : World) : Calls Try.prog 10 #[.int .i64 n] w fun e w' => e = .returned (.string (long n)) ∧ Below w.heap.size w w' := by
  obtain ⟨m, hm⟩ : ∃ m : Nat, min (max n 0) 65537 = (m : Int) := ⟨(min (max n 0) 65537).toNat, by omega⟩
  have hm2 : m ≤ 65537 := by omega
  obtain ⟨w1, hr, hb, hc⟩ := make_zeros w m (by omega)
  have HR := Lib.hid (show long n = ⟨(List.replicate m 0).toArray⟩ by unfold long; rw [hm]; simp)
  have HB := Lib.hid hb
  clear hb
  go_enter Try.func10, Try.ntmps10
  go_wp2
  go_ret
  exact ⟨by rw [HR.out]; rfl, HB.out⟩
end
end Go.Proofs.Ytjhedlkanphlhaa
