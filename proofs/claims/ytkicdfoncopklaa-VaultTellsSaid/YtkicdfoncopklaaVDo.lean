/- A call of the statements: how it lies in memory, Few, do. -/
import Derived.Test.YtkicdfoncopklaaVCopy2
namespace Go.Proofs.Ytkicdfoncopklaa
open Go.RowKit Go.Maps Go.ChangeMaps Go.MapKept
open Vp
attribute [local go_sem ↓] Go.wp_at_zero Go.wp_at_succ

/-- A slice of calls. -/
def OpsAt (w : World) (v : Value) (l : List VOp) : Prop := ∃ a cap, v = .slice a l.length cap ∧ ∀ (k : Nat) (o : VOp), l[k]? = some o → ∃ b off, a = some ⟨b, off, none⟩ ∧
  w.cell? ⟨b, off + k * 4, none⟩ = some (.int .i64 o.do_) ∧ w.cell? ⟨b, off + k * 4 + 1, none⟩ = some (.int .i64 o.key) ∧ w.cell? ⟨b, off + k * 4 + 2, none⟩ = some (.int .i64 o.box) ∧ w.cell? ⟨b, off + k * 4 + 3, none⟩ = some (.string o.text)
theorem OpsAt.keep {w w' : World} {v : Value} {l : List VOp} (h : OpsAt w v l) (hb : Below w.heap.size w w') : OpsAt w' v l := by
  obtain ⟨a, cap, hv, hc⟩ := h
  refine ⟨a, cap, hv, fun k o hk => ?_⟩
  obtain ⟨b, off, h1, c0, c1, c2, c3⟩ := hc k o hk
  exact ⟨b, off, h1, below_cell c0 hb, below_cell c1 hb, below_cell c2 hb, below_cell c3 hb⟩
/-- Few calls with short texts. -/
def few (l : List VOp) (n : Nat) : Bool := decide (l.length ≤ n ∧ ∀ o ∈ l, o.text.size ≤ 200)
theorem few_not {l : List VOp} {n k : Nat} (hk : k < l.length) (h : 200 < l[k].text.size) : few l n = false := by
  unfold few; rw [decide_eq_false_iff_not]; exact fun q => by have := q.2 _ (List.getElem_mem hk); omega
theorem few_len {l : List VOp} {n : Nat} (h : n < l.length) : few l n = false := by
  unfold few; rw [decide_eq_false_iff_not]; exact fun q => by have := q.1; omega
theorem few_yes {l : List VOp} {n : Nat} (h : l.length ≤ n) (h2 : ∀ o ∈ l, o.text.size ≤ 200) : few l n = true := decide_eq_true ⟨h, h2⟩
set_option maxHeartbeats 1000000 in
set_option maxRecDepth 100000 in
theorem few_any {w : World} (v : Value) (l : List VOp) (n : Nat) (hv : OpsAt w v l) (hn : n ≤ 100000) : Calls Try.prog 8 #[v, .int .i64 (n : Int)] w fun e w' => e = .returned (.bool (few l n)) ∧ w = w' := by
  obtain ⟨a, cap, rfl, hc⟩ := hv
  have HC := Lib.hid hc
  clear hc
  go_enter Try.func8, Try.ntmps8
  go_wp2
  go_loopw [5] (fun i wr => ∃ k : Nat, k ≤ l.length ∧ k ≤ n + 1 ∧ i = .int .i64 k ∧ (∀ o ∈ l.take k, o.text.size ≤ 200) ∧ wr = w) (fun i _ => l.length - (intOf i).toNat)
  case atStart => exact ⟨0, Nat.zero_le _, Nat.zero_le _, rfl, by simp, rfl⟩
  case round =>
    obtain ⟨k, hk, hkn, rfl, hs, rfl⟩ := hrel
    have HS := Lib.hid hs
    clear hs
    by_cases hlt : k < l.length
    · by_cases hln : k ≤ n
      · obtain ⟨g, off, rfl, _, _, _, hcell⟩ := HC.out k _ (List.getElem?_eq_getElem hlt)
        by_cases hz : 200 < l[k].text.size
        · have HR := Lib.hid (few_not (n := n) hlt hz)
          go_wp2
          go_ret
          exact ⟨ret_bool HR.out.symm, rfl⟩
        · go_wp2
          go_roundw
          case rel =>
            refine ⟨k + 1, by omega, by omega, by go_num, fun s hs => ?_, by trivial⟩
            rw [List.take_succ_eq_append_getElem hlt] at hs
            rcases List.mem_append.1 hs with q | q
            · exact HS.out s q
            · simp at q; subst q; omega
          case measure => simp [intOf]; omega
      · have HR := Lib.hid (few_len (l := l) (n := n) (by omega))
        have hgt : ¬ ((l.length : Int) ≤ (n : Int)) := by omega
        go_wp2
        go_ret
        exact ⟨ret_bool (by rw [HR.out]), rfl⟩
    · obtain rfl : k = l.length := by omega
      have hs := HS.out
      rw [List.take_length] at hs
      by_cases hln : l.length ≤ n
      · have HR := Lib.hid (few_yes hln hs)
        clear HS hs
        go_wp2
        go_ret
        exact ⟨ret_bool (by rw [HR.out]), rfl⟩
      · have HR := Lib.hid (few_len (l := l) (n := n) (by omega))
        clear HS hs
        go_wp2
        go_ret
        exact ⟨ret_bool (by rw [HR.out]), rfl⟩

def opV (o : VOp) : Value := .agg #[.int .i64 o.do_, .int .i64 o.key, .int .i64 o.box, .string o.text]
def doneV (d : VDone) : Value := .agg #[.int .i64 d.n, .string d.text, .int .i64 d.err]
section
variable {w0 w : World} {os : List Ob} {i b : Nat} {V : Vt}
/-- The result lies in a block of the call's own. -/
theorem done_out {o1 : Obj} {b1 b2 : Nat} {x y z x' y' z' : Value} {e : TypeId} (h : OMem w0 w (os ++ [.raw b1 o1, .raw b2 (.cells #[x, y, z] e (0, 0))])) :
    OMem w0 (((w.setCell ⟨b2, 0, none⟩ x').setCell ⟨b2, 1, none⟩ y').setCell ⟨b2, 2, none⟩ z') (os ++ [.raw b1 o1, .raw b2 (.cells #[x', y', z'] e (0, 0))]) := by
  have h1 := h.raw_set (i := os.length + 1) get_last 0 x'
  rw [raw_last] at h1
  have h2 := h1.raw_set (i := os.length + 1) get_last 1 y'
  rw [raw_last] at h2
  have h3 := h2.raw_set (i := os.length + 1) get_last 2 z'
  rw [raw_last] at h3
  exact h3
set_option maxHeartbeats 4000000 in
set_option maxRecDepth 100000 in
theorem v_do (h : OMem w0 w os) (hi : os[i]? = some (.vault b V)) (o : VOp) (hf : Fine V 100000) (hs : o.text.size ≤ 281474976710656) :
    Calls Try.prog 11 #[.pointer (some ⟨b, 0, none⟩), opV o] w fun e w' => e = .returned (doneV (act V o).1) ∧ OMem w0 w' (os.set i (.vault b (act V o).2)) := by
  have M1 := Lib.hid (h.two (.cells #[.int .i64 o.do_, .int .i64 o.key, .int .i64 o.box, .string o.text] 34) (.cells #[.int .i64 0, .string ⟨#[]⟩, .int .i64 0] 31))
  clear h
  obtain ⟨d, k, j, s⟩ := o
  unfold opV
  have hF := Lib.hid hf
  have hS := Lib.hid hs
  clear hf hs
  by_cases h0 : d = 0
  · subst h0
    have ha : act V ⟨0, k, j, s⟩ = (⟨V.good.length, xE, 0⟩, key V) := rfl
    rw [ha]
    clear ha
    go_enter Try.func11, Try.ntmps11
    go_wp2_with (go_at_call 17; refine (v_key M1.out (get_two hi) hF.out.good).mono ?_; rintro e w2 ⟨rfl, m2⟩; refine Hid.out ?_)
    refine Lib.hid ?_
    rw [set_two hi] at m2
    have r2 := m2.raw_at (i := (os.set i (.vault b (key V))).length + 1) get_last
    have g0 : (w2).cell? ⟨w.heap.size + 1, 0, none⟩ = some (.int .i64 0) := by rw [Lib.cell_of_heap r2]; rfl
    have g1 : (w2).cell? ⟨w.heap.size + 1, 1, none⟩ = some (.string ⟨#[]⟩) := by rw [Lib.cell_of_heap r2]; rfl
    have g2 : (w2).cell? ⟨w.heap.size + 1, 2, none⟩ = some (.int .i64 0) := by rw [Lib.cell_of_heap r2]; rfl
    have z0 : (w2).frozen? ⟨w.heap.size + 1, 0, none⟩ = false := Lib.frozen_of_heap r2 0
    have z1 : (w2).frozen? ⟨w.heap.size + 1, 1, none⟩ = false := Lib.frozen_of_heap r2 1
    have z2 : (w2).frozen? ⟨w.heap.size + 1, 2, none⟩ = false := Lib.frozen_of_heap r2 2
    have M2 := Lib.hid m2
    clear m2 r2
    go_wp2
    have m3 := done_out (x' := .int .i64 (V.good.length)) (y' := .string xE) (z' := .int .i64 (0)) M2.out
    have r3 := m3.raw_at (i := (os.set i (.vault b (key V))).length + 1) get_last
    refine bodyPost_ret (results_cell_row (d := _) rfl _ _ (w.heap.size + 1) 31 #[.int .i64 (V.good.length), .string xE, .int .i64 (0)] (0, 0) rfl r3 Try.underlying31 rfl (by kernel_rfl)) rfl ⟨rfl, m3.drop_two⟩
  by_cases h1 : d = 1
  · subst h1
    have ha : act V ⟨1, k, j, s⟩ = (⟨(lock V k s).1.1, xE, (lock V k s).1.2⟩, (lock V k s).2) := rfl
    have HL := v_lock M1.out (get_two hi) k s hS.out hF.out.boxes
    rw [ha]
    generalize lock V k s = r at HL
    obtain ⟨⟨n, er⟩, V2⟩ := r
    have HL := Lib.hid HL
    clear ha h0
    go_enter Try.func11, Try.ntmps11
    go_wp2_with (go_at_call 18; refine (HL.out).mono ?_; rintro e w2 ⟨rfl, m2⟩; refine Hid.out ?_)
    refine Lib.hid ?_
    rw [set_two hi] at m2
    have r2 := m2.raw_at (i := (os.set i (.vault b V2)).length + 1) get_last
    have g0 : (w2).cell? ⟨w.heap.size + 1, 0, none⟩ = some (.int .i64 0) := by rw [Lib.cell_of_heap r2]; rfl
    have g1 : (w2).cell? ⟨w.heap.size + 1, 1, none⟩ = some (.string ⟨#[]⟩) := by rw [Lib.cell_of_heap r2]; rfl
    have g2 : (w2).cell? ⟨w.heap.size + 1, 2, none⟩ = some (.int .i64 0) := by rw [Lib.cell_of_heap r2]; rfl
    have z0 : (w2).frozen? ⟨w.heap.size + 1, 0, none⟩ = false := Lib.frozen_of_heap r2 0
    have z1 : (w2).frozen? ⟨w.heap.size + 1, 1, none⟩ = false := Lib.frozen_of_heap r2 1
    have z2 : (w2).frozen? ⟨w.heap.size + 1, 2, none⟩ = false := Lib.frozen_of_heap r2 2
    have M2 := Lib.hid m2
    clear m2 r2
    go_wp2
    have m3 := done_out (x' := .int .i64 (n)) (y' := .string xE) (z' := .int .i64 (er)) M2.out
    have r3 := m3.raw_at (i := (os.set i (.vault b V2)).length + 1) get_last
    refine bodyPost_ret (results_cell_row (d := _) rfl _ _ (w.heap.size + 1) 31 #[.int .i64 (n), .string xE, .int .i64 (er)] (0, 0) rfl r3 Try.underlying31 rfl (by kernel_rfl)) rfl ⟨rfl, m3.drop_two⟩
  by_cases h2 : d = 2
  · subst h2
    have ha : act V ⟨2, k, j, s⟩ = (⟨0, (opens V k j).1, (opens V k j).2⟩, V) := rfl
    have HL := v_open M1.out (get_two hi) k j hF.out.text
    rw [ha, set_noop hi]
    generalize opens V k j = r at HL
    obtain ⟨t, er⟩ := r
    have HL := Lib.hid HL
    clear ha h0 h1
    go_enter Try.func11, Try.ntmps11
    go_wp2_with (go_at_call 15; refine (HL.out).mono ?_; rintro e w2 ⟨rfl, hb2⟩; refine Hid.out ?_)
    refine Lib.hid ?_
    have m2 := M1.out.fresh hb2
    clear hb2
    have r2 := m2.raw_at (i := (os).length + 1) get_last
    have g0 : (w2).cell? ⟨w.heap.size + 1, 0, none⟩ = some (.int .i64 0) := by rw [Lib.cell_of_heap r2]; rfl
    have g1 : (w2).cell? ⟨w.heap.size + 1, 1, none⟩ = some (.string ⟨#[]⟩) := by rw [Lib.cell_of_heap r2]; rfl
    have g2 : (w2).cell? ⟨w.heap.size + 1, 2, none⟩ = some (.int .i64 0) := by rw [Lib.cell_of_heap r2]; rfl
    have z0 : (w2).frozen? ⟨w.heap.size + 1, 0, none⟩ = false := Lib.frozen_of_heap r2 0
    have z1 : (w2).frozen? ⟨w.heap.size + 1, 1, none⟩ = false := Lib.frozen_of_heap r2 1
    have z2 : (w2).frozen? ⟨w.heap.size + 1, 2, none⟩ = false := Lib.frozen_of_heap r2 2
    have M2 := Lib.hid m2
    clear m2 r2
    go_wp2
    have m3 := done_out (x' := .int .i64 (0)) (y' := .string t) (z' := .int .i64 (er)) M2.out
    have r3 := m3.raw_at (i := (os).length + 1) get_last
    refine bodyPost_ret (results_cell_row (d := _) rfl _ _ (w.heap.size + 1) 31 #[.int .i64 (0), .string t, .int .i64 (er)] (0, 0) rfl r3 Try.underlying31 rfl (by kernel_rfl)) rfl ⟨rfl, m3.drop_two⟩
  by_cases h3 : d = 3
  · subst h3
    have ha : act V ⟨3, k, j, s⟩ = (⟨0, xE, (destroy V k).1⟩, (destroy V k).2) := rfl
    have HL := v_destroy M1.out (get_two hi) k
    rw [ha]
    generalize destroy V k = r at HL
    obtain ⟨er, V2⟩ := r
    have HL := Lib.hid HL
    clear ha h0 h1 h2
    go_enter Try.func11, Try.ntmps11
    go_wp2_with (go_at_call 19; refine (HL.out).mono ?_; rintro e w2 ⟨rfl, m2⟩; refine Hid.out ?_)
    refine Lib.hid ?_
    rw [set_two hi] at m2
    have r2 := m2.raw_at (i := (os.set i (.vault b V2)).length + 1) get_last
    have g0 : (w2).cell? ⟨w.heap.size + 1, 0, none⟩ = some (.int .i64 0) := by rw [Lib.cell_of_heap r2]; rfl
    have g1 : (w2).cell? ⟨w.heap.size + 1, 1, none⟩ = some (.string ⟨#[]⟩) := by rw [Lib.cell_of_heap r2]; rfl
    have g2 : (w2).cell? ⟨w.heap.size + 1, 2, none⟩ = some (.int .i64 0) := by rw [Lib.cell_of_heap r2]; rfl
    have z0 : (w2).frozen? ⟨w.heap.size + 1, 0, none⟩ = false := Lib.frozen_of_heap r2 0
    have z1 : (w2).frozen? ⟨w.heap.size + 1, 1, none⟩ = false := Lib.frozen_of_heap r2 1
    have z2 : (w2).frozen? ⟨w.heap.size + 1, 2, none⟩ = false := Lib.frozen_of_heap r2 2
    have M2 := Lib.hid m2
    clear m2 r2
    go_wp2
    have m3 := done_out (x' := .int .i64 (0)) (y' := .string xE) (z' := .int .i64 (er)) M2.out
    have r3 := m3.raw_at (i := (os.set i (.vault b V2)).length + 1) get_last
    refine bodyPost_ret (results_cell_row (d := _) rfl _ _ (w.heap.size + 1) 31 #[.int .i64 (0), .string xE, .int .i64 (er)] (0, 0) rfl r3 Try.underlying31 rfl (by kernel_rfl)) rfl ⟨rfl, m3.drop_two⟩
  have ha : act V ⟨d, k, j, s⟩ = (⟨0, xE, 0⟩, V) := by unfold act; rw [if_neg h0, if_neg h1, if_neg h2, if_neg h3]
  rw [ha, set_noop hi]
  clear ha
  have d0 : (d == 0) = false := by simpa using h0
  have d1 : (d == 1) = false := by simpa using h1
  have d2 : (d == 2) = false := by simpa using h2
  have d3 : (d == 3) = false := by simpa using h3
  clear h0 h1 h2 h3
  go_enter Try.func11, Try.ntmps11
  go_wp2
  have r3 := M1.out.raw_at (i := os.length + 1) get_last
  refine bodyPost_ret (results_cell_row (d := _) rfl _ _ (w.heap.size + 1) 31 #[.int .i64 0, .string ⟨#[]⟩, .int .i64 0] (0, 0) rfl r3 Try.underlying31 rfl (by kernel_rfl)) rfl ⟨rfl, M1.out.drop_two⟩
end
end Go.Proofs.Ytkicdfoncopklaa
