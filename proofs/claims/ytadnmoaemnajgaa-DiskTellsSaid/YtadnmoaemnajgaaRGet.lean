/- The reference's calls that only read. -/
import Derived.Test.YtadnmoaemnajgaaRHeap
import Derived.Laws.Rows
namespace Go.Proofs.Ytadnmoaemnajgaa
open Go.RowKit Go.Maps Go.ChangeMaps Go.MapKept
open Dp
attribute [local go_sem ↓] Go.wp_at_zero Go.wp_at_succ

section
variable {w : World} {lab : Nat → Nat} {id r : Nat} {R : Rf} {L : RLoc}
theorem own_at {e : TypeId} {size n : Nat} {v : Value} {xs : List Value} (h : w.ownsRow 0 e size v n xs) (hn : 0 < n) : ∃ g cap, v = .slice (some ⟨g, 0, none⟩) n cap ∧ (∀ j u, xs[j]? = some u → w.cell? ⟨g, j, none⟩ = some u) := by
  rcases h.2 with ⟨_, h0⟩ | ⟨g, cap, cur, hv, _⟩
  · omega
  · refine ⟨g, cap, hv, fun j u hj => ?_⟩
    have := h.cells (g := g) (by rw [hv]; rfl) j u hj
    rwa [Lib.add_plain, Nat.zero_add] at this
theorem fl_cell (h : RIn w lab id r R L) {k : Nat} {x : Fl} (hx : R.files[k]? = some x) : ∃ g cap, L.fv = .slice (some ⟨g, 0, none⟩) R.files.length cap ∧ w.cell? ⟨g, k * 3, none⟩ = some (.int .i64 (x.num : Int)) ∧ w.cell? ⟨g, k * 3 + 1, none⟩ = some (.string (bs x.now)) ∧ w.cell? ⟨g, k * 3 + 2, none⟩ = some (.string (bs x.dur)) := by
  have hlt := (List.getElem?_eq_some_iff.1 hx).1
  obtain ⟨g, cap, hv, hc⟩ := own_at h.files (by omega)
  obtain ⟨e0, e1, e2⟩ := flVs_at hx
  exact ⟨g, cap, hv, hc _ _ e0, hc _ _ e1, hc _ _ e2⟩
theorem secVs_at {l : List (Nat × Nat)} {k : Nat} {p : Nat × Nat} (h : l[k]? = some p) : (secVs l)[k * 2]? = some (.int .i64 (p.1 : Int)) ∧ (secVs l)[k * 2 + 1]? = some (.int .i64 (p.2 : Int)) := by
  induction l generalizing k with
  | nil => simp at h
  | cons a l ih =>
    cases k with
    | zero => simp at h; subst h; exact ⟨rfl, rfl⟩
    | succ k =>
      have := ih (k := k) (by simpa using h)
      have e : secVs (a :: l) = .int .i64 (a.1 : Int) :: .int .i64 (a.2 : Int) :: secVs l := rfl
      rw [e, show (k + 1) * 2 = k * 2 + 2 by omega]
      exact this
theorem q_cell (h : RIn w lab id r R L) {k : Nat} {p : Nat × Nat} (hx : R.queue[k]? = some p) : ∃ g cap, L.qv = .slice (some ⟨g, 0, none⟩) R.queue.length cap ∧ w.cell? ⟨g, k * 2, none⟩ = some (.int .i64 (p.1 : Int)) ∧ w.cell? ⟨g, k * 2 + 1, none⟩ = some (.int .i64 (p.2 : Int)) := by
  have hlt := (List.getElem?_eq_some_iff.1 hx).1
  obtain ⟨g, cap, hv, hc⟩ := own_at h.queue (by omega)
  obtain ⟨e0, e1⟩ := secVs_at hx
  exact ⟨g, cap, hv, hc _ _ e0, hc _ _ e1⟩

theorem look_none {R : Rf} {f : Int} (h : ∀ (j : Nat) (x : Fl), R.files[j]? = some x → (x.num : Int) ≠ f) : R.now f = [] ∧ R.dur f = [] := by
  have : R.look f = none := by
    unfold Rf.look
    rw [List.find?_eq_none]
    intro x hx
    obtain ⟨j, hj, rfl⟩ := List.mem_iff_getElem.1 hx
    simpa using h j _ (List.getElem?_eq_getElem hj)
  unfold Rf.now Rf.dur
  rw [this]
  exact ⟨rfl, rfl⟩
theorem look_some {R : Rf} {f : Int} {k : Nat} {x : Fl} (hx : R.files[k]? = some x) (he : (x.num : Int) = f) (h : ∀ (j : Nat) (y : Fl), j < k → R.files[j]? = some y → (y.num : Int) ≠ f) : R.now f = x.now ∧ R.dur f = x.dur := by
  have : R.look f = some x := by
    unfold Rf.look
    rw [List.find?_eq_some_iff_getElem]
    obtain ⟨hk, rfl⟩ := List.getElem?_eq_some_iff.1 hx
    exact ⟨by simpa using he, k, hk, rfl, fun j hj => by simpa using h j _ hj (List.getElem?_eq_getElem (by omega))⟩
  unfold Rf.now Rf.dur
  rw [this]
  exact ⟨rfl, rfl⟩

def flV (f : Int) (now dur : List UInt8) : Value := .agg #[.int .i64 f, .string (bs now), .string (bs dur)]

set_option maxHeartbeats 2000000 in
set_option maxRecDepth 100000 in
theorem get_any (h : RIn w lab id r R L) (f : Int) (hf : I64 f) :
    Calls Try.prog 39 #[.pointer (some ⟨r, 0, none⟩), .int .i64 f] w fun e w' => e = .returned (.agg #[.int .i64 f, .string (bs (R.now f)), .string (bs (R.dur f))]) ∧ Below w.heap.size w w' := by
  have H := Lib.hid h
  have hlen := h.ok.len
  have HB := Lib.hid (below_alloc w (.cells #[.int .i64 0, .string ⟨#[]⟩, .string ⟨#[]⟩] 67))
  have h1 := h.fresh HB.out
  have c0 := h1.c 0
  simp only [List.getElem?_toArray, List.getElem?_cons_zero] at c0
  obtain ⟨fa, fc, hfv⟩ := own_form h.files
  rw [hfv] at c0
  have H1 := Lib.hid h1
  have HFV := Lib.hid hfv
  clear h h1 hfv
  go_enter Try.func39, Try.ntmps39
  go_wp2
  go_loop [5] (fun i => ∃ k : Nat, k ≤ R.files.length ∧ i = .int .i64 (k : Int) ∧ Hid (∀ (j : Nat) (y : Fl), j < k → R.files[j]? = some y → (y.num : Int) ≠ f)) (fun i => R.files.length - (intOf i).toNat)
  case atStart => exact ⟨0, Nat.zero_le _, rfl, Lib.hid fun j y hj => absurd hj (Nat.not_lt_zero j)⟩
  case round =>
    obtain ⟨k, hk, rfl, HN⟩ := hrel
    by_cases hlt : k < R.files.length
    · obtain ⟨x, hx⟩ : ∃ x, R.files[k]? = some x := ⟨_, List.getElem?_eq_getElem hlt⟩
      obtain ⟨g, cap, hv, d0, d1, d2⟩ := fl_cell H1.out hx
      have hv2 := HFV.out.symm.trans hv
      simp only [Value.slice.injEq, true_and] at hv2
      obtain ⟨rfl, rfl⟩ := hv2
      by_cases he : (x.num : Int) = f
      · obtain ⟨e1, e2⟩ := look_some hx he HN.out
        have E1 := Lib.hid e1
        have E2 := Lib.hid e2
        clear hx e1 e2
        subst he
        go_wp2
        refine bodyPost_ret (results_cell_row (d := _) rfl _ _ w.heap.size 67 #[.int .i64 (x.num : Int), .string (bs x.now), .string (bs x.dur)] (0, 0) rfl (heap_alloc_new w _) Try.underlying67 rfl (by kernel_rfl)) rfl ⟨by rw [E1.out, E2.out], below_alloc w _⟩
      · have he' : ((x.num : Int) == f) = false := by simpa using he
        have HX := Lib.hid hx
        have HE := Lib.hid he
        clear hx he
        go_wp2
        go_round
        case rel => exact ⟨k + 1, by omega, by go_num, Lib.hid fun j y hj hy => by
          by_cases hjk : j = k
          · subst hjk; rw [HX.out] at hy; cases hy; exact HE.out
          · exact HN.out j y (by omega) hy⟩
        case measure => simp [intOf]; omega
    · obtain ⟨e1, e2⟩ := look_none (R := R) (f := f) (fun j x hx => HN.out j x (by have := (List.getElem?_eq_some_iff.1 hx).1; omega) hx)
      have E1 := Lib.hid e1
      have E2 := Lib.hid e2
      clear e1 e2
      go_wp2
      refine bodyPost_ret (results_cell_row (d := _) rfl _ _ w.heap.size 67 #[.int .i64 f, .string ⟨#[]⟩, .string ⟨#[]⟩] (0, 0) rfl (heap_alloc_new w _) Try.underlying67 rfl (by kernel_rfl)) rfl ⟨by rw [E1.out, E2.out]; rfl, below_alloc w _⟩

set_option maxRecDepth 100000 in
theorem rdown_any (h : RIn w lab id r R L) : Calls Try.prog 15 #[.pointer (some ⟨r, 0, none⟩)] w fun e w' => e = .returned (.bool R.down) ∧ w = w' := by
  have c3 := h.c 3
  simp only [List.getElem?_toArray, List.getElem?_cons_zero, List.getElem?_cons_succ] at c3
  clear h
  go_enter Try.func15, Try.ntmps15
  go_wp2
  go_ret
  exact ⟨rfl, rfl⟩
theorem field1 (f : Int) (s t : ByteArray) : ∀ w : World, (Instr.field 67 (.agg #[.int .i64 f, .string s, .string t]) 1).run Try.prog w = .ok (.string s) w := fun _ => by kernel_rfl
def Rf.size (R : Rf) (f : Int) : Nat := (R.now f).length
set_option maxRecDepth 100000 in
theorem rsize_any (h : RIn w lab id r R L) (f : Int) (hf : I64 f) : Calls Try.prog 17 #[.pointer (some ⟨r, 0, none⟩), .int .i64 f] w fun e w' => e = .returned (.int .i64 (R.size f : Int)) ∧ Below w.heap.size w w' := by
  have H := Lib.hid h
  have hz : ((bs (R.now f)).size : Int) = (R.size f : Int) := by rw [bs_size]; rfl
  have HZ := Lib.hid hz
  have hfd := field1 f (bs (R.now f)) (bs (R.dur f))
  clear h hz
  go_enter Try.func17, Try.ntmps17
  go_wp2_with (go_at_call 39; refine (get_any H.out f hf).mono ?_; rintro e w1 ⟨rfl, b1⟩; refine Hid.out ?_)
  refine Lib.hid ?_
  go_wp2
  go_ret
  exact ⟨by rw [← HZ.out]; rfl, b1⟩
def Rf.may (R : Rf) (f : Int) : Int := if R.down then 8 else if f < 0 ∨ 15 < f then 1 else 0
set_option maxRecDepth 100000 in
theorem may_any (h : RIn w lab id r R L) (f : Int) : Calls Try.prog 46 #[.pointer (some ⟨r, 0, none⟩), .int .i64 f] w fun e w' => e = .returned (.int .i64 (R.may f)) ∧ w = w' := by
  have c3 := h.c 3
  simp only [List.getElem?_toArray, List.getElem?_cons_zero, List.getElem?_cons_succ] at c3
  clear h
  unfold Rf.may
  cases hd : R.down with
  | true =>
    rw [hd] at c3
    rw [if_pos rfl]
    go_enter Try.func46, Try.ntmps46
    go_wp2
    go_ret
    exact ⟨rfl, rfl⟩
  | false =>
    rw [hd] at c3
    rw [if_neg (by simp)]
    by_cases h1 : f < 0
    · rw [if_pos (.inl h1)]
      go_enter Try.func46, Try.ntmps46
      go_wp2
      go_ret
      exact ⟨rfl, rfl⟩
    · have h0 : 0 ≤ f := by omega
      by_cases h2 : 15 < f
      · rw [if_pos (.inr h2)]
        go_enter Try.func46, Try.ntmps46
        go_wp2
        go_ret
        exact ⟨rfl, rfl⟩
      · rw [if_neg (by omega)]
        go_enter Try.func46, Try.ntmps46
        go_wp2
        go_ret
        exact ⟨rfl, rfl⟩
def fitsB (a : Int) (s : List UInt8) : Bool := decide (0 ≤ a ∧ a + s.length ≤ 16777216)
set_option maxRecDepth 100000 in
theorem fits_any (a : Int) (s : List UInt8) (ha : I64 a) (hs : s.length ≤ 140737488355327) (w : World) : Calls Try.prog 52 #[.int .i64 a, .string (bs s)] w fun e w' => e = .returned (.bool (fitsB a s)) ∧ w = w' := by
  have hz := bs_size s
  have a1 := ha.1
  have a2 := ha.2
  have hs2 : (bs s).size ≤ 140737488355327 := by rw [hz]; exact hs
  unfold fitsB
  by_cases h1 : 0 ≤ a
  · by_cases h2 : a ≤ 16777216
    · by_cases h3 : a + ((bs s).size : Int) ≤ 16777216
      · rw [decide_eq_true (by rw [hz] at h3; exact ⟨h1, h3⟩)]
        clear ha hz
        go_enter Try.func52, Try.ntmps52
        go_wp2
        go_ret
        exact ⟨ret_bool (by first | rfl | simp | (simp; omega)), rfl⟩
      · rw [decide_eq_false (by rw [hz] at h3; omega)]
        clear ha hz
        go_enter Try.func52, Try.ntmps52
        go_wp2
        go_ret
        exact ⟨ret_bool (by first | rfl | simp | (simp; omega)), rfl⟩
    · rw [decide_eq_false (by omega)]
      clear ha hz
      go_enter Try.func52, Try.ntmps52
      go_wp2
      go_ret
      exact ⟨ret_bool (by first | rfl | simp | (simp; omega)), rfl⟩
  · rw [decide_eq_false (by omega)]
    clear ha hz
    go_enter Try.func52, Try.ntmps52
    go_wp2
    go_ret
    exact ⟨ret_bool (by first | rfl | simp | (simp; omega)), rfl⟩
set_option maxHeartbeats 1000000 in
set_option maxRecDepth 100000 in
theorem pending_any (h : RIn w lab id r R L) (f n : Nat) :
    Calls Try.prog 58 #[.pointer (some ⟨r, 0, none⟩), .int .i64 (f : Int), .int .i64 (n : Int)] w fun e w' => e = .returned (.bool (decide ((f, n) ∈ R.queue))) ∧ w = w' := by
  have H := Lib.hid h
  have hlen := queue_len h.ok.queue h.ok.few
  have c1 := h.c 1
  simp only [List.getElem?_toArray, List.getElem?_cons_zero, List.getElem?_cons_succ] at c1
  obtain ⟨fa, fc, hfv⟩ := own_form h.queue
  rw [hfv] at c1
  have HFV := Lib.hid hfv
  clear h hfv
  go_enter Try.func58, Try.ntmps58
  go_wp2
  go_loop [7] (fun i => ∃ k : Nat, k ≤ R.queue.length ∧ i = .int .i64 (k : Int) ∧ Hid (∀ (j : Nat) (y : Nat × Nat), j < k → R.queue[j]? = some y → y ≠ (f, n))) (fun i => R.queue.length - (intOf i).toNat)
  case atStart => exact ⟨0, Nat.zero_le _, rfl, Lib.hid fun j y hj => absurd hj (Nat.not_lt_zero j)⟩
  case round =>
    obtain ⟨k, hk, rfl, HN⟩ := hrel
    by_cases hlt : k < R.queue.length
    · obtain ⟨p, hp⟩ : ∃ p, R.queue[k]? = some p := ⟨_, List.getElem?_eq_getElem hlt⟩
      obtain ⟨g, cap, hv, d0, d1⟩ := q_cell H.out hp
      have hv2 := HFV.out.symm.trans hv
      simp only [Value.slice.injEq, true_and] at hv2
      obtain ⟨rfl, rfl⟩ := hv2
      have HP := Lib.hid hp
      clear hp
      by_cases h1 : p.1 = f
      · have h1' : ((p.1 : Int) == (f : Int)) = true := by rw [beq_iff_eq]; omega
        by_cases h2 : p.2 = n
        · have h2' : ((p.2 : Int) == (n : Int)) = true := by rw [beq_iff_eq]; omega
          have HM := Lib.hid (show decide ((f, n) ∈ R.queue) = true by rw [decide_eq_true_iff]; have := List.mem_of_getElem? HP.out; rwa [show p = (f, n) from Prod.ext h1 h2] at this)
          clear h1 h2
          go_wp2
          go_ret
          exact ⟨ret_bool HM.out.symm, rfl⟩
        · have h2' : ((p.2 : Int) == (n : Int)) = false := by rw [beq_eq_false_iff_ne]; omega
          have HE := Lib.hid (show p ≠ (f, n) from fun e => h2 (congrArg Prod.snd e))
          clear h1 h2
          go_wp2
          go_round
          case rel => exact ⟨k + 1, by omega, by go_num, Lib.hid fun j y hj hy => by
            by_cases hjk : j = k
            · subst hjk; rw [HP.out] at hy; cases hy; exact HE.out
            · exact HN.out j y (by omega) hy⟩
          case measure => simp [intOf]; omega
      · have h1' : ((p.1 : Int) == (f : Int)) = false := by rw [beq_eq_false_iff_ne]; omega
        have HE := Lib.hid (show p ≠ (f, n) from fun e => h1 (congrArg Prod.fst e))
        clear h1
        go_wp2
        go_round
        case rel => exact ⟨k + 1, by omega, by go_num, Lib.hid fun j y hj hy => by
          by_cases hjk : j = k
          · subst hjk; rw [HP.out] at hy; cases hy; exact HE.out
          · exact HN.out j y (by omega) hy⟩
        case measure => simp [intOf]; omega
    · have HM := Lib.hid (show decide ((f, n) ∈ R.queue) = false by
        rw [decide_eq_false_iff_not]
        intro hm
        obtain ⟨j, hj, he⟩ := List.mem_iff_getElem.1 hm
        exact HN.out j (f, n) (by omega) (by rw [List.getElem?_eq_getElem hj, he]) rfl)
      go_wp2
      go_ret
      exact ⟨ret_bool HM.out.symm, rfl⟩
end
end Go.Proofs.Ytadnmoaemnajgaa
