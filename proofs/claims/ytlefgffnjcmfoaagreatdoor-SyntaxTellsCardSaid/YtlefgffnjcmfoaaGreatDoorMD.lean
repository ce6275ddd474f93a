/- Several texts in one: Yp, Yq, Yr, Ys, Yt, Yu. -/
import Derived.Test.YtlefgffnjcmfoaaGreatDoorMA
import Derived.Test.YtlefgffnjcmfoaaGreatDoorMB
import Derived.Test.YtlefgffnjcmfoaaGreatDoorMC
import Derived.BigQuiet
namespace Go.Proofs.YtlefgffnjcmfoaaGreatDoor
open Go.RowKit Go.Maps Go.ChangeMaps Go.MapKept
open Lx Sy
attribute [local go_sem ↓] Go.wp_at_zero Go.wp_at_succ
/-- The reader as an object of its own. -/
def pv (b : Nat) (v : Value) (a : Nat) (p e : Int) : Ob := .raw b (.cells #[v, .int .i64 a, .int .i64 p, .int .i64 e] 45 (0, 0))
/-- What it has read: the state of the grammar. -/
def Fit (L : List Tk) (r : R) (a : Nat) (p e : Int) : Prop := match r with
  | .ok l => L.drop a = l ∧ l ≠ [] ∧ e = 0
  | .error (l, x) => e = x ∧ x ≠ 0 ∧ p = posOf l ∧ a < L.length
def Ends (L : List Tk) : Prop := ∃ us E, L = us ++ [E] ∧ E.kind = 3 ∧ ∀ t ∈ us, t.kind ≠ 3
theorem Fit.lt {L : List Tk} {r : R} {a : Nat} {p e : Int} (h : Fit L r a p e) : a < L.length := by
  cases r with
  | ok l =>
    obtain ⟨h1, h2, _⟩ := h
    refine Nat.lt_of_not_le fun q => h2 ?_
    rw [← h1, List.drop_eq_nil_of_le q]
  | error x => exact h.2.2.2
theorem is_of {L : List Tk} {r : R} {a : Nat} {p e : Int} {z : Tk} (h : Fit L r a p e) (hz : L[a]? = some z) (s : S) : isO s (hdR r) = (decide (e = 0) && isB s (br z)) := by
  cases r with
  | ok l =>
    obtain ⟨h1, _, h3⟩ := h
    subst h3
    have : l = z :: L.drop (a + 1) := by
      obtain ⟨q1, q2⟩ := List.getElem?_eq_some_iff.1 hz
      rw [← h1, ← q2]; exact List.drop_eq_getElem_cons q1
    rw [this]; simp [hdR, hd, isO]
  | error x =>
    obtain ⟨h1, h2, _⟩ := h
    subst h1
    simp [hdR, isO, h2]
theorem tk_new (w : World) (p : Tk) : TkCells (w.alloc (.cells #[.int .i64 p.kind, .string (bs p.text), .int .i64 p.n, .int .i64 p.pos] 42)) w.heap.size 0 p :=
  ⟨by rw [Lib.cell_of_heap (MapKept.heap_alloc _ _).1]; rfl, by rw [Lib.cell_of_heap (MapKept.heap_alloc _ _).1]; rfl, by rw [Lib.cell_of_heap (MapKept.heap_alloc _ _).1]; rfl, by rw [Lib.cell_of_heap (MapKept.heap_alloc _ _).1]; rfl⟩
theorem drop_of {L : List Tk} {a : Nat} {z : Tk} (h : L[a]? = some z) : L.drop a = z :: L.drop (a + 1) := by
  obtain ⟨h1, h2⟩ := List.getElem?_eq_some_iff.1 h
  rw [← h2]; exact List.drop_eq_getElem_cons h1
theorem keepS {w : World} {b tb o : Nat} {v v1 : Value} {z : Tk} {x : Obj} (h : w.cell? ⟨b, 0, none⟩ = some v ∧ w.cell? ⟨b, 1, none⟩ = some v1 ∧ TkCells w tb o z) :
    (w.alloc x).cell? ⟨b, 0, none⟩ = some v ∧ (w.alloc x).cell? ⟨b, 1, none⟩ = some v1 ∧ TkCells (w.alloc x) tb o z := by
  have hb := (Below.refl w.heap.size w).alloc (Nat.le_refl _) x
  exact ⟨below_cell h.1 hb, below_cell h.2.1 hb, below_cell h.2.2.1 hb, below_cell h.2.2.2.1 hb, below_cell h.2.2.2.2.1 hb, below_cell h.2.2.2.2.2 hb⟩
section
variable {w0 w : World} {os : List Ob} {i b a : Nat} {v : Value} {p e : Int} {L : List Tk} {r : R}
set_option maxHeartbeats 4000000 in
set_option maxRecDepth 100000 in
theorem y_is (h : OMem w0 w os) (hi : os[i]? = some (pv b v a p e)) (hv : TkAt w0 v L) (hL : L.length ≤ 3000) (hf : Fit L r a p e) (s : S) :
    Calls Tryz.prog 22 #[.pointer (some ⟨b, 0, none⟩), .string (bs s)] w fun x w' => x = .returned (.bool (isO s (hdR r))) ∧ Below w.heap.size w w' := by
  have hal := hf.lt
  obtain ⟨z, hz⟩ : ∃ z, L[a]? = some z := ⟨_, List.getElem?_eq_getElem hal⟩
  have r1 := h.raw_at hi
  have p0 : w.cell? ⟨b, 0, none⟩ = some v := by rw [Lib.cell_of_heap r1]; rfl
  have p1 : w.cell? ⟨b, 1, none⟩ = some (.int .i64 a) := by rw [Lib.cell_of_heap r1]; rfl
  have p2 : w.cell? ⟨b, 2, none⟩ = some (.int .i64 p) := by rw [Lib.cell_of_heap r1]; rfl
  have p3 : w.cell? ⟨b, 3, none⟩ = some (.int .i64 e) := by rw [Lib.cell_of_heap r1]; rfl
  obtain ⟨tb, off, cap, rfl, _, hc⟩ := (hv.keep h.below).form (by omega)
  have tc := hc a z hz
  go_enter Tryz.func22, Tryz.ntmps22
  have S0 : w.cell? ⟨b, 0, none⟩ = some (.slice (some ⟨tb, off, none⟩) L.length cap) ∧ w.cell? ⟨b, 1, none⟩ = some (.int .i64 a) ∧ TkCells w tb (off + a * 4) z := ⟨p0, p1, tc⟩
  have HZ := Lib.hid hz
  have HD := Lib.hid (drop_of hz)
  have hb1 : Below w.heap.size w (w.alloc (.cells #[.int .i64 z.kind, .string (bs z.text), .int .i64 z.n, .int .i64 z.pos] 42)).drew := ((Below.refl w.heap.size w).alloc (Nat.le_refl _) _).drew
  have HB := Lib.hid hb1
  have e1 := below_cell p1 hb1
  have e3 := below_cell p3 hb1
  obtain ⟨t0, t1, t2, -⟩ := tk_new w z
  have t0 := below_cell t0 (below_drew _)
  have t1 := below_cell t1 (below_drew _)
  have t2 := below_cell t2 (below_drew _)
  have HF := Lib.hid hf
  have HV := Lib.hid hv
  have HM := Lib.hid h
  have HI := Lib.hid hi
  have al' : (a : Int) < (L.length : Int) := by omega
  clear hc hz hb1 p0 p1 p2 p3 tc hf hv r1
  go_wp2
  refine region_till 11 (fun wx => wx.cell? ⟨b, 0, none⟩ = some (.slice (some ⟨tb, off, none⟩) L.length cap) ∧ wx.cell? ⟨b, 1, none⟩ = some (.int .i64 a) ∧ TkCells wx tb (off + a * 4) z) (by kernel_rfl) ?_
  refine till_take 0 60 false (v := ?v0) (by kernel_rfl) (by kernel_rfl) (by kernel_rfl) (by kernel_rfl) (by kernel_rfl) (fun _ _ _ h => h) ?hw0 S0 ?hy0 ?rest0
  case hw0 => (simp only [List.getElem?_toArray, List.getElem?_cons_zero, Option.elim]; rfl)
  case hy0 => (simp only [List.getElem?_toArray, List.getElem?_cons_zero, Option.elim]; intro wx _; go_simp; with_reducible rfl)
  simp only [dstOf, List.getElem?_toArray, List.getElem?_cons_zero, Option.bind, Act.put, List.setIfInBounds_toArray, List.set_cons_zero, List.set_cons_succ]
  refine till_take 1 60 false (v := ?v1) (by kernel_rfl) (by kernel_rfl) (by kernel_rfl) (by kernel_rfl) (by kernel_rfl) (fun _ _ _ h => h) ?hw1 S0 ?hy1 ?rest1
  case hw1 => (simp only [List.getElem?_toArray, List.getElem?_cons_zero, List.getElem?_cons_succ, Option.elim]; rfl)
  case hy1 => (simp only [List.getElem?_toArray, List.getElem?_cons_zero, List.getElem?_cons_succ, Option.elim]; intro wx _; go_simp; with_reducible rfl)
  simp only [dstOf, List.getElem?_toArray, List.getElem?_cons_zero, List.getElem?_cons_succ, Option.bind, Act.put, List.setIfInBounds_toArray, List.set_cons_zero, List.set_cons_succ]
  refine till_take 2 60 false (v := ?v2) (by kernel_rfl) (by kernel_rfl) (by kernel_rfl) (by kernel_rfl) (by kernel_rfl) (fun _ _ _ h => h) ?hw2 S0 ?hy2 ?rest2
  case hw2 => (simp only [List.getElem?_toArray, List.getElem?_cons_zero, List.getElem?_cons_succ, Option.elim]; rfl)
  case hy2 => (simp only [List.getElem?_toArray, List.getElem?_cons_zero, List.getElem?_cons_succ, Option.elim]; intro wx _; go_simp; with_reducible rfl)
  simp only [dstOf, List.getElem?_toArray, List.getElem?_cons_zero, List.getElem?_cons_succ, Option.bind, Act.put, List.setIfInBounds_toArray, List.set_cons_zero, List.set_cons_succ]
  refine till_take 3 60 true (v := ?v3) (by kernel_rfl) (by kernel_rfl) (by kernel_rfl) (by kernel_rfl) (by kernel_rfl) (fun _ _ _ h => h) ?hw3 S0 ?hy3 ?rest3
  case hw3 => (simp only [List.getElem?_toArray, List.getElem?_cons_zero, List.getElem?_cons_succ, Option.elim]; rfl)
  case hy3 => (simp only [List.getElem?_toArray, List.getElem?_cons_zero, List.getElem?_cons_succ, Option.elim]; intro wx hx; have x0 := (hx trivial).1; have x1 := (hx trivial).2.1; obtain ⟨y0, y1, y2, y3⟩ := (hx trivial).2.2; go_simp; with_reducible rfl)
  simp only [dstOf, List.getElem?_toArray, List.getElem?_cons_zero, List.getElem?_cons_succ, Option.bind, Act.put, List.setIfInBounds_toArray, List.set_cons_zero, List.set_cons_succ]
  refine till_take 4 60 false (v := ?v4) (by kernel_rfl) (by kernel_rfl) (by kernel_rfl) (by kernel_rfl) (by kernel_rfl) (fun _ _ _ h => h) ?hw4 S0 ?hy4 ?rest4
  case hw4 => (simp only [List.getElem?_toArray, List.getElem?_cons_zero, List.getElem?_cons_succ, Option.elim]; rfl)
  case hy4 => (simp only [List.getElem?_toArray, List.getElem?_cons_zero, List.getElem?_cons_succ, Option.elim]; intro wx _; go_simp; with_reducible rfl)
  simp only [dstOf, List.getElem?_toArray, List.getElem?_cons_zero, List.getElem?_cons_succ, Option.bind, Act.put, List.setIfInBounds_toArray, List.set_cons_zero, List.set_cons_succ]
  refine till_take 5 60 false (v := ?v5) (by kernel_rfl) (by kernel_rfl) (by kernel_rfl) (by kernel_rfl) (by kernel_rfl) (fun _ _ _ h => h) ?hw5 S0 ?hy5 ?rest5
  case hw5 => (simp only [List.getElem?_toArray, List.getElem?_cons_zero, List.getElem?_cons_succ, Option.elim]; rfl)
  case hy5 => (simp only [List.getElem?_toArray, List.getElem?_cons_zero, List.getElem?_cons_succ, Option.elim]; intro wx _; go_simp; with_reducible rfl)
  simp only [dstOf, List.getElem?_toArray, List.getElem?_cons_zero, List.getElem?_cons_succ, Option.bind, Act.put, List.setIfInBounds_toArray, List.set_cons_zero, List.set_cons_succ]
  refine till_take 6 60 false (v := ?v6) (by kernel_rfl) (by kernel_rfl) (by kernel_rfl) (by kernel_rfl) (by kernel_rfl) (fun _ _ _ h => h) ?hw6 S0 ?hy6 ?rest6
  case hw6 => (simp only [List.getElem?_toArray, List.getElem?_cons_zero, List.getElem?_cons_succ, Option.elim]; rfl)
  case hy6 => (simp only [List.getElem?_toArray, List.getElem?_cons_zero, List.getElem?_cons_succ, Option.elim]; intro wx _; go_simp; with_reducible rfl)
  simp only [dstOf, List.getElem?_toArray, List.getElem?_cons_zero, List.getElem?_cons_succ, Option.bind, Act.put, List.setIfInBounds_toArray, List.set_cons_zero, List.set_cons_succ]
  refine till_take 7 60 true (v := ?v7) (by kernel_rfl) (by kernel_rfl) (by kernel_rfl) (by kernel_rfl) (by kernel_rfl) (fun _ _ _ h => h) ?hw7 S0 ?hy7 ?rest7
  case hw7 => (simp only [List.getElem?_toArray, List.getElem?_cons_zero, List.getElem?_cons_succ, Option.elim]; rfl)
  case hy7 => (simp only [List.getElem?_toArray, List.getElem?_cons_zero, List.getElem?_cons_succ, Option.elim]; intro wx hx; have x0 := (hx trivial).1; have x1 := (hx trivial).2.1; obtain ⟨y0, y1, y2, y3⟩ := (hx trivial).2.2; go_simp; with_reducible rfl)
  simp only [dstOf, List.getElem?_toArray, List.getElem?_cons_zero, List.getElem?_cons_succ, Option.bind, Act.put, List.setIfInBounds_toArray, List.set_cons_zero, List.set_cons_succ]
  refine till_take 8 60 false (v := ?v8) (by kernel_rfl) (by kernel_rfl) (by kernel_rfl) (by kernel_rfl) (by kernel_rfl) (fun _ _ _ h => h) ?hw8 S0 ?hy8 ?rest8
  case hw8 => (simp only [List.getElem?_toArray, List.getElem?_cons_zero, List.getElem?_cons_succ, Option.elim]; rfl)
  case hy8 => (simp only [List.getElem?_toArray, List.getElem?_cons_zero, List.getElem?_cons_succ, Option.elim]; intro wx _; go_simp; with_reducible rfl)
  simp only [dstOf, List.getElem?_toArray, List.getElem?_cons_zero, List.getElem?_cons_succ, Option.bind, Act.put, List.setIfInBounds_toArray, List.set_cons_zero, List.set_cons_succ]
  refine till_take 9 60 true (v := ?v9) (by kernel_rfl) (by kernel_rfl) (by kernel_rfl) (by kernel_rfl) (by kernel_rfl) (fun _ _ _ h => h) ?hw9 S0 ?hy9 ?rest9
  case hw9 => (simp only [List.getElem?_toArray, List.getElem?_cons_zero, List.getElem?_cons_succ, Option.elim]; rfl)
  case hy9 => (simp only [List.getElem?_toArray, List.getElem?_cons_zero, List.getElem?_cons_succ, Option.elim]; intro wx hx; have x0 := (hx trivial).1; have x1 := (hx trivial).2.1; obtain ⟨y0, y1, y2, y3⟩ := (hx trivial).2.2; go_simp; with_reducible rfl)
  simp only [dstOf, List.getElem?_toArray, List.getElem?_cons_zero, List.getElem?_cons_succ, Option.bind, Act.put, List.setIfInBounds_toArray, List.set_cons_zero, List.set_cons_succ]
  refine till_before 10 (by kernel_rfl) (fun K hK => ?_)
  simp only [List.getElem?_toArray, List.getElem?_cons_zero, List.getElem?_cons_succ, Option.elim]
  rw [if_pos (by rfl)]
  go_simp
  refine hK.out _ _ (keepS S0) ?_
  clear hK K
  try simp only [Act.put, List.setIfInBounds_toArray, List.set_cons_zero, List.set_cons_succ]
  refine till_step 11 (by kernel_rfl) (by kernel_rfl) (fun K hK => ?_)
  simp only [List.getElem?_toArray, List.getElem?_cons_zero, List.getElem?_cons_succ, Option.elim]
  rw [if_pos (by rfl)]
  go_simp
  refine hK.out _ _ ?_
  clear hK K
  try simp only [Act.put, List.setIfInBounds_toArray, List.set_cons_zero, List.set_cons_succ]
  refine till_end (by kernel_rfl) ?_ _
  clear S0
  have HO := Lib.hid (is_of HF.out HZ.out s)
  by_cases he : e = 0
  · subst he
    by_cases h3 : z.kind = 3
    · have h3' : (z.kind != 3) = false := by simp [bne, h3]
      have HR := Lib.hid (show isO s (hdR r) = false by rw [HO.out]; simp [isB, br, h3])
      clear h3
      go_wp2
      go_ret
      exact ⟨ret_bool HR.out.symm, HB.out⟩
    · have h3' : (z.kind != 3) = true := by simp [bne, beq_eq_false_iff_ne.2 h3]
      by_cases h1 : z.kind = 1
      · have h1' : (z.kind != 1) = false := by simp [bne, h1]
        have HR := Lib.hid (show isO s (hdR r) = false by rw [HO.out]; simp [isB, br, h1])
        clear h1 h3
        go_wp2
        go_ret
        exact ⟨ret_bool HR.out.symm, HB.out⟩
      · have h1' : (z.kind != 1) = true := by simp [bne, beq_eq_false_iff_ne.2 h1]
        by_cases ht : z.text = s
        · have HR := Lib.hid (show isO s (hdR r) = true by rw [HO.out]; simp [isB, br, h1, h3, ht])
          have ht' : ((bs z.text).toList == (bs s).toList) = true := by rw [ht]; exact beq_self_eq_true _
          clear h1 h3 ht
          go_wp2
          go_ret
          exact ⟨ret_bool HR.out.symm, HB.out⟩
        · have HR := Lib.hid (show isO s (hdR r) = false by rw [HO.out]; simp [isB, br, ht])
          have ht' := str_ne ht
          clear h1 h3 ht
          go_wp2
          go_ret
          exact ⟨ret_bool HR.out.symm, HB.out⟩
  · have he' : (e == 0) = false := beq_eq_false_iff_ne.2 he
    have HR := Lib.hid (show isO s (hdR r) = false by rw [HO.out]; simp [he])
    clear he
    go_wp2
    go_ret
    exact ⟨ret_bool HR.out.symm, HB.out⟩
theorem set_same {os : List Ob} {i : Nat} {x : Ob} (h : os[i]? = some x) : os.set i x = os := by
  obtain ⟨h1, h2⟩ := List.getElem?_eq_some_iff.1 h
  rw [← h2]; exact List.set_getElem_self h1
/-- An error at the current token, if there was none before. -/
def badR (e : Int) : R → R
  | .ok l => .error (l, e)
  | .error x => .error x
theorem Fit.bad {L : List Tk} {r : R} {a : Nat} {p e x : Int} {z : Tk} (h : Fit L r a p e) (hz : L[a]? = some z) (hx : x ≠ 0) (he : e = 0) : Fit L (badR x r) a z.pos x := by
  cases r with
  | ok l =>
    obtain ⟨h1, h2, _⟩ := h
    have hd := drop_of hz
    rw [h1] at hd
    exact ⟨rfl, hx, by rw [hd]; rfl, (List.getElem?_eq_some_iff.1 hz).1⟩
  | error y =>
    obtain ⟨h1, h2, _⟩ := h
    exact (h2 (h1.symm.trans he)).elim
theorem Fit.still {L : List Tk} {r : R} {a : Nat} {p e x : Int} (h : Fit L r a p e) (he : e ≠ 0) : Fit L (badR x r) a p e := by
  cases r with
  | ok l => exact (he h.2.2).elim
  | error y => exact h
set_option maxHeartbeats 4000000 in
set_option maxRecDepth 100000 in
theorem y_fail (h : OMem w0 w os) (hi : os[i]? = some (pv b v a p e)) (hv : TkAt w0 v L) (hL : L.length ≤ 3000) (hf : Fit L r a p e) {x : Int} (hx : x ≠ 0) :
    Calls Tryz.prog 27 #[.pointer (some ⟨b, 0, none⟩), .int .i64 x] w fun u w' => u = .returned (.tuple #[]) ∧ ∃ p' e', Fit L (badR x r) a p' e' ∧ OMem w0 w' (os.set i (pv b v a p' e')) := by
  have hz3 : w.frozen? ⟨b, 3, none⟩ = false := Lib.frozen_of_heap (h.raw_at hi) 3
  have hal := hf.lt
  obtain ⟨z, hz⟩ : ∃ z, L[a]? = some z := ⟨_, List.getElem?_eq_getElem hal⟩
  have r1 := h.raw_at hi
  have p0 : w.cell? ⟨b, 0, none⟩ = some v := by rw [Lib.cell_of_heap r1]; rfl
  have p1 : w.cell? ⟨b, 1, none⟩ = some (.int .i64 a) := by rw [Lib.cell_of_heap r1]; rfl
  have p2 : w.cell? ⟨b, 2, none⟩ = some (.int .i64 p) := by rw [Lib.cell_of_heap r1]; rfl
  have p3 : w.cell? ⟨b, 3, none⟩ = some (.int .i64 e) := by rw [Lib.cell_of_heap r1]; rfl
  obtain ⟨tb, off, cap, rfl, _, hc⟩ := (hv.keep h.below).form (by omega)
  have tc := hc a z hz
  have HM := Lib.hid h
  have HI := Lib.hid hi
  go_enter Tryz.func27, Tryz.ntmps27
  by_cases he : e = 0
  · have m1 := h.raw_set hi 3 (.int .i64 x)
    have il := (List.getElem?_eq_some_iff.1 hi).1
    have hi1 : (os.set i (pv b (.slice (some ⟨tb, off, none⟩) L.length cap) a p x))[i]? = some (pv b (.slice (some ⟨tb, off, none⟩) L.length cap) a p x) := List.getElem?_set_self il
    have m1 : OMem w0 (w.setCell ⟨b, 3, none⟩ (.int .i64 x)) (os.set i (pv b (.slice (some ⟨tb, off, none⟩) L.length cap) a p x)) := m1
    have r2 := m1.raw_at hi1
    have q0 : (w.setCell ⟨b, 3, none⟩ (.int .i64 x)).cell? ⟨b, 0, none⟩ = some (.slice (some ⟨tb, off, none⟩) L.length cap) := by rw [Lib.cell_of_heap r2]; rfl
    have q1 : (w.setCell ⟨b, 3, none⟩ (.int .i64 x)).cell? ⟨b, 1, none⟩ = some (.int .i64 a) := by rw [Lib.cell_of_heap r2]; rfl
    have q2 : (w.setCell ⟨b, 3, none⟩ (.int .i64 x)).cell? ⟨b, 2, none⟩ = some (.int .i64 p) := by rw [Lib.cell_of_heap r2]; rfl
    have hz2 : (w.setCell ⟨b, 3, none⟩ (.int .i64 x)).frozen? ⟨b, 2, none⟩ = false := Lib.frozen_of_heap r2 2
    obtain ⟨tb2, off2, cap2, hh, _, hc2⟩ := (hv.keep m1.below).form (by omega)
    cases hh
    have tc2 := (hc2 a z hz).2.2.2
    have S0 := And.intro q0 (And.intro q1 tc2)
    have HF := Lib.hid (hf.bad hz hx he)
    have m2 := (m1.drew).raw_set hi1 2 (.int .i64 z.pos)
    have M2 := Lib.hid (show OMem w0 _ (os.set i (pv b (.slice (some ⟨tb, off, none⟩) L.length cap) a z.pos x)) from by rw [List.set_set] at m2; exact m2)
    have al' : (a : Int) < (L.length : Int) := by omega
    subst he
    clear hc hz tc hv hf h hi r1 r2 m1 m2 hi1 hc2 il HM HI
    go_wp2
    generalize w.setCell ⟨b, 3, none⟩ (.int .i64 x) = w1 at *
    have q2d : w1.drew.cell? ⟨b, 2, none⟩ = some (.int .i64 p) := q2
    have z2d : w1.drew.frozen? ⟨b, 2, none⟩ = false := hz2
    refine region_till 12 (fun wx => wx.cell? ⟨b, 0, none⟩ = some (.slice (some ⟨tb, off, none⟩) L.length cap) ∧ wx.cell? ⟨b, 1, none⟩ = some (.int .i64 a) ∧ wx.cell? ⟨tb, off + a * 4 + 3, none⟩ = some (.int .i64 z.pos)) (by kernel_rfl) ?_
    refine till_take 0 60 false (v := ?v0) (by kernel_rfl) (by kernel_rfl) (by kernel_rfl) (by kernel_rfl) (by kernel_rfl) (fun _ _ _ h => h) ?hw0 S0 ?hy0 ?rest0
    case hw0 => (simp only [List.getElem?_toArray, List.getElem?_cons_zero, Option.elim]; rfl)
    case hy0 => (simp only [List.getElem?_toArray, List.getElem?_cons_zero, Option.elim]; intro wx _; go_simp; with_reducible rfl)
    simp only [dstOf, List.getElem?_toArray, List.getElem?_cons_zero, Option.bind, Act.put, List.setIfInBounds_toArray, List.set_cons_zero, List.set_cons_succ]
    refine till_take 1 60 false (v := ?v1) (by kernel_rfl) (by kernel_rfl) (by kernel_rfl) (by kernel_rfl) (by kernel_rfl) (fun _ _ _ h => h) ?hw1 S0 ?hy1 ?rest1
    case hw1 => (simp only [List.getElem?_toArray, List.getElem?_cons_zero, List.getElem?_cons_succ, Option.elim]; rfl)
    case hy1 => (simp only [List.getElem?_toArray, List.getElem?_cons_zero, List.getElem?_cons_succ, Option.elim]; intro wx _; go_simp; with_reducible rfl)
    simp only [dstOf, List.getElem?_toArray, List.getElem?_cons_zero, List.getElem?_cons_succ, Option.bind, Act.put, List.setIfInBounds_toArray, List.set_cons_zero, List.set_cons_succ]
    refine till_take 2 60 false (v := ?v2) (by kernel_rfl) (by kernel_rfl) (by kernel_rfl) (by kernel_rfl) (by kernel_rfl) (fun _ _ _ h => h) ?hw2 S0 ?hy2 ?rest2
    case hw2 => (simp only [List.getElem?_toArray, List.getElem?_cons_zero, List.getElem?_cons_succ, Option.elim]; rfl)
    case hy2 => (simp only [List.getElem?_toArray, List.getElem?_cons_zero, List.getElem?_cons_succ, Option.elim]; intro wx _; go_simp; with_reducible rfl)
    simp only [dstOf, List.getElem?_toArray, List.getElem?_cons_zero, List.getElem?_cons_succ, Option.bind, Act.put, List.setIfInBounds_toArray, List.set_cons_zero, List.set_cons_succ]
    refine till_take 3 60 false (v := ?v3) (by kernel_rfl) (by kernel_rfl) (by kernel_rfl) (by kernel_rfl) (by kernel_rfl) (fun _ _ _ h => h) ?hw3 S0 ?hy3 ?rest3
    case hw3 => (simp only [List.getElem?_toArray, List.getElem?_cons_zero, List.getElem?_cons_succ, Option.elim]; rfl)
    case hy3 => (simp only [List.getElem?_toArray, List.getElem?_cons_zero, List.getElem?_cons_succ, Option.elim]; intro wx _; go_simp; with_reducible rfl)
    simp only [dstOf, List.getElem?_toArray, List.getElem?_cons_zero, List.getElem?_cons_succ, Option.bind, Act.put, List.setIfInBounds_toArray, List.set_cons_zero, List.set_cons_succ]
    refine till_take 4 60 true (v := ?v4) (by kernel_rfl) (by kernel_rfl) (by kernel_rfl) (by kernel_rfl) (by kernel_rfl) (fun _ _ _ h => h) ?hw4 S0 ?hy4 ?rest4
    case hw4 => (simp only [List.getElem?_toArray, List.getElem?_cons_zero, List.getElem?_cons_succ, Option.elim]; rfl)
    case hy4 => (simp only [List.getElem?_toArray, List.getElem?_cons_zero, List.getElem?_cons_succ, Option.elim]; intro wx hx; have x0 := (hx trivial).1; have x1 := (hx trivial).2.1; have x2 := (hx trivial).2.2; go_simp; with_reducible rfl)
    simp only [dstOf, List.getElem?_toArray, List.getElem?_cons_zero, List.getElem?_cons_succ, Option.bind, Act.put, List.setIfInBounds_toArray, List.set_cons_zero, List.set_cons_succ]
    refine till_take 5 60 false (v := ?v5) (by kernel_rfl) (by kernel_rfl) (by kernel_rfl) (by kernel_rfl) (by kernel_rfl) (fun _ _ _ h => h) ?hw5 S0 ?hy5 ?rest5
    case hw5 => (simp only [List.getElem?_toArray, List.getElem?_cons_zero, List.getElem?_cons_succ, Option.elim]; rfl)
    case hy5 => (simp only [List.getElem?_toArray, List.getElem?_cons_zero, List.getElem?_cons_succ, Option.elim]; intro wx _; go_simp; with_reducible rfl)
    simp only [dstOf, List.getElem?_toArray, List.getElem?_cons_zero, List.getElem?_cons_succ, Option.bind, Act.put, List.setIfInBounds_toArray, List.set_cons_zero, List.set_cons_succ]
    refine till_take 6 60 false (v := ?v6) (by kernel_rfl) (by kernel_rfl) (by kernel_rfl) (by kernel_rfl) (by kernel_rfl) (fun _ _ _ h => h) ?hw6 S0 ?hy6 ?rest6
    case hw6 => (simp only [List.getElem?_toArray, List.getElem?_cons_zero, List.getElem?_cons_succ, Option.elim]; rfl)
    case hy6 => (simp only [List.getElem?_toArray, List.getElem?_cons_zero, List.getElem?_cons_succ, Option.elim]; intro wx _; go_simp; with_reducible rfl)
    simp only [dstOf, List.getElem?_toArray, List.getElem?_cons_zero, List.getElem?_cons_succ, Option.bind, Act.put, List.setIfInBounds_toArray, List.set_cons_zero, List.set_cons_succ]
    refine till_take 7 60 false (v := ?v7) (by kernel_rfl) (by kernel_rfl) (by kernel_rfl) (by kernel_rfl) (by kernel_rfl) (fun _ _ _ h => h) ?hw7 S0 ?hy7 ?rest7
    case hw7 => (simp only [List.getElem?_toArray, List.getElem?_cons_zero, List.getElem?_cons_succ, Option.elim]; rfl)
    case hy7 => (simp only [List.getElem?_toArray, List.getElem?_cons_zero, List.getElem?_cons_succ, Option.elim]; intro wx _; go_simp; with_reducible rfl)
    simp only [dstOf, List.getElem?_toArray, List.getElem?_cons_zero, List.getElem?_cons_succ, Option.bind, Act.put, List.setIfInBounds_toArray, List.set_cons_zero, List.set_cons_succ]
    refine till_take 8 60 true (v := ?v8) (by kernel_rfl) (by kernel_rfl) (by kernel_rfl) (by kernel_rfl) (by kernel_rfl) (fun _ _ _ h => h) ?hw8 S0 ?hy8 ?rest8
    case hw8 => (simp only [List.getElem?_toArray, List.getElem?_cons_zero, List.getElem?_cons_succ, Option.elim]; rfl)
    case hy8 => (simp only [List.getElem?_toArray, List.getElem?_cons_zero, List.getElem?_cons_succ, Option.elim]; intro wx hx; have x0 := (hx trivial).1; have x1 := (hx trivial).2.1; have x2 := (hx trivial).2.2; go_simp; with_reducible rfl)
    simp only [dstOf, List.getElem?_toArray, List.getElem?_cons_zero, List.getElem?_cons_succ, Option.bind, Act.put, List.setIfInBounds_toArray, List.set_cons_zero, List.set_cons_succ]
    refine till_take 9 60 false (v := ?v9) (by kernel_rfl) (by kernel_rfl) (by kernel_rfl) (by kernel_rfl) (by kernel_rfl) (fun _ _ _ h => h) ?hw9 S0 ?hy9 ?rest9
    case hw9 => (simp only [List.getElem?_toArray, List.getElem?_cons_zero, List.getElem?_cons_succ, Option.elim]; rfl)
    case hy9 => (simp only [List.getElem?_toArray, List.getElem?_cons_zero, List.getElem?_cons_succ, Option.elim]; intro wx _; go_simp; with_reducible rfl)
    simp only [dstOf, List.getElem?_toArray, List.getElem?_cons_zero, List.getElem?_cons_succ, Option.bind, Act.put, List.setIfInBounds_toArray, List.set_cons_zero, List.set_cons_succ]
    refine till_take 10 60 false (v := ?v10) (by kernel_rfl) (by kernel_rfl) (by kernel_rfl) (by kernel_rfl) (by kernel_rfl) (fun _ _ _ h => h) ?hw10 S0 ?hy10 ?rest10
    case hw10 => (simp only [List.getElem?_toArray, List.getElem?_cons_zero, List.getElem?_cons_succ, Option.elim]; rfl)
    case hy10 => (simp only [List.getElem?_toArray, List.getElem?_cons_zero, List.getElem?_cons_succ, Option.elim]; intro wx _; go_simp; with_reducible rfl)
    simp only [dstOf, List.getElem?_toArray, List.getElem?_cons_zero, List.getElem?_cons_succ, Option.bind, Act.put, List.setIfInBounds_toArray, List.set_cons_zero, List.set_cons_succ]
    refine till_take 11 60 true (v := ?v11) (by kernel_rfl) (by kernel_rfl) (by kernel_rfl) (by kernel_rfl) (by kernel_rfl) (fun _ _ _ h => h) ?hw11 S0 ?hy11 ?rest11
    case hw11 => (simp only [List.getElem?_toArray, List.getElem?_cons_zero, List.getElem?_cons_succ, Option.elim]; rfl)
    case hy11 => (simp only [List.getElem?_toArray, List.getElem?_cons_zero, List.getElem?_cons_succ, Option.elim]; intro wx hx; have x0 := (hx trivial).1; have x1 := (hx trivial).2.1; have x2 := (hx trivial).2.2; go_simp; with_reducible rfl)
    simp only [dstOf, List.getElem?_toArray, List.getElem?_cons_zero, List.getElem?_cons_succ, Option.bind, Act.put, List.setIfInBounds_toArray, List.set_cons_zero, List.set_cons_succ]
    refine till_step 12 (by kernel_rfl) (by kernel_rfl) (fun K hK => ?_)
    simp only [List.getElem?_toArray, List.getElem?_cons_zero, List.getElem?_cons_succ, Option.elim]
    rw [if_pos (by rfl)]
    go_simp
    refine hK.out _ _ ?_
    clear hK K
    try simp only [Act.put, List.setIfInBounds_toArray, List.set_cons_zero, List.set_cons_succ]
    refine till_late 13 (v := ?v13) (by kernel_rfl) (by kernel_rfl) (by kernel_rfl) (by kernel_rfl) (fun _ _ _ h => h) (by kernel_rfl) ?hw13 ?hy13 ?rest13
    case hw13 => (simp only [List.getElem?_toArray, List.getElem?_cons_zero, List.getElem?_cons_succ, Option.elim]; rfl)
    case hy13 => (simp only [List.getElem?_toArray, List.getElem?_cons_zero, List.getElem?_cons_succ, Option.elim]; intro wx; go_simp; with_reducible rfl)
    simp only [dstOf, List.getElem?_toArray, List.getElem?_cons_zero, List.getElem?_cons_succ, Option.bind, Act.put, List.setIfInBounds_toArray, List.set_cons_zero, List.set_cons_succ]
    refine till_step 14 (by kernel_rfl) (by kernel_rfl) (fun K hK => ?_)
    simp only [List.getElem?_toArray, List.getElem?_cons_zero, List.getElem?_cons_succ, Option.elim]
    rw [if_pos (by rfl)]
    go_simp
    refine hK.out _ _ ?_
    clear hK K
    try simp only [Act.put, List.setIfInBounds_toArray, List.set_cons_zero, List.set_cons_succ]
    refine till_end (by kernel_rfl) ?_ _
    clear S0
    go_wp2
    go_end0
    exact ⟨rfl, _, _, HF.out, M2.out⟩
  · have he' : (e == 0) = false := beq_eq_false_iff_ne.2 he
    have HF := Lib.hid (hf.still (x := x) he)
    clear hc tc hv hf h hi r1 p0 p1 p2 he
    go_wp2
    go_end0
    exact ⟨rfl, _, _, HF.out, by rw [set_same HI.out]; exact HM.out⟩
end
end Go.Proofs.YtlefgffnjcmfoaaGreatDoor
namespace Go.Proofs.YtlefgffnjcmfoaaGreatDoor
open Go.RowKit Go.Maps Go.ChangeMaps Go.MapKept
open Lx Sy
attribute [local go_sem ↓] Go.wp_at_zero Go.wp_at_succ
/-- Behind the current token. -/
def Nxt (L : List Tk) (a : Nat) : R := .ok (L.drop (a + 1))
theorem ends_next {L : List Tk} {a : Nat} {z : Tk} (hE : Ends L) (hz : L[a]? = some z) (h3 : z.kind ≠ 3) : L.drop (a + 1) ≠ [] := by
  obtain ⟨us, E, rfl, h1, _⟩ := hE
  intro q
  have h2 : us.length + 1 ≤ a + 1 := by have := List.drop_eq_nil_iff.1 q; simpa using this
  have hl := (List.getElem?_eq_some_iff.1 hz).1
  have ha : a = us.length := by simp at hl; omega
  rw [ha] at hz
  simp at hz
  exact h3 (hz ▸ h1)
theorem Fit.next {L : List Tk} {a : Nat} {p : Int} {z : Tk} (hE : Ends L) (hz : L[a]? = some z) (h3 : z.kind ≠ 3) : Fit L (Nxt L a) (a + 1) p 0 := ⟨rfl, ends_next hE hz h3, rfl⟩
/-- A reader of one token, as it meets the current one. -/
theorem tok_at {α : Type} {f : B → Except Int α} {d : α} {L : List Tk} {r : R} {a : Nat} {p e : Int} {z : Tk} (h : Fit L r a p e) (hz : L[a]? = some z) :
    tokR f d r = if e = 0 then (match f (br z) with | .ok x => (x, Nxt L a) | .error y => (d, badR y r)) else (d, r) := by
  cases r with
  | ok l =>
    obtain ⟨h1, _, h3⟩ := h
    rw [if_pos h3, ← h1, drop_of hz]
    show (match f (br z) with | .ok x => (x, Except.ok (L.drop (a + 1))) | .error y => (d, Except.error (z :: L.drop (a + 1), y))) = _
    cases f (br z) <;> rfl
  | error x =>
    obtain ⟨h1, h2, _⟩ := h
    rw [if_neg (by rw [h1]; exact h2)]; rfl
theorem bad_still {L : List Tk} {r : R} {a : Nat} {p e x : Int} (h : Fit L r a p e) (he : e ≠ 0) : badR x r = r := by
  cases r with
  | ok l => exact (he h.2.2).elim
  | error y => rfl
theorem want_yes {s : S} {L : List Tk} {r : R} {a : Nat} {p e : Int} {z : Tk} (h : Fit L r a p e) (hz : L[a]? = some z) (hs : isO s (hdR r) = true) : (want s r).2 = Nxt L a ∧ e = 0 ∧ z.kind ≠ 3 := by
  rw [is_of h hz, Bool.and_eq_true, decide_eq_true_eq] at hs
  have h3 : z.kind ≠ 3 := by
    have := hs.2
    simp only [isB, br, Bool.and_eq_true, bne_iff_ne] at this
    exact this.1.1
  refine ⟨?_, hs.1, h3⟩
  unfold want
  rw [tok_at h hz, if_pos hs.1, if_pos hs.2]
theorem want_no {s : S} {L : List Tk} {r : R} {a : Nat} {p e : Int} {z : Tk} (h : Fit L r a p e) (hz : L[a]? = some z) (hs : isO s (hdR r) = false) : (want s r).2 = badR 12 r := by
  rw [is_of h hz] at hs
  unfold want
  rw [tok_at h hz]
  by_cases he : e = 0
  · have : isB s (br z) = false := by simpa [he] using hs
    rw [if_pos he, if_neg (by rw [this]; simp)]
  · rw [if_neg he, bad_still h he]
/-- What a reader leaves. -/
def Left (w0 : World) (os : List Ob) (i b : Nat) (v : Value) (L : List Tk) (r : R) (w' : World) : Prop := ∃ a' p' e', Fit L r a' p' e' ∧ OMem w0 w' (os.set i (pv b v a' p' e'))
section
variable {w0 w : World} {os : List Ob} {i b a : Nat} {v : Value} {p e : Int} {L : List Tk} {r : R}
theorem step_on (h : OMem w0 w os) (hi : os[i]? = some (pv b v a p e)) : OMem w0 (w.setCell ⟨b, 1, none⟩ (.int .i64 ((a + 1 : Nat) : Int))) (os.set i (pv b v (a + 1) p e)) := by
  have := h.raw_set hi 1 (.int .i64 ((a + 1 : Nat) : Int))
  exact this
set_option maxHeartbeats 4000000 in
set_option maxRecDepth 100000 in
theorem y_want (h : OMem w0 w os) (hi : os[i]? = some (pv b v a p e)) (hv : TkAt w0 v L) (hL : L.length ≤ 3000) (hE : Ends L) (hf : Fit L r a p e) (s : S) :
    Calls Tryz.prog 18 #[.pointer (some ⟨b, 0, none⟩), .string (bs s)] w fun x w' => x = .returned (.tuple #[]) ∧ Left w0 os i b v L (want s r).2 w' := by
  have hal := hf.lt
  obtain ⟨z, hz⟩ : ∃ z, L[a]? = some z := ⟨_, List.getElem?_eq_getElem hal⟩
  have H := y_is h hi hv hL hf s
  go_enter Tryz.func18, Tryz.ntmps18
  cases ho : isO s (hdR r) with
  | true =>
    rw [ho] at H
    have H := Lib.hid H
    obtain ⟨k1, k2, k3⟩ := want_yes hf hz ho
    have HF := Lib.hid (show Fit L (want s r).2 (a + 1) p 0 by rw [k1]; exact Fit.next hE hz k3)
    subst k2
    have HM := Lib.hid h
    clear ho k1 hf
    go_wp2_with (go_at_call 22; refine (H.out).mono ?_; rintro e1 w1 ⟨rfl, b1⟩; refine Hid.out ?_)
    refine Lib.hid ?_
    have m1 := HM.out.fresh b1
    have r1 := m1.raw_at hi
    have p0 : (w1).cell? ⟨b, 0, none⟩ = some (v) := by rw [Lib.cell_of_heap r1]; rfl
    have p1 : (w1).cell? ⟨b, 1, none⟩ = some (.int .i64 a) := by rw [Lib.cell_of_heap r1]; rfl
    have p2 : (w1).cell? ⟨b, 2, none⟩ = some (.int .i64 p) := by rw [Lib.cell_of_heap r1]; rfl
    have p3 : (w1).cell? ⟨b, 3, none⟩ = some (.int .i64 (0)) := by rw [Lib.cell_of_heap r1]; rfl
    have hz1 : (w1).frozen? ⟨b, 1, none⟩ = false := Lib.frozen_of_heap r1 1
    clear r1
    have M2 := Lib.hid (step_on m1 hi)
    clear m1 b1 H
    go_wp2
    go_end0
    exact ⟨rfl, _, _, _, HF.out, by simpa using M2.out⟩
  | false =>
    rw [ho] at H
    have H := Lib.hid H
    have HW := Lib.hid (want_no hf hz ho)
    have HM := Lib.hid h
    have HF := Lib.hid hf
    have HV := Lib.hid hv
    clear ho hf
    go_wp2_with (go_at_call 22; refine (H.out).mono ?_; rintro e1 w1 ⟨rfl, b1⟩; refine Hid.out ?_)
    refine Lib.hid ?_
    have H := Lib.hid (y_fail (HM.out.fresh b1) hi HV.out hL HF.out (x := 12) (by decide))
    clear b1
    go_wp2_with (go_at_call 27; refine (H.out).mono ?_; rintro e2 w2 ⟨rfl, p2, e2, f2, m2⟩; refine Hid.out ?_)
    refine Lib.hid ?_
    have F2 := Lib.hid f2
    have M2 := Lib.hid m2
    clear f2 m2
    go_wp2
    (try simp only [Exit.inBlock, Exit.then])
    refine bodyPost_ret (results_none rfl _ _ _) rfl ?_
    exact ⟨rfl, _, _, _, by rw [HW.out]; exact F2.out, M2.out⟩
theorem name_yes {z : Tk} (h : Fit L r a p e) (hz : L[a]? = some z) (he : e = 0) (hk : z.kind = 0) : name r = (z.text, Nxt L a) := by
  unfold name
  rw [tok_at h hz, if_pos he, show (br z).1 = 0 from hk, if_pos rfl]; rfl
theorem name_no {z : Tk} (h : Fit L r a p e) (hz : L[a]? = some z) (hn : ¬ (e = 0 ∧ z.kind = 0)) : name r = ([], badR 12 r) := by
  unfold name
  rw [tok_at h hz]
  by_cases he : e = 0
  · rw [if_pos he, if_neg (show ¬ (br z).1 = 0 from fun q => hn ⟨he, q⟩)]
  · rw [if_neg he, bad_still h he]
set_option maxHeartbeats 4000000 in
set_option maxRecDepth 100000 in
theorem y_name (h : OMem w0 w os) (hi : os[i]? = some (pv b v a p e)) (hv : TkAt w0 v L) (hL : L.length ≤ 3000) (hE : Ends L) (hf : Fit L r a p e) :
    Calls Tryz.prog 19 #[.pointer (some ⟨b, 0, none⟩)] w fun x w' => x = .returned (.string (bs (name r).1)) ∧ Left w0 os i b v L (name r).2 w' := by
  have hal := hf.lt
  obtain ⟨z, hz⟩ : ∃ z, L[a]? = some z := ⟨_, List.getElem?_eq_getElem hal⟩
  have r1 := h.raw_at hi
  have p0 : w.cell? ⟨b, 0, none⟩ = some v := by rw [Lib.cell_of_heap r1]; rfl
  have p1 : w.cell? ⟨b, 1, none⟩ = some (.int .i64 a) := by rw [Lib.cell_of_heap r1]; rfl
  have p2 : w.cell? ⟨b, 2, none⟩ = some (.int .i64 p) := by rw [Lib.cell_of_heap r1]; rfl
  have p3 : w.cell? ⟨b, 3, none⟩ = some (.int .i64 e) := by rw [Lib.cell_of_heap r1]; rfl
  obtain ⟨tb, off, cap, rfl, _, hc⟩ := (hv.keep h.below).form (by omega)
  have tc := hc a z hz
  go_enter Tryz.func19, Tryz.ntmps19
  have S0 : w.cell? ⟨b, 0, none⟩ = some (.slice (some ⟨tb, off, none⟩) L.length cap) ∧ w.cell? ⟨b, 1, none⟩ = some (.int .i64 a) ∧ TkCells w tb (off + a * 4) z := ⟨p0, p1, tc⟩
  have HZ := Lib.hid hz
  have HD := Lib.hid (drop_of hz)
  have hb1 : Below w.heap.size w (w.alloc (.cells #[.int .i64 z.kind, .string (bs z.text), .int .i64 z.n, .int .i64 z.pos] 42)).drew := ((Below.refl w.heap.size w).alloc (Nat.le_refl _) _).drew
  have HB := Lib.hid hb1
  have e1 := below_cell p1 hb1
  have e3 := below_cell p3 hb1
  obtain ⟨t0, t1, t2, -⟩ := tk_new w z
  have t0 := below_cell t0 (below_drew _)
  have t1 := below_cell t1 (below_drew _)
  have t2 := below_cell t2 (below_drew _)
  have HF := Lib.hid hf
  have HV := Lib.hid hv
  have HM := Lib.hid h
  have HI := Lib.hid hi
  have al' : (a : Int) < (L.length : Int) := by omega
  clear hc hz hb1 p0 p1 p2 p3 tc hf hv r1
  go_wp2
  refine region_till 11 (fun wx => wx.cell? ⟨b, 0, none⟩ = some (.slice (some ⟨tb, off, none⟩) L.length cap) ∧ wx.cell? ⟨b, 1, none⟩ = some (.int .i64 a) ∧ TkCells wx tb (off + a * 4) z) (by kernel_rfl) ?_
  refine till_take 0 60 false (v := ?v0) (by kernel_rfl) (by kernel_rfl) (by kernel_rfl) (by kernel_rfl) (by kernel_rfl) (fun _ _ _ h => h) ?hw0 S0 ?hy0 ?rest0
  case hw0 => (simp only [List.getElem?_toArray, List.getElem?_cons_zero, Option.elim]; rfl)
  case hy0 => (simp only [List.getElem?_toArray, List.getElem?_cons_zero, Option.elim]; intro wx _; go_simp; with_reducible rfl)
  simp only [dstOf, List.getElem?_toArray, List.getElem?_cons_zero, Option.bind, Act.put, List.setIfInBounds_toArray, List.set_cons_zero, List.set_cons_succ]
  refine till_take 1 60 false (v := ?v1) (by kernel_rfl) (by kernel_rfl) (by kernel_rfl) (by kernel_rfl) (by kernel_rfl) (fun _ _ _ h => h) ?hw1 S0 ?hy1 ?rest1
  case hw1 => (simp only [List.getElem?_toArray, List.getElem?_cons_zero, List.getElem?_cons_succ, Option.elim]; rfl)
  case hy1 => (simp only [List.getElem?_toArray, List.getElem?_cons_zero, List.getElem?_cons_succ, Option.elim]; intro wx _; go_simp; with_reducible rfl)
  simp only [dstOf, List.getElem?_toArray, List.getElem?_cons_zero, List.getElem?_cons_succ, Option.bind, Act.put, List.setIfInBounds_toArray, List.set_cons_zero, List.set_cons_succ]
  refine till_take 2 60 false (v := ?v2) (by kernel_rfl) (by kernel_rfl) (by kernel_rfl) (by kernel_rfl) (by kernel_rfl) (fun _ _ _ h => h) ?hw2 S0 ?hy2 ?rest2
  case hw2 => (simp only [List.getElem?_toArray, List.getElem?_cons_zero, List.getElem?_cons_succ, Option.elim]; rfl)
  case hy2 => (simp only [List.getElem?_toArray, List.getElem?_cons_zero, List.getElem?_cons_succ, Option.elim]; intro wx _; go_simp; with_reducible rfl)
  simp only [dstOf, List.getElem?_toArray, List.getElem?_cons_zero, List.getElem?_cons_succ, Option.bind, Act.put, List.setIfInBounds_toArray, List.set_cons_zero, List.set_cons_succ]
  refine till_take 3 60 true (v := ?v3) (by kernel_rfl) (by kernel_rfl) (by kernel_rfl) (by kernel_rfl) (by kernel_rfl) (fun _ _ _ h => h) ?hw3 S0 ?hy3 ?rest3
  case hw3 => (simp only [List.getElem?_toArray, List.getElem?_cons_zero, List.getElem?_cons_succ, Option.elim]; rfl)
  case hy3 => (simp only [List.getElem?_toArray, List.getElem?_cons_zero, List.getElem?_cons_succ, Option.elim]; intro wx hx; have x0 := (hx trivial).1; have x1 := (hx trivial).2.1; obtain ⟨y0, y1, y2, y3⟩ := (hx trivial).2.2; go_simp; with_reducible rfl)
  simp only [dstOf, List.getElem?_toArray, List.getElem?_cons_zero, List.getElem?_cons_succ, Option.bind, Act.put, List.setIfInBounds_toArray, List.set_cons_zero, List.set_cons_succ]
  refine till_take 4 60 false (v := ?v4) (by kernel_rfl) (by kernel_rfl) (by kernel_rfl) (by kernel_rfl) (by kernel_rfl) (fun _ _ _ h => h) ?hw4 S0 ?hy4 ?rest4
  case hw4 => (simp only [List.getElem?_toArray, List.getElem?_cons_zero, List.getElem?_cons_succ, Option.elim]; rfl)
  case hy4 => (simp only [List.getElem?_toArray, List.getElem?_cons_zero, List.getElem?_cons_succ, Option.elim]; intro wx _; go_simp; with_reducible rfl)
  simp only [dstOf, List.getElem?_toArray, List.getElem?_cons_zero, List.getElem?_cons_succ, Option.bind, Act.put, List.setIfInBounds_toArray, List.set_cons_zero, List.set_cons_succ]
  refine till_take 5 60 false (v := ?v5) (by kernel_rfl) (by kernel_rfl) (by kernel_rfl) (by kernel_rfl) (by kernel_rfl) (fun _ _ _ h => h) ?hw5 S0 ?hy5 ?rest5
  case hw5 => (simp only [List.getElem?_toArray, List.getElem?_cons_zero, List.getElem?_cons_succ, Option.elim]; rfl)
  case hy5 => (simp only [List.getElem?_toArray, List.getElem?_cons_zero, List.getElem?_cons_succ, Option.elim]; intro wx _; go_simp; with_reducible rfl)
  simp only [dstOf, List.getElem?_toArray, List.getElem?_cons_zero, List.getElem?_cons_succ, Option.bind, Act.put, List.setIfInBounds_toArray, List.set_cons_zero, List.set_cons_succ]
  refine till_take 6 60 false (v := ?v6) (by kernel_rfl) (by kernel_rfl) (by kernel_rfl) (by kernel_rfl) (by kernel_rfl) (fun _ _ _ h => h) ?hw6 S0 ?hy6 ?rest6
  case hw6 => (simp only [List.getElem?_toArray, List.getElem?_cons_zero, List.getElem?_cons_succ, Option.elim]; rfl)
  case hy6 => (simp only [List.getElem?_toArray, List.getElem?_cons_zero, List.getElem?_cons_succ, Option.elim]; intro wx _; go_simp; with_reducible rfl)
  simp only [dstOf, List.getElem?_toArray, List.getElem?_cons_zero, List.getElem?_cons_succ, Option.bind, Act.put, List.setIfInBounds_toArray, List.set_cons_zero, List.set_cons_succ]
  refine till_take 7 60 true (v := ?v7) (by kernel_rfl) (by kernel_rfl) (by kernel_rfl) (by kernel_rfl) (by kernel_rfl) (fun _ _ _ h => h) ?hw7 S0 ?hy7 ?rest7
  case hw7 => (simp only [List.getElem?_toArray, List.getElem?_cons_zero, List.getElem?_cons_succ, Option.elim]; rfl)
  case hy7 => (simp only [List.getElem?_toArray, List.getElem?_cons_zero, List.getElem?_cons_succ, Option.elim]; intro wx hx; have x0 := (hx trivial).1; have x1 := (hx trivial).2.1; obtain ⟨y0, y1, y2, y3⟩ := (hx trivial).2.2; go_simp; with_reducible rfl)
  simp only [dstOf, List.getElem?_toArray, List.getElem?_cons_zero, List.getElem?_cons_succ, Option.bind, Act.put, List.setIfInBounds_toArray, List.set_cons_zero, List.set_cons_succ]
  refine till_take 8 60 false (v := ?v8) (by kernel_rfl) (by kernel_rfl) (by kernel_rfl) (by kernel_rfl) (by kernel_rfl) (fun _ _ _ h => h) ?hw8 S0 ?hy8 ?rest8
  case hw8 => (simp only [List.getElem?_toArray, List.getElem?_cons_zero, List.getElem?_cons_succ, Option.elim]; rfl)
  case hy8 => (simp only [List.getElem?_toArray, List.getElem?_cons_zero, List.getElem?_cons_succ, Option.elim]; intro wx _; go_simp; with_reducible rfl)
  simp only [dstOf, List.getElem?_toArray, List.getElem?_cons_zero, List.getElem?_cons_succ, Option.bind, Act.put, List.setIfInBounds_toArray, List.set_cons_zero, List.set_cons_succ]
  refine till_take 9 60 true (v := ?v9) (by kernel_rfl) (by kernel_rfl) (by kernel_rfl) (by kernel_rfl) (by kernel_rfl) (fun _ _ _ h => h) ?hw9 S0 ?hy9 ?rest9
  case hw9 => (simp only [List.getElem?_toArray, List.getElem?_cons_zero, List.getElem?_cons_succ, Option.elim]; rfl)
  case hy9 => (simp only [List.getElem?_toArray, List.getElem?_cons_zero, List.getElem?_cons_succ, Option.elim]; intro wx hx; have x0 := (hx trivial).1; have x1 := (hx trivial).2.1; obtain ⟨y0, y1, y2, y3⟩ := (hx trivial).2.2; go_simp; with_reducible rfl)
  simp only [dstOf, List.getElem?_toArray, List.getElem?_cons_zero, List.getElem?_cons_succ, Option.bind, Act.put, List.setIfInBounds_toArray, List.set_cons_zero, List.set_cons_succ]
  refine till_before 10 (by kernel_rfl) (fun K hK => ?_)
  simp only [List.getElem?_toArray, List.getElem?_cons_zero, List.getElem?_cons_succ, Option.elim]
  rw [if_pos (by rfl)]
  go_simp
  refine hK.out _ _ (keepS S0) ?_
  clear hK K
  try simp only [Act.put, List.setIfInBounds_toArray, List.set_cons_zero, List.set_cons_succ]
  refine till_step 11 (by kernel_rfl) (by kernel_rfl) (fun K hK => ?_)
  simp only [List.getElem?_toArray, List.getElem?_cons_zero, List.getElem?_cons_succ, Option.elim]
  rw [if_pos (by rfl)]
  go_simp
  refine hK.out _ _ ?_
  clear hK K
  try simp only [Act.put, List.setIfInBounds_toArray, List.set_cons_zero, List.set_cons_succ]
  refine till_end (by kernel_rfl) ?_ _
  clear S0
  by_cases he : e = 0
  · by_cases h0 : z.kind = 0
    · have HN := Lib.hid (name_yes HF.out HZ.out he h0)
      have HG := Lib.hid (Fit.next (p := p) hE HZ.out (by rw [h0]; decide))
      subst he
      have h0' : (z.kind != 0) = false := by simp [bne, h0]
      have mW := HM.out.fresh HB.out
      have r1 := mW.raw_at HI.out
      have p0 : ((w.alloc (.cells #[.int .i64 z.kind, .string (bs z.text), .int .i64 z.n, .int .i64 z.pos] 42)).drew).cell? ⟨b, 0, none⟩ = some (.slice (some ⟨tb, off, none⟩) L.length cap) := by rw [Lib.cell_of_heap r1]; rfl
      have p1 : ((w.alloc (.cells #[.int .i64 z.kind, .string (bs z.text), .int .i64 z.n, .int .i64 z.pos] 42)).drew).cell? ⟨b, 1, none⟩ = some (.int .i64 a) := by rw [Lib.cell_of_heap r1]; rfl
      have p2 : ((w.alloc (.cells #[.int .i64 z.kind, .string (bs z.text), .int .i64 z.n, .int .i64 z.pos] 42)).drew).cell? ⟨b, 2, none⟩ = some (.int .i64 p) := by rw [Lib.cell_of_heap r1]; rfl
      have p3 : ((w.alloc (.cells #[.int .i64 z.kind, .string (bs z.text), .int .i64 z.n, .int .i64 z.pos] 42)).drew).cell? ⟨b, 3, none⟩ = some (.int .i64 (0)) := by rw [Lib.cell_of_heap r1]; rfl
      have hz1 : ((w.alloc (.cells #[.int .i64 z.kind, .string (bs z.text), .int .i64 z.n, .int .i64 z.pos] 42)).drew).frozen? ⟨b, 1, none⟩ = false := Lib.frozen_of_heap r1 1
      clear r1
      have M2 := Lib.hid (show OMem w0 ((w.alloc (.cells #[.int .i64 z.kind, .string (bs z.text), .int .i64 z.n, .int .i64 z.pos] 42)).setCell ⟨b, 1, none⟩ (.int .i64 ((a : Int) + 1))).drew (os.set i (pv b (.slice (some ⟨tb, off, none⟩) L.length cap) (a + 1) p 0)) from step_on mW HI.out)
      have hbl := lt_heap (HM.out.raw_at HI.out)
      have rW : ((w.alloc (.cells #[.int .i64 z.kind, .string (bs z.text), .int .i64 z.n, .int .i64 z.pos] 42)).setCell ⟨b, 1, none⟩ (.int .i64 ((a : Int) + 1))).drew.heap[w.heap.size]? = some (.cells #[.int .i64 z.kind, .string (bs z.text), .int .i64 z.n, .int .i64 z.pos] 42 (0, 0)) := (set_other (w := w.alloc (.cells #[.int .i64 z.kind, .string (bs z.text), .int .i64 z.n, .int .i64 z.pos] 42)) (by show w.heap.size ≠ b; omega)).trans (MapKept.heap_alloc w _).1
      have u1 : ((w.alloc (.cells #[.int .i64 z.kind, .string (bs z.text), .int .i64 z.n, .int .i64 z.pos] 42)).setCell ⟨b, 1, none⟩ (.int .i64 ((a : Int) + 1))).drew.cell? ⟨w.heap.size, 1, none⟩ = some (.string (bs z.text)) := by rw [Lib.cell_of_heap rW]; rfl
      have u2 : ((w.alloc (.cells #[.int .i64 z.kind, .string (bs z.text), .int .i64 z.n, .int .i64 z.pos] 42)).setCell ⟨b, 1, none⟩ (.int .i64 ((a : Int) + 1))).drew.cell? ⟨w.heap.size, 2, none⟩ = some (.int .i64 z.n) := by rw [Lib.cell_of_heap rW]; rfl
      clear mW rW hbl
      clear h0
      go_wp2
      go_ret
      exact ⟨by rw [HN.out]; rfl, _, _, _, by rw [HN.out]; exact HG.out, by simpa using M2.out⟩
    · have HN := Lib.hid (name_no HF.out HZ.out (fun q => h0 q.2))
      have h0' : (z.kind != 0) = true := by simp [bne, beq_eq_false_iff_ne.2 h0]
      clear h0
      subst he
      have H := Lib.hid (y_fail (HM.out.fresh HB.out) HI.out HV.out hL HF.out (x := 12) (by decide))
      go_wp2_with (go_at_call 27; refine (H.out).mono ?_; rintro e2 w2 ⟨rfl, p2, e2, f2, m2⟩; refine Hid.out ?_)
      refine Lib.hid ?_
      have F2 := Lib.hid f2
      have M2 := Lib.hid m2
      clear f2 m2
      go_wp2
      go_ret
      exact ⟨by rw [HN.out]; rfl, _, _, _, by rw [HN.out]; exact F2.out, M2.out⟩
  · have HN := Lib.hid (name_no HF.out HZ.out (fun q => he q.1))
    have he' : (e != 0) = true := by simp [bne, beq_eq_false_iff_ne.2 he]
    clear he
    have H := Lib.hid (y_fail (HM.out.fresh HB.out) HI.out HV.out hL HF.out (x := 12) (by decide))
    go_wp2_with (go_at_call 27; refine (H.out).mono ?_; rintro e2 w2 ⟨rfl, p2, e2, f2, m2⟩; refine Hid.out ?_)
    refine Lib.hid ?_
    have F2 := Lib.hid f2
    have M2 := Lib.hid m2
    clear f2 m2
    go_wp2
    go_ret
    exact ⟨by rw [HN.out]; rfl, _, _, _, by rw [HN.out]; exact F2.out, M2.out⟩
theorem number_yes {k : Int} {z : Tk} (h : Fit L r a p e) (hz : L[a]? = some z) (he : e = 0) (hk : z.kind = 1) (hn : k ≤ z.n ∧ z.n ≤ 1073741824) : number k r = (z.n, Nxt L a) := by
  unfold number
  rw [tok_at h hz, if_pos he, if_pos (show (br z).1 = 1 from hk), if_pos (show k ≤ (br z).2.2 ∧ (br z).2.2 ≤ 1073741824 from hn)]; rfl
theorem number_far {k : Int} {z : Tk} (h : Fit L r a p e) (hz : L[a]? = some z) (he : e = 0) (hk : z.kind = 1) (hn : ¬ (k ≤ z.n ∧ z.n ≤ 1073741824)) : number k r = (0, badR 3 r) := by
  unfold number
  rw [tok_at h hz, if_pos he, if_pos (show (br z).1 = 1 from hk), if_neg (show ¬ (k ≤ (br z).2.2 ∧ (br z).2.2 ≤ 1073741824) from hn)]
theorem number_no {k : Int} {z : Tk} (h : Fit L r a p e) (hz : L[a]? = some z) (hn : ¬ (e = 0 ∧ z.kind = 1)) : number k r = (0, badR 12 r) := by
  unfold number
  rw [tok_at h hz]
  by_cases he : e = 0
  · rw [if_pos he, if_neg (show ¬ (br z).1 = 1 from fun q => hn ⟨he, q⟩)]
  · rw [if_neg he, bad_still h he]
set_option maxHeartbeats 4000000 in
set_option maxRecDepth 100000 in
theorem y_number {k : Int} (h : OMem w0 w os) (hi : os[i]? = some (pv b v a p e)) (hv : TkAt w0 v L) (hL : L.length ≤ 3000) (hE : Ends L) (hf : Fit L r a p e) :
    Calls Tryz.prog 23 #[.pointer (some ⟨b, 0, none⟩), .int .i64 k] w fun x w' => x = .returned (.int .i64 (number k r).1) ∧ Left w0 os i b v L (number k r).2 w' := by
  have hal := hf.lt
  obtain ⟨z, hz⟩ : ∃ z, L[a]? = some z := ⟨_, List.getElem?_eq_getElem hal⟩
  have r1 := h.raw_at hi
  have p0 : w.cell? ⟨b, 0, none⟩ = some v := by rw [Lib.cell_of_heap r1]; rfl
  have p1 : w.cell? ⟨b, 1, none⟩ = some (.int .i64 a) := by rw [Lib.cell_of_heap r1]; rfl
  have p2 : w.cell? ⟨b, 2, none⟩ = some (.int .i64 p) := by rw [Lib.cell_of_heap r1]; rfl
  have p3 : w.cell? ⟨b, 3, none⟩ = some (.int .i64 e) := by rw [Lib.cell_of_heap r1]; rfl
  obtain ⟨tb, off, cap, rfl, _, hc⟩ := (hv.keep h.below).form (by omega)
  have tc := hc a z hz
  go_enter Tryz.func23, Tryz.ntmps23
  have S0 : w.cell? ⟨b, 0, none⟩ = some (.slice (some ⟨tb, off, none⟩) L.length cap) ∧ w.cell? ⟨b, 1, none⟩ = some (.int .i64 a) ∧ TkCells w tb (off + a * 4) z := ⟨p0, p1, tc⟩
  have HZ := Lib.hid hz
  have HD := Lib.hid (drop_of hz)
  have hb1 : Below w.heap.size w (w.alloc (.cells #[.int .i64 z.kind, .string (bs z.text), .int .i64 z.n, .int .i64 z.pos] 42)).drew := ((Below.refl w.heap.size w).alloc (Nat.le_refl _) _).drew
  have HB := Lib.hid hb1
  have e1 := below_cell p1 hb1
  have e3 := below_cell p3 hb1
  obtain ⟨t0, t1, t2, -⟩ := tk_new w z
  have t0 := below_cell t0 (below_drew _)
  have t1 := below_cell t1 (below_drew _)
  have t2 := below_cell t2 (below_drew _)
  have HF := Lib.hid hf
  have HV := Lib.hid hv
  have HM := Lib.hid h
  have HI := Lib.hid hi
  have al' : (a : Int) < (L.length : Int) := by omega
  clear hc hz hb1 p0 p1 p2 p3 tc hf hv r1
  go_wp2
  refine region_till 11 (fun wx => wx.cell? ⟨b, 0, none⟩ = some (.slice (some ⟨tb, off, none⟩) L.length cap) ∧ wx.cell? ⟨b, 1, none⟩ = some (.int .i64 a) ∧ TkCells wx tb (off + a * 4) z) (by kernel_rfl) ?_
  refine till_take 0 60 false (v := ?v0) (by kernel_rfl) (by kernel_rfl) (by kernel_rfl) (by kernel_rfl) (by kernel_rfl) (fun _ _ _ h => h) ?hw0 S0 ?hy0 ?rest0
  case hw0 => (simp only [List.getElem?_toArray, List.getElem?_cons_zero, Option.elim]; rfl)
  case hy0 => (simp only [List.getElem?_toArray, List.getElem?_cons_zero, Option.elim]; intro wx _; go_simp; with_reducible rfl)
  simp only [dstOf, List.getElem?_toArray, List.getElem?_cons_zero, Option.bind, Act.put, List.setIfInBounds_toArray, List.set_cons_zero, List.set_cons_succ]
  refine till_take 1 60 false (v := ?v1) (by kernel_rfl) (by kernel_rfl) (by kernel_rfl) (by kernel_rfl) (by kernel_rfl) (fun _ _ _ h => h) ?hw1 S0 ?hy1 ?rest1
  case hw1 => (simp only [List.getElem?_toArray, List.getElem?_cons_zero, List.getElem?_cons_succ, Option.elim]; rfl)
  case hy1 => (simp only [List.getElem?_toArray, List.getElem?_cons_zero, List.getElem?_cons_succ, Option.elim]; intro wx _; go_simp; with_reducible rfl)
  simp only [dstOf, List.getElem?_toArray, List.getElem?_cons_zero, List.getElem?_cons_succ, Option.bind, Act.put, List.setIfInBounds_toArray, List.set_cons_zero, List.set_cons_succ]
  refine till_take 2 60 false (v := ?v2) (by kernel_rfl) (by kernel_rfl) (by kernel_rfl) (by kernel_rfl) (by kernel_rfl) (fun _ _ _ h => h) ?hw2 S0 ?hy2 ?rest2
  case hw2 => (simp only [List.getElem?_toArray, List.getElem?_cons_zero, List.getElem?_cons_succ, Option.elim]; rfl)
  case hy2 => (simp only [List.getElem?_toArray, List.getElem?_cons_zero, List.getElem?_cons_succ, Option.elim]; intro wx _; go_simp; with_reducible rfl)
  simp only [dstOf, List.getElem?_toArray, List.getElem?_cons_zero, List.getElem?_cons_succ, Option.bind, Act.put, List.setIfInBounds_toArray, List.set_cons_zero, List.set_cons_succ]
  refine till_take 3 60 true (v := ?v3) (by kernel_rfl) (by kernel_rfl) (by kernel_rfl) (by kernel_rfl) (by kernel_rfl) (fun _ _ _ h => h) ?hw3 S0 ?hy3 ?rest3
  case hw3 => (simp only [List.getElem?_toArray, List.getElem?_cons_zero, List.getElem?_cons_succ, Option.elim]; rfl)
  case hy3 => (simp only [List.getElem?_toArray, List.getElem?_cons_zero, List.getElem?_cons_succ, Option.elim]; intro wx hx; have x0 := (hx trivial).1; have x1 := (hx trivial).2.1; obtain ⟨y0, y1, y2, y3⟩ := (hx trivial).2.2; go_simp; with_reducible rfl)
  simp only [dstOf, List.getElem?_toArray, List.getElem?_cons_zero, List.getElem?_cons_succ, Option.bind, Act.put, List.setIfInBounds_toArray, List.set_cons_zero, List.set_cons_succ]
  refine till_take 4 60 false (v := ?v4) (by kernel_rfl) (by kernel_rfl) (by kernel_rfl) (by kernel_rfl) (by kernel_rfl) (fun _ _ _ h => h) ?hw4 S0 ?hy4 ?rest4
  case hw4 => (simp only [List.getElem?_toArray, List.getElem?_cons_zero, List.getElem?_cons_succ, Option.elim]; rfl)
  case hy4 => (simp only [List.getElem?_toArray, List.getElem?_cons_zero, List.getElem?_cons_succ, Option.elim]; intro wx _; go_simp; with_reducible rfl)
  simp only [dstOf, List.getElem?_toArray, List.getElem?_cons_zero, List.getElem?_cons_succ, Option.bind, Act.put, List.setIfInBounds_toArray, List.set_cons_zero, List.set_cons_succ]
  refine till_take 5 60 false (v := ?v5) (by kernel_rfl) (by kernel_rfl) (by kernel_rfl) (by kernel_rfl) (by kernel_rfl) (fun _ _ _ h => h) ?hw5 S0 ?hy5 ?rest5
  case hw5 => (simp only [List.getElem?_toArray, List.getElem?_cons_zero, List.getElem?_cons_succ, Option.elim]; rfl)
  case hy5 => (simp only [List.getElem?_toArray, List.getElem?_cons_zero, List.getElem?_cons_succ, Option.elim]; intro wx _; go_simp; with_reducible rfl)
  simp only [dstOf, List.getElem?_toArray, List.getElem?_cons_zero, List.getElem?_cons_succ, Option.bind, Act.put, List.setIfInBounds_toArray, List.set_cons_zero, List.set_cons_succ]
  refine till_take 6 60 false (v := ?v6) (by kernel_rfl) (by kernel_rfl) (by kernel_rfl) (by kernel_rfl) (by kernel_rfl) (fun _ _ _ h => h) ?hw6 S0 ?hy6 ?rest6
  case hw6 => (simp only [List.getElem?_toArray, List.getElem?_cons_zero, List.getElem?_cons_succ, Option.elim]; rfl)
  case hy6 => (simp only [List.getElem?_toArray, List.getElem?_cons_zero, List.getElem?_cons_succ, Option.elim]; intro wx _; go_simp; with_reducible rfl)
  simp only [dstOf, List.getElem?_toArray, List.getElem?_cons_zero, List.getElem?_cons_succ, Option.bind, Act.put, List.setIfInBounds_toArray, List.set_cons_zero, List.set_cons_succ]
  refine till_take 7 60 true (v := ?v7) (by kernel_rfl) (by kernel_rfl) (by kernel_rfl) (by kernel_rfl) (by kernel_rfl) (fun _ _ _ h => h) ?hw7 S0 ?hy7 ?rest7
  case hw7 => (simp only [List.getElem?_toArray, List.getElem?_cons_zero, List.getElem?_cons_succ, Option.elim]; rfl)
  case hy7 => (simp only [List.getElem?_toArray, List.getElem?_cons_zero, List.getElem?_cons_succ, Option.elim]; intro wx hx; have x0 := (hx trivial).1; have x1 := (hx trivial).2.1; obtain ⟨y0, y1, y2, y3⟩ := (hx trivial).2.2; go_simp; with_reducible rfl)
  simp only [dstOf, List.getElem?_toArray, List.getElem?_cons_zero, List.getElem?_cons_succ, Option.bind, Act.put, List.setIfInBounds_toArray, List.set_cons_zero, List.set_cons_succ]
  refine till_take 8 60 false (v := ?v8) (by kernel_rfl) (by kernel_rfl) (by kernel_rfl) (by kernel_rfl) (by kernel_rfl) (fun _ _ _ h => h) ?hw8 S0 ?hy8 ?rest8
  case hw8 => (simp only [List.getElem?_toArray, List.getElem?_cons_zero, List.getElem?_cons_succ, Option.elim]; rfl)
  case hy8 => (simp only [List.getElem?_toArray, List.getElem?_cons_zero, List.getElem?_cons_succ, Option.elim]; intro wx _; go_simp; with_reducible rfl)
  simp only [dstOf, List.getElem?_toArray, List.getElem?_cons_zero, List.getElem?_cons_succ, Option.bind, Act.put, List.setIfInBounds_toArray, List.set_cons_zero, List.set_cons_succ]
  refine till_take 9 60 true (v := ?v9) (by kernel_rfl) (by kernel_rfl) (by kernel_rfl) (by kernel_rfl) (by kernel_rfl) (fun _ _ _ h => h) ?hw9 S0 ?hy9 ?rest9
  case hw9 => (simp only [List.getElem?_toArray, List.getElem?_cons_zero, List.getElem?_cons_succ, Option.elim]; rfl)
  case hy9 => (simp only [List.getElem?_toArray, List.getElem?_cons_zero, List.getElem?_cons_succ, Option.elim]; intro wx hx; have x0 := (hx trivial).1; have x1 := (hx trivial).2.1; obtain ⟨y0, y1, y2, y3⟩ := (hx trivial).2.2; go_simp; with_reducible rfl)
  simp only [dstOf, List.getElem?_toArray, List.getElem?_cons_zero, List.getElem?_cons_succ, Option.bind, Act.put, List.setIfInBounds_toArray, List.set_cons_zero, List.set_cons_succ]
  refine till_before 10 (by kernel_rfl) (fun K hK => ?_)
  simp only [List.getElem?_toArray, List.getElem?_cons_zero, List.getElem?_cons_succ, Option.elim]
  rw [if_pos (by rfl)]
  go_simp
  refine hK.out _ _ (keepS S0) ?_
  clear hK K
  try simp only [Act.put, List.setIfInBounds_toArray, List.set_cons_zero, List.set_cons_succ]
  refine till_step 11 (by kernel_rfl) (by kernel_rfl) (fun K hK => ?_)
  simp only [List.getElem?_toArray, List.getElem?_cons_zero, List.getElem?_cons_succ, Option.elim]
  rw [if_pos (by rfl)]
  go_simp
  refine hK.out _ _ ?_
  clear hK K
  try simp only [Act.put, List.setIfInBounds_toArray, List.set_cons_zero, List.set_cons_succ]
  refine till_end (by kernel_rfl) ?_ _
  clear S0
  by_cases he : e = 0
  · by_cases h0 : z.kind = 1
    · have h0' : (z.kind != 1) = false := by simp [bne, h0]
      by_cases hk : z.n < k
      · have HN := Lib.hid (number_far (k := k) HF.out HZ.out he h0 (by omega))
        clear h0
        subst he
        have H := Lib.hid (y_fail (HM.out.fresh HB.out) HI.out HV.out hL HF.out (x := 3) (by decide))
        go_wp2_with (go_at_call 27; refine (H.out).mono ?_; rintro e2 w2 ⟨rfl, p2, e2, f2, m2⟩; refine Hid.out ?_)
        refine Lib.hid ?_
        have F2 := Lib.hid f2
        have M2 := Lib.hid m2
        clear f2 m2
        go_wp2
        go_ret
        exact ⟨by rw [HN.out]; rfl, _, _, _, by rw [HN.out]; exact F2.out, M2.out⟩
      · by_cases hk2 : 1073741824 < z.n
        · have HN := Lib.hid (number_far (k := k) HF.out HZ.out he h0 (by omega))
          clear h0
          subst he
          have H := Lib.hid (y_fail (HM.out.fresh HB.out) HI.out HV.out hL HF.out (x := 3) (by decide))
          go_wp2_with (go_at_call 27; refine (H.out).mono ?_; rintro e2 w2 ⟨rfl, p2, e2, f2, m2⟩; refine Hid.out ?_)
          refine Lib.hid ?_
          have F2 := Lib.hid f2
          have M2 := Lib.hid m2
          clear f2 m2
          go_wp2
          go_ret
          exact ⟨by rw [HN.out]; rfl, _, _, _, by rw [HN.out]; exact F2.out, M2.out⟩
        · have HN := Lib.hid (number_yes (k := k) HF.out HZ.out he h0 (by omega))
          have HG := Lib.hid (Fit.next (p := p) hE HZ.out (by rw [h0]; decide))
          subst he
          have mW := HM.out.fresh HB.out
          have r1 := mW.raw_at HI.out
          have p0 : ((w.alloc (.cells #[.int .i64 z.kind, .string (bs z.text), .int .i64 z.n, .int .i64 z.pos] 42)).drew).cell? ⟨b, 0, none⟩ = some (.slice (some ⟨tb, off, none⟩) L.length cap) := by rw [Lib.cell_of_heap r1]; rfl
          have p1 : ((w.alloc (.cells #[.int .i64 z.kind, .string (bs z.text), .int .i64 z.n, .int .i64 z.pos] 42)).drew).cell? ⟨b, 1, none⟩ = some (.int .i64 a) := by rw [Lib.cell_of_heap r1]; rfl
          have p2 : ((w.alloc (.cells #[.int .i64 z.kind, .string (bs z.text), .int .i64 z.n, .int .i64 z.pos] 42)).drew).cell? ⟨b, 2, none⟩ = some (.int .i64 p) := by rw [Lib.cell_of_heap r1]; rfl
          have p3 : ((w.alloc (.cells #[.int .i64 z.kind, .string (bs z.text), .int .i64 z.n, .int .i64 z.pos] 42)).drew).cell? ⟨b, 3, none⟩ = some (.int .i64 (0)) := by rw [Lib.cell_of_heap r1]; rfl
          have hz1 : ((w.alloc (.cells #[.int .i64 z.kind, .string (bs z.text), .int .i64 z.n, .int .i64 z.pos] 42)).drew).frozen? ⟨b, 1, none⟩ = false := Lib.frozen_of_heap r1 1
          clear r1
          have M2 := Lib.hid (show OMem w0 ((w.alloc (.cells #[.int .i64 z.kind, .string (bs z.text), .int .i64 z.n, .int .i64 z.pos] 42)).setCell ⟨b, 1, none⟩ (.int .i64 ((a : Int) + 1))).drew (os.set i (pv b (.slice (some ⟨tb, off, none⟩) L.length cap) (a + 1) p 0)) from step_on mW HI.out)
          have hbl := lt_heap (HM.out.raw_at HI.out)
          have rW : ((w.alloc (.cells #[.int .i64 z.kind, .string (bs z.text), .int .i64 z.n, .int .i64 z.pos] 42)).setCell ⟨b, 1, none⟩ (.int .i64 ((a : Int) + 1))).drew.heap[w.heap.size]? = some (.cells #[.int .i64 z.kind, .string (bs z.text), .int .i64 z.n, .int .i64 z.pos] 42 (0, 0)) := (set_other (w := w.alloc (.cells #[.int .i64 z.kind, .string (bs z.text), .int .i64 z.n, .int .i64 z.pos] 42)) (by show w.heap.size ≠ b; omega)).trans (MapKept.heap_alloc w _).1
          have u1 : ((w.alloc (.cells #[.int .i64 z.kind, .string (bs z.text), .int .i64 z.n, .int .i64 z.pos] 42)).setCell ⟨b, 1, none⟩ (.int .i64 ((a : Int) + 1))).drew.cell? ⟨w.heap.size, 1, none⟩ = some (.string (bs z.text)) := by rw [Lib.cell_of_heap rW]; rfl
          have u2 : ((w.alloc (.cells #[.int .i64 z.kind, .string (bs z.text), .int .i64 z.n, .int .i64 z.pos] 42)).setCell ⟨b, 1, none⟩ (.int .i64 ((a : Int) + 1))).drew.cell? ⟨w.heap.size, 2, none⟩ = some (.int .i64 z.n) := by rw [Lib.cell_of_heap rW]; rfl
          clear mW rW hbl
          clear h0
          go_wp2
          go_ret
          exact ⟨by rw [HN.out]; rfl, _, _, _, by rw [HN.out]; exact HG.out, by simpa using M2.out⟩
    · have HN := Lib.hid (number_no (k := k) HF.out HZ.out (fun q => h0 q.2))
      have h0' : (z.kind != 1) = true := by simp [bne, beq_eq_false_iff_ne.2 h0]
      clear h0
      subst he
      have H := Lib.hid (y_fail (HM.out.fresh HB.out) HI.out HV.out hL HF.out (x := 12) (by decide))
      go_wp2_with (go_at_call 27; refine (H.out).mono ?_; rintro e2 w2 ⟨rfl, p2, e2, f2, m2⟩; refine Hid.out ?_)
      refine Lib.hid ?_
      have F2 := Lib.hid f2
      have M2 := Lib.hid m2
      clear f2 m2
      go_wp2
      go_ret
      exact ⟨by rw [HN.out]; rfl, _, _, _, by rw [HN.out]; exact F2.out, M2.out⟩
  · have HN := Lib.hid (number_no (k := k) HF.out HZ.out (fun q => he q.1))
    have he' : (e != 0) = true := by simp [bne, beq_eq_false_iff_ne.2 he]
    clear he
    have H := Lib.hid (y_fail (HM.out.fresh HB.out) HI.out HV.out hL HF.out (x := 12) (by decide))
    go_wp2_with (go_at_call 27; refine (H.out).mono ?_; rintro e2 w2 ⟨rfl, p2, e2, f2, m2⟩; refine Hid.out ?_)
    refine Lib.hid ?_
    have F2 := Lib.hid f2
    have M2 := Lib.hid m2
    clear f2 m2
    go_wp2
    go_ret
    exact ⟨by rw [HN.out]; rfl, _, _, _, by rw [HN.out]; exact F2.out, M2.out⟩
end
end Go.Proofs.YtlefgffnjcmfoaaGreatDoor
namespace Go.Proofs.YtlefgffnjcmfoaaGreatDoor
open Go.RowKit Go.Maps Go.ChangeMaps Go.MapKept
open Lx Sy
attribute [local go_sem ↓] Go.wp_at_zero Go.wp_at_succ
section
variable {w0 w : World} {os : List Ob} {i b a : Nat} {v : Value} {p e : Int} {L : List Tk} {r : R}
theorem one_yes {ws : List S} {k : Nat} {s : S} {z : Tk} (h : Fit L r a p e) (hz : L[a]? = some z) (hk : ws[k]? = some s) (hb : ∀ t ∈ ws.take k, isO t (hdR r) = false) (hs : isO s (hdR r) = true) :
    one ws r = ((k : Int), Nxt L a) ∧ e = 0 ∧ z.kind ≠ 3 := by
  obtain ⟨_, q2, q3⟩ := want_yes h hz hs
  refine ⟨?_, q2, q3⟩
  obtain ⟨hl, hx⟩ := List.getElem?_eq_some_iff.1 hk
  rw [is_of h hz, Bool.and_eq_true] at hs
  have hf : find ws (br z) = some k := by
    refine List.findIdx?_eq_some_iff_getElem.2 ⟨hl, by rw [hx]; exact hs.2, fun j hj => ?_⟩
    have h1 := hb ws[j] (by
      have : (ws.take k)[j]? = some ws[j] := by rw [List.getElem?_take_of_lt hj, List.getElem?_eq_getElem]
      exact List.mem_of_getElem? this)
    rw [is_of h hz] at h1
    have : isB ws[j] (br z) = false := by simpa [q2] using h1
    rw [this]; simp
  unfold one
  rw [tok_at h hz, if_pos q2, hf]
theorem one_no {ws : List S} {z : Tk} (h : Fit L r a p e) (hz : L[a]? = some z) (hb : ∀ t ∈ ws, isO t (hdR r) = false) : one ws r = (0, badR 12 r) := by
  unfold one
  rw [tok_at h hz]
  by_cases he : e = 0
  · have hf : find ws (br z) = none := by
      refine List.findIdx?_eq_none_iff.2 fun t ht => ?_
      have h1 := hb t ht
      rw [is_of h hz] at h1
      simpa [he] using h1
    rw [if_pos he, hf]
  · rw [if_neg he, bad_still h he]
theorem take_no {ws : List S} {k : Nat} {s : S} {q : S → Bool} (hk : ws[k]? = some s) (hb : ∀ t ∈ ws.take k, q t = false) (hs : q s = false) : ∀ t ∈ ws.take (k + 1), q t = false := by
  intro t ht
  rw [List.take_add_one, hk] at ht
  rcases List.mem_append.1 ht with h | h
  · exact hb t h
  · simp at h; subst h; exact hs
set_option maxHeartbeats 4000000 in
set_option maxRecDepth 100000 in
theorem y_one {u : Value} {ws : List S} (h : OMem w0 w os) (hi : os[i]? = some (pv b v a p e)) (hv : TkAt w0 v L) (hL : L.length ≤ 3000) (hE : Ends L) (hf : Fit L r a p e) (hu : TxAt w u ws) (hw : ws.length ≤ 100) :
    Calls Tryz.prog 20 #[.pointer (some ⟨b, 0, none⟩), u] w fun x w' => x = .returned (.int .i64 (one ws r).1) ∧ Left w0 os i b v L (one ws r).2 w' := by
  have hal := hf.lt
  obtain ⟨z, hz⟩ : ∃ z, L[a]? = some z := ⟨_, List.getElem?_eq_getElem hal⟩
  have HZ := Lib.hid hz
  have HM := Lib.hid h
  have HI := Lib.hid hi
  have HV := Lib.hid hv
  have HF := Lib.hid hf
  have HU := Lib.hid hu
  obtain ⟨ua, uc, rfl⟩ := hu.slice
  clear h hi hv hf hu hz
  go_enter Tryz.func20, Tryz.ntmps20
  go_wp2
  go_loopw [5] (fun k wr => ∃ n : Nat, n ≤ ws.length ∧ k = .int .i64 n ∧ Hid (∀ t ∈ ws.take n, isO t (hdR r) = false) ∧ Hid (Below w.heap.size w wr)) (fun k _ => ws.length - (intOf k).toNat)
  case atStart => exact ⟨0, Nat.zero_le _, rfl, Lib.hid (by simp), Lib.hid (Below.refl _ _)⟩
  case round =>
    obtain ⟨n, hn, rfl, HT, HB⟩ := hrel
    by_cases hlt : n < ws.length
    · obtain ⟨s, hs⟩ : ∃ s, ws[n]? = some s := ⟨_, List.getElem?_eq_getElem hlt⟩
      have HS := Lib.hid hs
      obtain ⟨g, off, cap, h1, _, hc⟩ := (HU.out.keep HB.out).form (by omega)
      cases h1
      have c0 := hc n s hs
      have H := y_is (HM.out.fresh HB.out) HI.out HV.out hL HF.out s
      clear hc hs
      cases ho : isO s (hdR r) with
      | true =>
        rw [ho] at H
        have H := Lib.hid H
        obtain ⟨q1, q2, q3⟩ := one_yes HF.out HZ.out HS.out HT.out ho
        have HG := Lib.hid (Fit.next (p := p) hE HZ.out q3)
        have HO := Lib.hid q1
        subst q2
        clear q1 ho
        go_wp2_with (go_at_call 22; refine (H.out).mono ?_; rintro e1 w1 ⟨rfl, b1⟩; refine Hid.out ?_)
        refine Lib.hid ?_
        have m1 := (HM.out.fresh HB.out).fresh b1
        have r1 := m1.raw_at HI.out
        have p0 : (w1).cell? ⟨b, 0, none⟩ = some (v) := by rw [Lib.cell_of_heap r1]; rfl
        have p1 : (w1).cell? ⟨b, 1, none⟩ = some (.int .i64 a) := by rw [Lib.cell_of_heap r1]; rfl
        have hz1 : (w1).frozen? ⟨b, 1, none⟩ = false := Lib.frozen_of_heap r1 1
        clear r1
        have M2 := Lib.hid (step_on m1 HI.out)
        clear m1 b1 H
        go_wp2
        go_ret
        exact ⟨by rw [HO.out]; rfl, _, _, _, by rw [HO.out]; exact HG.out, by simpa using M2.out⟩
      | false =>
        rw [ho] at H
        have H := Lib.hid H
        have HT2 := Lib.hid (take_no HS.out HT.out ho)
        clear ho
        go_wp2_with (go_at_call 22; refine (H.out).mono ?_; rintro e1 w1 ⟨rfl, b1⟩; refine Hid.out ?_)
        refine Lib.hid ?_
        have HB := Lib.hid (HB.out.trans (b1.mono HB.out.size))
        clear b1 c0 H
        go_wp2
        go_roundw
        case rel => exact ⟨n + 1, by omega, by go_num, HT2, HB⟩
        case measure => simp [intOf]; omega
    · obtain rfl : n = ws.length := by omega
      have HO := Lib.hid (one_no HF.out HZ.out (by have := HT.out; rwa [List.take_length] at this))
      have H := Lib.hid (y_fail (HM.out.fresh HB.out) HI.out HV.out hL HF.out (x := 12) (by decide))
      go_wp2_with (go_at_call 27; refine (H.out).mono ?_; rintro e2 w2 ⟨rfl, p2, e2, f2, m2⟩; refine Hid.out ?_)
      refine Lib.hid ?_
      have F2 := Lib.hid f2
      have M2 := Lib.hid m2
      clear f2 m2
      go_wp2
      go_ret
      exact ⟨by rw [HO.out]; rfl, _, _, _, by rw [HO.out]; exact F2.out, M2.out⟩
/-! ### From what the one before leaves -/
theorem Left.put {x : Ob} {r' : R} {w' : World} (h : Left w0 (os.set i x) i b v L r' w') : Left w0 os i b v L r' w' := by
  obtain ⟨a', p', e', h1, h2⟩ := h
  exact ⟨a', p', e', h1, by rwa [List.set_set] at h2⟩
theorem Left.drop {X : Ob} {w' : World} (hil : i < os.length) (h : Left w0 (os ++ [X]) i b v L r w') : Left w0 os i b v L r w' := by
  obtain ⟨a', p', e', h1, h2⟩ := h
  refine ⟨a', p', e', h1, ?_⟩
  rw [List.set_append_left _ _ hil] at h2
  have := h2.take os.length
  rw [List.take_append_of_le_length (by simp), List.take_of_length_le (by simp)] at this
  exact this
theorem Left.raw {o : Obj} (hil : i < os.length) (h : Left w0 os i b v L r w) : Left w0 (os ++ [.raw w.heap.size o]) i b v L r (w.alloc o) := by
  obtain ⟨a', p', e', h1, h2⟩ := h
  refine ⟨a', p', e', h1, ?_⟩
  rw [List.set_append_left _ _ hil]
  exact h2.raw o
theorem Left.last {ub : Nat} {o : Obj} (hil : i < os.length) (h : Left w0 (os ++ [.raw ub o]) i b v L r w) : w.heap[ub]? = some o := by
  obtain ⟨a', p', e', h1, h2⟩ := h
  rw [List.set_append_left _ _ hil] at h2
  exact h2.raw_at (i := os.length) (by rw [List.getElem?_append_right (by simp)]; simp)
theorem Left.fresh {w' : World} (h : Left w0 os i b v L r w) (hb : Below w.heap.size w w') : Left w0 os i b v L r w' := by
  obtain ⟨a', p', e', h1, h2⟩ := h
  exact ⟨a', p', e', h1, h2.fresh hb⟩
theorem Left.below {w' : World} (h : Left w0 os i b v L r w') : Below w0.heap.size w0 w' := by obtain ⟨_, _, _, _, h2⟩ := h; exact h2.below
/-- A literal list of words. -/
def wordsO (ws : List S) : Obj := .cells (txVs ws).toArray 9 (0, 0)
theorem tx_of {ub : Nat} {ws : List S} (h : w.heap[ub]? = some (wordsO ws)) : TxAt w (.slice (some ⟨ub, 0, none⟩) ws.length ws.length) ws := by
  refine ⟨_, _, rfl, ⟨Nat.le_refl _, fun e => by cases e⟩, fun k z hk => ⟨ub, 0, rfl, ?_⟩⟩
  rw [Lib.cell_of_heap h]
  simp [txVs, hk]
variable (hil : i < os.length) (hv : TkAt w0 v L) (hL : L.length ≤ 3000) (hE : Ends L)
include hil
theorem Left.at_ {x : Ob} : (os.set i x)[i]? = some x := List.getElem?_set_self hil
include hv hL
theorem l_is (h : Left w0 os i b v L r w) (s : S) : Calls Tryz.prog 22 #[.pointer (some ⟨b, 0, none⟩), .string (bs s)] w fun x w' => x = .returned (.bool (isO s (hdR r))) ∧ Left w0 os i b v L r w' := by
  obtain ⟨a', p', e', h1, h2⟩ := h
  refine (y_is h2 (Left.at_ hil) hv hL h1 s).mono ?_
  rintro x w' ⟨q1, q2⟩
  exact ⟨q1, a', p', e', h1, h2.fresh q2⟩
include hE
theorem l_want (h : Left w0 os i b v L r w) (s : S) : Calls Tryz.prog 18 #[.pointer (some ⟨b, 0, none⟩), .string (bs s)] w fun x w' => x = .returned (.tuple #[]) ∧ Left w0 os i b v L (want s r).2 w' := by
  obtain ⟨a', p', e', h1, h2⟩ := h
  refine (y_want h2 (Left.at_ hil) hv hL hE h1 s).mono ?_
  rintro x w' ⟨q1, q2⟩
  exact ⟨q1, Left.put q2⟩
theorem l_name (h : Left w0 os i b v L r w) : Calls Tryz.prog 19 #[.pointer (some ⟨b, 0, none⟩)] w fun x w' => x = .returned (.string (bs (name r).1)) ∧ Left w0 os i b v L (name r).2 w' := by
  obtain ⟨a', p', e', h1, h2⟩ := h
  refine (y_name h2 (Left.at_ hil) hv hL hE h1).mono ?_
  rintro x w' ⟨q1, q2⟩
  exact ⟨q1, Left.put q2⟩
theorem l_number (h : Left w0 os i b v L r w) (k : Int) : Calls Tryz.prog 23 #[.pointer (some ⟨b, 0, none⟩), .int .i64 k] w fun x w' => x = .returned (.int .i64 (number k r).1) ∧ Left w0 os i b v L (number k r).2 w' := by
  obtain ⟨a', p', e', h1, h2⟩ := h
  refine (y_number h2 (Left.at_ hil) hv hL hE h1).mono ?_
  rintro x w' ⟨q1, q2⟩
  exact ⟨q1, Left.put q2⟩
theorem l_one {u : Value} {ws : List S} (h : Left w0 os i b v L r w) (hu : TxAt w u ws) (hw : ws.length ≤ 100) : Calls Tryz.prog 20 #[.pointer (some ⟨b, 0, none⟩), u] w fun x w' => x = .returned (.int .i64 (one ws r).1) ∧ Left w0 os i b v L (one ws r).2 w' := by
  obtain ⟨a', p', e', h1, h2⟩ := h
  refine (y_one h2 (Left.at_ hil) hv hL hE h1 hu hw).mono ?_
  rintro x w' ⟨q1, q2⟩
  exact ⟨q1, Left.put q2⟩
set_option maxHeartbeats 4000000 in
set_option maxRecDepth 100000 in
theorem l_part {ub : Nat} {ws : List S} (h : Left w0 (os ++ [.raw ub (wordsO ws)]) i b v L r w) (hw : ws.length ≤ 100) (s : S) :
    Calls Tryz.prog 24 #[.pointer (some ⟨b, 0, none⟩), .string (bs s), .slice (some ⟨ub, 0, none⟩) ws.length ws.length] w fun x w' => x = .returned (.int .i64 (Sy.part s ws r).1) ∧ Left w0 os i b v L (Sy.part s ws r).2 w' := by
  have hil2 : i < (os ++ [Ob.raw ub (wordsO ws)]).length := by simp; omega
  have HV := Lib.hid hv
  have H := Lib.hid (l_want hil2 hv hL hE h s)
  have HIL := Lib.hid hil
  have HIL2 := Lib.hid hil2
  clear hv h hil hil2
  go_enter Tryz.func24, Tryz.ntmps24
  go_wp2_with (go_at_call 18; refine (H.out).mono ?_; rintro e1 w1 ⟨rfl, m1⟩; refine Hid.out ?_)
  refine Lib.hid ?_
  have H := Lib.hid (l_one HIL2.out HV.out hL hE m1 (tx_of (Left.last HIL.out m1)) hw)
  clear m1
  go_wp2_with (go_at_call 20; refine (H.out).mono ?_; rintro e2 w2 ⟨rfl, m2⟩; refine Hid.out ?_)
  refine Lib.hid ?_
  have H := Lib.hid (l_want HIL2.out HV.out hL hE m2 [59])
  clear m2
  go_wp2_with (go_at_call 18; refine (H.out).mono ?_; rintro e3 w3 ⟨rfl, m3⟩; refine Hid.out ?_)
  refine Lib.hid ?_
  have M3 := Lib.hid (Left.drop HIL.out m3)
  clear m3
  go_wp2
  go_ret
  exact ⟨rfl, M3.out⟩
end
end Go.Proofs.YtlefgffnjcmfoaaGreatDoor
namespace Go.Proofs.YtlefgffnjcmfoaaGreatDoor
open Go.RowKit Go.Maps Go.ChangeMaps Go.MapKept
open Lx Sy
attribute [local go_sem ↓] Go.wp_at_zero Go.wp_at_succ
def isOk : R → Bool
  | .ok _ => true
  | .error _ => false
/-- The profile that is being read: its cells. -/
def outO (cs : Array Value) : Obj := .cells cs 24 (0, 0)
def rowT (tv : Value) (xs : List S) : Ob := .row 9 1 tv xs.length (txVs xs)
theorem word_at {L : List Tk} {r : R} {a : Nat} {p e : Int} {z : Tk} (h : Fit L r a p e) (hz : L[a]? = some z) : wordO (hdR r) = (decide (e = 0) && z.kind == 0) := by
  cases r with
  | ok l =>
    obtain ⟨h1, _, h3⟩ := h
    subst h3
    rw [← h1, drop_of hz]; simp [hdR, hd, wordO, br]
  | error x =>
    obtain ⟨h1, h2, _⟩ := h
    subst h1
    simp [hdR, wordO, h2]
theorem types_stop {n : Nat} {r : R} (h : wordO (hdR r) = false) : types n r = ([], r) := by
  cases n with
  | zero => show (if wordO (hdR r) = true then _ else _) = _; rw [h]; rfl
  | succ n => show (if wordO (hdR r) = true then _ else _) = _; rw [h]; rfl
theorem types_full {r : R} (h : wordO (hdR r) = true) : (types 0 r).2 = badR 6 r := by
  show (if wordO (hdR r) = true then failR [] 6 r else retR [] r).2 = _
  rw [h]
  cases r <;> rfl
theorem types_more {n : Nat} {r : R} (h : wordO (hdR r) = true) : types (n + 1) r = ((name r).1 :: (types n (name r).2).1, (types n (name r).2).2) := by
  show (if wordO (hdR r) = true then _ else _) = _
  rw [h]; rfl
theorem ok_want {s : S} {r : R} (h : isOk (want s r).2 = true) : isOk r = true := by
  cases r with
  | ok l => rfl
  | error x => cases h
theorem want_bad {s : S} {x : List Tk × Int} : (want s (.error x)).2 = .error x := rfl
/-- What is read of the names of types: xs so far, and what is left. -/
def Tys (T : List S × R) (x : S) (xs : List S) (r : R) : Prop := 1 ≤ xs.length ∧ xs.length ≤ 20 ∧ (types (20 - xs.length) r).2 = T.2 ∧ (isOk T.2 = true → xs ++ (types (20 - xs.length) r).1 = x :: T.1)
theorem Tys.start (x : S) (r : R) : Tys (types 19 r) x [x] r := ⟨by simp, by simp, rfl, fun _ => rfl⟩
theorem Tys.more {T : List S × R} {x : S} {xs : List S} {r : R} (h : Tys T x xs r) (hw : wordO (hdR r) = true) (hl : xs.length < 20) : Tys T x (xs ++ [(name r).1]) (name r).2 := by
  obtain ⟨h1, h2, h3, h4⟩ := h
  obtain ⟨n, hn⟩ : ∃ n, 20 - xs.length = n + 1 := ⟨19 - xs.length, by omega⟩
  rw [hn, types_more hw] at h3 h4
  have e : 20 - (xs ++ [(name r).1]).length = n := by simp; omega
  refine ⟨by simp, by simp; omega, by rw [e]; exact h3, fun q => ?_⟩
  rw [e, List.append_assoc]
  exact h4 q
theorem Tys.full {T : List S × R} {x : S} {xs : List S} {r : R} (h : Tys T x xs r) (hw : wordO (hdR r) = true) (hl : ¬ xs.length < 20) : badR 6 r = T.2 := by
  obtain ⟨h1, h2, h3, h4⟩ := h
  rw [show 20 - xs.length = 0 by omega, types_full hw] at h3
  exact h3
theorem Tys.stop {T : List S × R} {x : S} {xs : List S} {r : R} (h : Tys T x xs r) (hw : wordO (hdR r) = false) : r = T.2 ∧ (isOk r = true → xs = x :: T.1) := by
  obtain ⟨h1, h2, h3, h4⟩ := h
  rw [types_stop hw] at h3 h4
  have h5 : r = T.2 := h3
  refine ⟨h5, fun q => ?_⟩
  have := h4 (by rw [← h5]; exact q)
  simpa using this
/-- The part about files, if it is there. -/
theorem sFiles_no {r : R} (h : isO [102, 105, 108, 101, 115] (hdR r) = false) : sFiles r = ((0, 0, []), r) := by
  show (if isO [102, 105, 108, 101, 115] (hdR r) = true then _ else _) = _
  rw [h]; rfl
theorem sFiles_yes {r : R} (h : isO [102, 105, 108, 101, 115] (hdR r) = true) : sFiles r =
    (((number 1 (want [102, 105, 108, 101, 115] r).2).1, (number 0 (want [98, 121, 116, 101, 115] (number 1 (want [102, 105, 108, 101, 115] r).2).2).2).1, (name (want [116, 121, 112, 101, 115] (number 0 (want [98, 121, 116, 101, 115] (number 1 (want [102, 105, 108, 101, 115] r).2).2).2).2).2).1 :: (types 19 (name (want [116, 121, 112, 101, 115] (number 0 (want [98, 121, 116, 101, 115] (number 1 (want [102, 105, 108, 101, 115] r).2).2).2).2).2).2).1),
     (want [59] (types 19 (name (want [116, 121, 112, 101, 115] (number 0 (want [98, 121, 116, 101, 115] (number 1 (want [102, 105, 108, 101, 115] r).2).2).2).2).2).2).2).2) := by
  show (if isO [102, 105, 108, 101, 115] (hdR r) = true then _ else _) = _
  rw [h]; rfl
theorem want_at {w0 w : World} {os : List Ob} {i b : Nat} {v : Value} {L : List Tk} {r : R} (s : S) (h : Left w0 os i b v L r w) (hE : Ends L) (hs : isO s (hdR r) = true) :
    ∃ a p, OMem w0 w (os.set i (pv b v a p 0)) ∧ Fit L (want s r).2 (a + 1) p 0 ∧ a < L.length := by
  obtain ⟨a, p, e, h1, h2⟩ := h
  obtain ⟨z, hz⟩ : ∃ z, L[a]? = some z := ⟨_, List.getElem?_eq_getElem h1.lt⟩
  obtain ⟨q1, q2, q3⟩ := want_yes h1 hz hs
  subst q2
  exact ⟨a, p, h2, by rw [q1]; exact Fit.next hE hz q3, h1.lt⟩
section
variable {w0 w : World} {X : Ob} {b ob : Nat} {v : Value} {L : List Tk} {r : R} {cs : Array Value} {Y : Ob}
theorem Left.out_set (h : Left w0 [X, .raw ob (outO cs), Y] 0 b v L r w) (j : Nat) (x : Value) : Left w0 [X, .raw ob (outO (cs.setIfInBounds j x)), Y] 0 b v L r (w.setCell ⟨ob, j, none⟩ x) := by
  obtain ⟨a, p, e, h1, h2⟩ := h
  exact ⟨a, p, e, h1, h2.raw_set (i := 1) rfl j x⟩
theorem Left.out_at (h : Left w0 [X, .raw ob (outO cs), Y] 0 b v L r w) : w.heap[ob]? = some (outO cs) := by
  obtain ⟨a, p, e, h1, h2⟩ := h
  exact h2.raw_at (i := 1) rfl
theorem Left.row_to {tv tv' : Value} {n n' : Nat} {xs xs' : List Value} {w' : World} (h : Left w0 [X, .raw ob (outO cs), .row 9 1 tv n xs] 0 b v L r w) (hg : w.grownBy w' tv.ownBlock) (ho : w'.ownsRow 0 9 1 tv' n' xs') (ha : tv'.ownBlock = tv.ownBlock ∨ tv'.ownBlock = some w.heap.size) :
    Left w0 [X, .raw ob (outO cs), .row 9 1 tv' n' xs'] 0 b v L r w' := by
  obtain ⟨a, p, e, h1, h2⟩ := h
  exact ⟨a, p, e, h1, h2.rowGrow (i := 2) rfl hg ho ha⟩
theorem grown_alloc (w : World) (o : Obj) (row : Option Nat) : w.grownBy (w.alloc o) row := by
  have hb := (Below.refl w.heap.size w).alloc (Nat.le_refl _) o
  exact ⟨hb.os, hb.tape, hb.output, hb.size, fun x hx _ => hb.block x hx⟩
theorem Left.pushT {ta : Option Addr} {tc : Nat} {xs : List S} (h : Left w0 [X, .raw ob (outO cs), rowT (.slice ta xs.length tc) xs] 0 b v L r w) (z : S) (hn : xs.length ≤ 1000) :
    ∃ a c w', (Builtin.append_ #[22, 22] 22 #[.slice ta xs.length tc, .slice (some ⟨w.heap.size, 0, none⟩) 1 1]).run Tryz.prog (w.alloc (.cells #[.string (bs z)] 9)) = .ok (.slice a (xs.length + 1) c) w' ∧
      Left w0 [X, .raw ob (outO cs), rowT (.slice a (xs ++ [z]).length c) (xs ++ [z])] 0 b v L r w' := by
  obtain ⟨a, p, e, h1, h2⟩ := h
  obtain ⟨ya, yc, w', q1, q2⟩ := OMem.pushT (i := 2) h2 rfl z hn
  refine ⟨ya, yc, w', q1, a, p, e, h1, ?_⟩
  have e1 : (xs ++ [z]).length = xs.length + 1 := by simp
  unfold rowT
  rw [e1]
  exact q2
theorem l_fail {os : List Ob} {i : Nat} {x : Int} (hil : i < os.length) (hv : TkAt w0 v L) (hL : L.length ≤ 3000) (h : Left w0 os i b v L r w) (hx : x ≠ 0) : Calls Tryz.prog 27 #[.pointer (some ⟨b, 0, none⟩), .int .i64 x] w fun u w' => u = .returned (.tuple #[]) ∧ Left w0 os i b v L (badR x r) w' := by
  obtain ⟨a', p', e', h1, h2⟩ := h
  refine (y_fail h2 (Left.at_ hil) hv hL h1 hx).mono ?_
  rintro u w' ⟨q1, p2, e2, q2, q3⟩
  exact ⟨q1, Left.put ⟨a', p2, e2, q2, q3⟩⟩
theorem want_badR (s : S) (x : Int) (r : R) : (want s (badR x r)).2 = badR x r := by cases r <;> rfl
theorem ok_badR (x : Int) (r : R) : isOk (badR x r) = false := by cases r <;> rfl
def lenAt (ob : Nat) (w : World) : Nat := match w.cell? ⟨ob, 12, none⟩ with | some (.slice _ n _) => 20 - n | _ => 0
end
theorem len_of {w0 w : World} {X Y : Ob} {b ob : Nat} {v : Value} {L : List Tk} {r : R} {cs : Array Value} {a : Option Addr} {n c : Nat} (h : Left w0 [X, .raw ob (outO cs), Y] 0 b v L r w) (hc : cs[12]? = some (.slice a n c)) : lenAt ob w = 20 - n := by
  have q : w.cell? ⟨ob, 12, none⟩ = some (.slice a n c) := by rw [Lib.cell_of_heap h.out_at]; exact hc
  unfold lenAt; rw [q]
set_option maxHeartbeats 8000000 in
set_option maxRecDepth 100000 in
theorem y_files {w0 w : World} {X : Ob} {b ob : Nat} {v : Value} {L : List Tk} {r : R} {c0 c1 c2 c3 c4 c5 c6 c7 c8 c9 c13 c14 c15 c16 c17 c18 c19 c20 c21 : Value}
    (h : Left w0 [X, .raw ob (outO #[c0, c1, c2, c3, c4, c5, c6, c7, c8, c9, .int .i64 (0), .int .i64 (0), .slice none 0 0, c13, c14, c15, c16, c17, c18, c19, c20, c21]), rowT (.slice none 0 0) []] 0 b v L r w) (hv : TkAt w0 v L) (hL : L.length ≤ 3000) (hE : Ends L) :
    Calls Tryz.prog 25 #[.pointer (some ⟨b, 0, none⟩), .pointer (some ⟨ob, 0, none⟩)] w fun x w' => x = .returned (.tuple #[]) ∧
      ∃ f t tv xs, (isOk (sFiles r).2 = true → (sFiles r).1 = (f, t, xs)) ∧ Left w0 [X, .raw ob (outO #[c0, c1, c2, c3, c4, c5, c6, c7, c8, c9, .int .i64 (f), .int .i64 (t), tv, c13, c14, c15, c16, c17, c18, c19, c20, c21]), rowT tv xs] 0 b v L (sFiles r).2 w' := by
  have hil : ∀ {A B C : Ob}, 0 < [A, B, C].length := by intros; simp
  have HV := Lib.hid hv
  have H := Lib.hid (l_is hil hv hL h [102, 105, 108, 101, 115])
  clear hv h
  go_enter Tryz.func25, Tryz.ntmps25
  cases ho : isO [102, 105, 108, 101, 115] (hdR r) with
  | false =>
    have HN := Lib.hid (sFiles_no ho)
    rw [ho] at H
    clear ho
    go_wp2_with (go_at_call 22; refine (H.out).mono ?_; rintro e1 w1 ⟨rfl, m1⟩; refine Hid.out ?_)
    refine Lib.hid ?_
    have M := Lib.hid m1
    clear m1
    go_wp2
    (try simp only [Exit.inBlock, Exit.then])
    refine bodyPost_ret (results_none rfl _ _ _) rfl ?_
    exact ⟨rfl, 0, 0, _, [], fun _ => by rw [HN.out], by rw [HN.out]; exact M.out⟩
  | true =>
    have HN := Lib.hid (sFiles_yes ho)
    have HO := Lib.hid ho
    rw [ho] at H
    clear ho
    go_wp2_with (go_at_call 22; refine (H.out).mono ?_; rintro e1 w1 ⟨rfl, m1⟩; refine Hid.out ?_)
    refine Lib.hid ?_
    obtain ⟨a, p, m2, hf, hal⟩ := want_at [102, 105, 108, 101, 115] m1 hE HO.out
    have r1 := m2.raw_at (i := 0) rfl
    have p1 : w1.cell? ⟨b, 1, none⟩ = some (.int .i64 a) := by rw [Lib.cell_of_heap r1]; rfl
    have hz1 : w1.frozen? ⟨b, 1, none⟩ = false := Lib.frozen_of_heap r1 1
    have M := Lib.hid (show Left w0 [X, .raw ob (outO #[c0, c1, c2, c3, c4, c5, c6, c7, c8, c9, .int .i64 (0), .int .i64 (0), .slice none 0 0, c13, c14, c15, c16, c17, c18, c19, c20, c21]), rowT (.slice none 0 0) []] 0 b v L (want [102, 105, 108, 101, 115] r).2 (w1.setCell ⟨b, 1, none⟩ (.int .i64 ((a : Int) + 1))) from ⟨a + 1, p, 0, hf, by have := step_on (i := 0) m2 rfl; simpa using this⟩)
    have H := Lib.hid (l_number hil HV.out hL hE M.out 1)
    clear m1 m2 hf r1 M
    go_wp2_with (go_at_call 23; refine (H.out).mono ?_; rintro e2 w2 ⟨rfl, m3⟩; refine Hid.out ?_)
    refine Lib.hid ?_
    have M := Lib.hid m3
    clear m3 p1 hz1
    have q1 := M.out.out_at
    have q2 : (w2).cell? ⟨ob, 10, none⟩ = some (.int .i64 0) := by rw [Lib.cell_of_heap q1]; rfl
    have q3 : (w2).frozen? ⟨ob, 10, none⟩ = false := Lib.frozen_of_heap q1 10
    clear q1
    have M := Lib.hid (M.out.out_set 10 (.int .i64 (number 1 (want [102, 105, 108, 101, 115] r).2).1))
    have H := Lib.hid (l_want hil HV.out hL hE M.out [98, 121, 116, 101, 115])
    go_wp2_with (go_at_call 18; refine (H.out).mono ?_; rintro e3 w3 ⟨rfl, m3⟩; refine Hid.out ?_)
    refine Lib.hid ?_
    clear q2 q3 M
    have H := Lib.hid (l_number hil HV.out hL hE m3 0)
    clear m3
    go_wp2_with (go_at_call 23; refine (H.out).mono ?_; rintro e4 w4 ⟨rfl, m4⟩; refine Hid.out ?_)
    refine Lib.hid ?_
    have M := Lib.hid m4
    clear m4
    have q1 := M.out.out_at
    have q2 : (w4).cell? ⟨ob, 11, none⟩ = some (.int .i64 0) := by rw [Lib.cell_of_heap q1]; rfl
    have q3 : (w4).frozen? ⟨ob, 11, none⟩ = false := Lib.frozen_of_heap q1 11
    clear q1
    have M := Lib.hid (M.out.out_set 11 (.int .i64 (number 0 (want [98, 121, 116, 101, 115] (number 1 (want [102, 105, 108, 101, 115] r).2).2).2).1))
    have H := Lib.hid (l_want hil HV.out hL hE M.out [116, 121, 112, 101, 115])
    go_wp2_with (go_at_call 18; refine (H.out).mono ?_; rintro e5 w5 ⟨rfl, m5⟩; refine Hid.out ?_)
    refine Lib.hid ?_
    clear q2 q3 M
    have H := Lib.hid (l_name hil HV.out hL hE m5)
    clear m5
    go_wp2_with (go_at_call 19; refine (H.out).mono ?_; rintro e6 w6 ⟨rfl, m6⟩; refine Hid.out ?_)
    refine Lib.hid ?_
    obtain ⟨f, hf⟩ : ∃ f, (number 1 (want [102, 105, 108, 101, 115] r).2).1 = f := ⟨_, rfl⟩
    obtain ⟨t, ht⟩ : ∃ t, (number 0 (want [98, 121, 116, 101, 115] (number 1 (want [102, 105, 108, 101, 115] r).2).2).2).1 = t := ⟨_, rfl⟩
    obtain ⟨r5, hr5⟩ : ∃ r5, (want [116, 121, 112, 101, 115] (number 0 (want [98, 121, 116, 101, 115] (number 1 (want [102, 105, 108, 101, 115] r).2).2).2).2).2 = r5 := ⟨_, rfl⟩
    rw [hf, ht, hr5] at HN
    rw [hf, ht, hr5] at m6
    rw [hr5]
    have own1 := own_txt w6 (name r5).1
    have m7 := m6.row_to (w' := w6.alloc (.cells #[.string (bs (name r5).1)] 9)) (grown_alloc _ _ _) own1 (.inr rfl)
    have M := Lib.hid (show Left w0 [X, .raw ob (outO #[c0, c1, c2, c3, c4, c5, c6, c7, c8, c9, .int .i64 (f), .int .i64 (t), .slice none 0 0, c13, c14, c15, c16, c17, c18, c19, c20, c21]), rowT (.slice (some ⟨w6.heap.size, 0, none⟩) 1 1) [(name r5).1]] 0 b v L (name r5).2 (w6.alloc (.cells #[.string (bs (name r5).1)] 9)) from m7)
    clear m6 m7 own1 hf ht hr5
    have q1 := M.out.out_at
    have q2 : (w6.alloc (.cells #[.string (bs (name r5).1)] 9)).cell? ⟨ob, 12, none⟩ = some (.slice none 0 0) := by rw [Lib.cell_of_heap q1]; rfl
    have q3 : (w6.alloc (.cells #[.string (bs (name r5).1)] 9)).frozen? ⟨ob, 12, none⟩ = false := Lib.frozen_of_heap q1 12
    clear q1
    have M := Lib.hid (M.out.out_set 12 (.slice (some ⟨w6.heap.size, 0, none⟩) 1 1))
    have HT0 := Lib.hid (Tys.start (name r5).1 (name r5).2)
    obtain ⟨T, hT⟩ : ∃ T, types 19 (name r5).2 = T := ⟨_, rfl⟩
    rw [hT] at HT0 HN
    clear hT
    go_wp2
    go_loopw [] (fun wr => ∃ (xs : List S) (rk : R) (ta : Option Addr) (tc : Nat), Hid (Tys T (name r5).1 xs rk) ∧ Hid (Left w0 [X, .raw ob (outO #[c0, c1, c2, c3, c4, c5, c6, c7, c8, c9, .int .i64 (f), .int .i64 (t), .slice ta xs.length tc, c13, c14, c15, c16, c17, c18, c19, c20, c21]), rowT (.slice ta xs.length tc) xs] 0 b v L rk wr)) (fun wr => lenAt ob wr)
    case atStart => exact ⟨[(name r5).1], (name r5).2, _, _, HT0, M⟩
    case round =>
      obtain ⟨xs, rk, ta, tc, HT, M⟩ := hrel
      obtain ⟨a2, p2, e2, hf2, m2⟩ := M.out
      obtain ⟨z, hz⟩ : ∃ z, L[a2]? = some z := ⟨_, List.getElem?_eq_getElem hf2.lt⟩
      have HW := Lib.hid (word_at hf2 hz)
      have hal2 := hf2.lt
      have r2 := m2.raw_at (i := 0) rfl
      have g0 : wr.cell? ⟨b, 0, none⟩ = some v := by rw [Lib.cell_of_heap r2]; rfl
      have g1 : wr.cell? ⟨b, 1, none⟩ = some (.int .i64 a2) := by rw [Lib.cell_of_heap r2]; rfl
      have g3 : wr.cell? ⟨b, 3, none⟩ = some (.int .i64 e2) := by rw [Lib.cell_of_heap r2]; rfl
      obtain ⟨tb, off, cap, hvv, _, hc⟩ := (HV.out.keep m2.below).form (by omega)
      obtain ⟨k0, -, -, -⟩ := hc a2 z hz
      rw [hvv] at g0
      have al' : (a2 : Int) < (L.length : Int) := by omega
      clear hc hf2 m2 r2 hz hvv
      by_cases he : e2 = 0
      · by_cases hk : z.kind = 0
        · have hw := HW.out
          rw [he, hk] at hw
          have hw : wordO (hdR rk) = true := hw
          subst he
          rw [hk] at k0
          clear hk
          by_cases hx : xs.length < 20
          · have HT2 := Lib.hid (HT.out.more hw hx)
            have HL1 := Lib.hid (len_of M.out rfl)
            have hx' : ¬ (20 : Int) ≤ (xs.length : Int) := by omega
            clear hw
            go_wp2
            go_quiet (fail)
            have M := Lib.hid (M.out.fresh (drewN_below wr nq))
            generalize wr.drewN nq = wd at *
            have S0 : wd.cell? ⟨ob, 12, none⟩ = some (.slice ta xs.length tc) := by rw [Lib.cell_of_heap M.out.out_at]; rfl
            have H := Lib.hid (l_name hil HV.out hL hE (M.out.fresh (below_drew wd)))
            clear g0 g1 g3 k0
            go_wp2
            refine region_till 8 (fun wx => wx.cell? ⟨ob, 12, none⟩ = some (.slice ta xs.length tc)) (by kernel_rfl) ?_
            refine till_take 0 60 false (v := ?v0) (by kernel_rfl) (by kernel_rfl) (by kernel_rfl) (by kernel_rfl) (by kernel_rfl) (fun _ _ _ h => h) ?hw0 S0 ?hy0 ?rest0
            case hw0 => (simp only [List.getElem?_toArray, List.getElem?_cons_zero, Option.elim]; rfl)
            case hy0 => (simp only [List.getElem?_toArray, List.getElem?_cons_zero, Option.elim]; intro wx _; go_simp; with_reducible rfl)
            simp only [dstOf, List.getElem?_toArray, List.getElem?_cons_zero, Option.bind, Act.put, List.setIfInBounds_toArray, List.set_cons_zero, List.set_cons_succ]
            refine till_take 1 60 false (v := ?v1) (by kernel_rfl) (by kernel_rfl) (by kernel_rfl) (by kernel_rfl) (by kernel_rfl) (fun _ _ _ h => h) ?hw1 S0 ?hy1 ?rest1
            case hw1 => (simp only [List.getElem?_toArray, List.getElem?_cons_zero, List.getElem?_cons_succ, Option.elim]; rfl)
            case hy1 => (simp only [List.getElem?_toArray, List.getElem?_cons_zero, List.getElem?_cons_succ, Option.elim]; intro wx _; go_simp; with_reducible rfl)
            simp only [dstOf, List.getElem?_toArray, List.getElem?_cons_zero, List.getElem?_cons_succ, Option.bind, Act.put, List.setIfInBounds_toArray, List.set_cons_zero, List.set_cons_succ]
            refine till_take 2 60 false (v := ?v2) (by kernel_rfl) (by kernel_rfl) (by kernel_rfl) (by kernel_rfl) (by kernel_rfl) (fun _ _ _ h => h) ?hw2 S0 ?hy2 ?rest2
            case hw2 => (simp only [List.getElem?_toArray, List.getElem?_cons_zero, List.getElem?_cons_succ, Option.elim]; rfl)
            case hy2 => (simp only [List.getElem?_toArray, List.getElem?_cons_zero, List.getElem?_cons_succ, Option.elim]; intro wx _; go_simp; with_reducible rfl)
            simp only [dstOf, List.getElem?_toArray, List.getElem?_cons_zero, List.getElem?_cons_succ, Option.bind, Act.put, List.setIfInBounds_toArray, List.set_cons_zero, List.set_cons_succ]
            refine till_take 3 60 false (v := ?v3) (by kernel_rfl) (by kernel_rfl) (by kernel_rfl) (by kernel_rfl) (by kernel_rfl) (fun _ _ _ h => h) ?hw3 S0 ?hy3 ?rest3
            case hw3 => (simp only [List.getElem?_toArray, List.getElem?_cons_zero, List.getElem?_cons_succ, Option.elim]; rfl)
            case hy3 => (simp only [List.getElem?_toArray, List.getElem?_cons_zero, List.getElem?_cons_succ, Option.elim]; intro wx _; go_simp; with_reducible rfl)
            simp only [dstOf, List.getElem?_toArray, List.getElem?_cons_zero, List.getElem?_cons_succ, Option.bind, Act.put, List.setIfInBounds_toArray, List.set_cons_zero, List.set_cons_succ]
            refine till_take 4 60 true (v := ?v4) (by kernel_rfl) (by kernel_rfl) (by kernel_rfl) (by kernel_rfl) (by kernel_rfl) (fun _ _ _ h => h) ?hw4 S0 ?hy4 ?rest4
            case hw4 => (simp only [List.getElem?_toArray, List.getElem?_cons_zero, List.getElem?_cons_succ, Option.elim]; rfl)
            case hy4 => (simp only [List.getElem?_toArray, List.getElem?_cons_zero, List.getElem?_cons_succ, Option.elim]; intro wx hx; have x0 := hx trivial; go_simp; with_reducible rfl)
            simp only [dstOf, List.getElem?_toArray, List.getElem?_cons_zero, List.getElem?_cons_succ, Option.bind, Act.put, List.setIfInBounds_toArray, List.set_cons_zero, List.set_cons_succ]
            refine till_take 5 60 false (v := ?v5) (by kernel_rfl) (by kernel_rfl) (by kernel_rfl) (by kernel_rfl) (by kernel_rfl) (fun _ _ _ h => h) ?hw5 S0 ?hy5 ?rest5
            case hw5 => (simp only [List.getElem?_toArray, List.getElem?_cons_zero, List.getElem?_cons_succ, Option.elim]; rfl)
            case hy5 => (simp only [List.getElem?_toArray, List.getElem?_cons_zero, List.getElem?_cons_succ, Option.elim]; intro wx _; go_simp; with_reducible rfl)
            simp only [dstOf, List.getElem?_toArray, List.getElem?_cons_zero, List.getElem?_cons_succ, Option.bind, Act.put, List.setIfInBounds_toArray, List.set_cons_zero, List.set_cons_succ]
            refine till_before 6 (by kernel_rfl) (fun K hK => ?_)
            simp only [List.getElem?_toArray, List.getElem?_cons_zero, List.getElem?_cons_succ, Option.elim]
            rw [if_pos (by rfl)]
            go_simp
            go_at_call 19
            refine (H.out).mono ?_
            rintro e8 w8 ⟨rfl, m8⟩
            refine hK.out _ _ (by rw [Lib.cell_of_heap m8.out_at]; rfl) ?_
            clear hK K
            try simp only [Act.put, List.setIfInBounds_toArray, List.set_cons_zero, List.set_cons_succ]
            clear S0
            have S0 : w8.cell? ⟨ob, 12, none⟩ = some (.slice ta xs.length tc) := by rw [Lib.cell_of_heap m8.out_at]; rfl
            obtain ⟨ya, yc, w10, r10, m10⟩ := m8.pushT (name rk).1 (by omega)
            have R10 := Lib.hid r10
            have q2 : w10.cell? ⟨ob, 12, none⟩ = some (.slice ta xs.length tc) := by rw [Lib.cell_of_heap m10.out_at]; rfl
            have q3 : w10.frozen? ⟨ob, 12, none⟩ = false := Lib.frozen_of_heap m10.out_at 12
            have M10 := Lib.hid m10
            clear r10 m8 m10
            refine till_before 7 (by kernel_rfl) (fun K hK => ?_)
            simp only [List.getElem?_toArray, List.getElem?_cons_zero, List.getElem?_cons_succ, Option.elim]
            rw [if_pos (by rfl)]
            go_simp
            refine hK.out _ _ (below_cell S0 ((Below.refl _ _).alloc (Nat.le_refl _) _)) ?_
            clear hK K
            try simp only [Act.put, List.setIfInBounds_toArray, List.set_cons_zero, List.set_cons_succ]
            refine till_step 8 (by kernel_rfl) (by kernel_rfl) (fun K hK => ?_)
            simp only [List.getElem?_toArray, List.getElem?_cons_zero, List.getElem?_cons_succ, Option.elim]
            rw [if_pos (by rfl)]
            refine Lib.wp_append_run _ (.tmp 65) (.tmp 68) 22 22 rfl _ _ rfl rfl _ _ R10.out ?_
            refine hK.out _ _ ?_
            clear hK K
            try simp only [Act.put, List.setIfInBounds_toArray, List.set_cons_zero, List.set_cons_succ]
            refine till_late 9 (v := ?v9) (by kernel_rfl) (by kernel_rfl) (by kernel_rfl) (by kernel_rfl) (fun _ _ _ h => h) (by kernel_rfl) ?hw9 ?hy9 ?rest9
            case hw9 => (simp only [List.getElem?_toArray, List.getElem?_cons_zero, List.getElem?_cons_succ, Option.elim]; rfl)
            case hy9 => (simp only [List.getElem?_toArray, List.getElem?_cons_zero, List.getElem?_cons_succ, Option.elim]; intro wx; go_simp; with_reducible rfl)
            simp only [dstOf, List.getElem?_toArray, List.getElem?_cons_zero, List.getElem?_cons_succ, Option.bind, Act.put, List.setIfInBounds_toArray, List.set_cons_zero, List.set_cons_succ]
            refine till_late 10 (v := ?v10) (by kernel_rfl) (by kernel_rfl) (by kernel_rfl) (by kernel_rfl) (fun _ _ _ h => h) (by kernel_rfl) ?hw10 ?hy10 ?rest10
            case hw10 => (simp only [List.getElem?_toArray, List.getElem?_cons_zero, List.getElem?_cons_succ, Option.elim]; rfl)
            case hy10 => (simp only [List.getElem?_toArray, List.getElem?_cons_zero, List.getElem?_cons_succ, Option.elim]; intro wx; go_simp; with_reducible rfl)
            simp only [dstOf, List.getElem?_toArray, List.getElem?_cons_zero, List.getElem?_cons_succ, Option.bind, Act.put, List.setIfInBounds_toArray, List.set_cons_zero, List.set_cons_succ]
            refine till_step 11 (by kernel_rfl) (by kernel_rfl) (fun K hK => ?_)
            simp only [List.getElem?_toArray, List.getElem?_cons_zero, List.getElem?_cons_succ, Option.elim]
            rw [if_pos (by rfl)]
            go_simp
            refine hK.out _ _ ?_
            clear hK K
            try simp only [Act.put, List.setIfInBounds_toArray, List.set_cons_zero, List.set_cons_succ]
            refine till_end (by kernel_rfl) ?_ _
            clear S0
            have M11 := Lib.hid (show Left w0 [X, .raw ob (outO #[c0, c1, c2, c3, c4, c5, c6, c7, c8, c9, .int .i64 f, .int .i64 t, .slice ya (xs.length + 1) yc, c13, c14, c15, c16, c17, c18, c19, c20, c21]), rowT (.slice ya (xs ++ [(name rk).1]).length yc) (xs ++ [(name rk).1])] 0 b v L (name rk).2 (w10.setCell ⟨ob, 12, none⟩ (.slice ya (xs.length + 1) yc)) from M10.out.out_set 12 _)
            have HL2 := Lib.hid (len_of M11.out rfl)
            go_wp2
            go_roundw
            case rel => exact ⟨xs ++ [(name rk).1], (name rk).2, ya, yc, HT2, by simpa using M11⟩
            case measure => (rw [HL1.out, HL2.out]; omega)
          · have HB := Lib.hid (HT.out.full hw hx)
            have hx' : (20 : Int) ≤ (xs.length : Int) := by omega
            clear hw
            go_wp2
            go_quiet (fail)
            have M := Lib.hid (M.out.fresh (drewN_below wr nq))
            generalize wr.drewN nq = wd at *
            have S0 : wd.cell? ⟨ob, 12, none⟩ = some (.slice ta xs.length tc) := by rw [Lib.cell_of_heap M.out.out_at]; rfl
            have H := Lib.hid (l_fail hil HV.out hL M.out (x := 6) (by decide))
            clear g0 g1 g3 k0
            go_wp2_with (go_at_call 27; refine (H.out).mono ?_; rintro e8 w8 ⟨rfl, m8⟩; refine Hid.out ?_)
            refine Lib.hid ?_
            have M := Lib.hid m8
            clear m8
            go_wp2
            (try simp only [Exit.inBlock, Exit.then])
            refine bodyPost_ret (results_none rfl _ _ _) rfl ?_
            refine ⟨rfl, f, t, _, xs, fun hok => ?_, by rw [HN.out, ← HB.out, want_badR]; exact M.out⟩
            rw [HN.out, ← HB.out, want_badR, ok_badR] at hok
            cases hok
        · have hw := HW.out
          have hk' : (z.kind == 0) = false := beq_eq_false_iff_ne.2 hk
          rw [he, hk'] at hw
          have hw : wordO (hdR rk) = false := hw
          subst he
          clear hk
          obtain ⟨q1, q2⟩ := HT.out.stop hw
          have HQ := Lib.hid q2
          have HT1 := Lib.hid q1
          clear q1 q2 hw
          go_wp2
          go_quiet (fail)
          have M := Lib.hid (M.out.fresh (drewN_below wr nq))
          have H := Lib.hid (l_want hil HV.out hL hE M.out [59])
          go_wp2_with (go_at_call 18; refine (H.out).mono ?_; rintro e9 w9 ⟨rfl, m9⟩; refine Hid.out ?_)
          refine Lib.hid ?_
          have M := Lib.hid m9
          clear m9
          go_wp2
          go_end0
          refine ⟨rfl, f, t, _, xs, fun hok => ?_, by rw [HN.out, ← HT1.out]; exact M.out⟩
          rw [HN.out] at hok ⊢
          rw [← HT1.out] at hok
          rw [HQ.out (ok_want hok)]
      · have he' : (e2 == 0) = false := beq_eq_false_iff_ne.2 he
        have hw := HW.out
        have hw : wordO (hdR rk) = false := by rw [hw]; simp [he]
        clear he
        obtain ⟨q1, q2⟩ := HT.out.stop hw
        have HQ := Lib.hid q2
        have HT1 := Lib.hid q1
        clear q1 q2 hw
        go_wp2
        go_quiet (fail)
        have M := Lib.hid (M.out.fresh (drewN_below wr nq))
        have H := Lib.hid (l_want hil HV.out hL hE M.out [59])
        go_wp2_with (go_at_call 18; refine (H.out).mono ?_; rintro e9 w9 ⟨rfl, m9⟩; refine Hid.out ?_)
        refine Lib.hid ?_
        have M := Lib.hid m9
        clear m9
        go_wp2
        go_end0
        refine ⟨rfl, f, t, _, xs, fun hok => ?_, by rw [HN.out, ← HT1.out]; exact M.out⟩
        rw [HN.out] at hok ⊢
        rw [← HT1.out] at hok
        rw [HQ.out (ok_want hok)]
end Go.Proofs.YtlefgffnjcmfoaaGreatDoor
namespace Go.Proofs.YtlefgffnjcmfoaaGreatDoor
open Go.RowKit Go.Maps Go.ChangeMaps Go.MapKept
open Lx Sy
attribute [local go_sem ↓] Go.wp_at_zero Go.wp_at_succ
section
variable {w : World}
theorem y_yes : Calls Tryz.prog 21 #[] w fun e w' => e = .returned (.slice (some ⟨w.heap.size, 0, none⟩) 2 2) ∧ w' = w.alloc (wordsO yn) := by
  go_enter Tryz.func21, Tryz.ntmps21
  go_wp2
  go_ret
  exact ⟨rfl, rfl⟩
theorem y_levels : Calls Tryz.prog 26 #[] w fun e w' => e = .returned (.slice (some ⟨w.heap.size, 0, none⟩) 5 5) ∧ w' = w.alloc (wordsO leW) := by
  go_enter Tryz.func26, Tryz.ntmps26
  go_wp2
  go_ret
  exact ⟨rfl, rfl⟩
theorem y_word (b : Bool) : Calls Tryz.prog 29 #[.bool b] w fun e w' => e = .returned (.string (bs (ynw b))) ∧ w' = w := by
  cases b with
  | true =>
    go_enter Tryz.func29, Tryz.ntmps29
    go_wp2
    go_ret
    exact ⟨rfl, rfl⟩
  | false =>
    go_enter Tryz.func29, Tryz.ntmps29
    go_wp2
    go_ret
    exact ⟨rfl, rfl⟩
theorem y_within (n a b : Int) : Calls Tryz.prog 35 #[.int .i64 n, .int .i64 a, .int .i64 b] w fun e w' => e = .returned (.bool (decide (Sy.within n a b))) ∧ w' = w := by
  go_enter Tryz.func35, Tryz.ntmps35
  by_cases h0 : a ≤ n
  · by_cases h1 : n ≤ b
    · have HR := Lib.hid (decide_eq_true (show Sy.within n a b from ⟨h0, h1⟩))
      go_wp2
      go_ret
      exact ⟨ret_bool HR.out.symm, rfl⟩
    · have HR := Lib.hid (decide_eq_false (show ¬ Sy.within n a b from fun q => h1 q.2))
      go_wp2
      go_ret
      exact ⟨ret_bool (by rw [HR.out]), rfl⟩
  · have HR := Lib.hid (decide_eq_false (show ¬ Sy.within n a b from fun q => h0 q.1))
    go_wp2
    go_ret
    exact ⟨ret_bool (by rw [HR.out]), rfl⟩
/-- So far: n is left, and s are the digits behind it. -/
def Dg (D : S) (n0 n : Nat) (s : S) : Prop := (s = [] ∧ n = n0) ∨ (s ≠ [] ∧ (0 < n → Lib.decDigits n ++ s = D) ∧ (n = 0 → s = D))
theorem Dg.next {n0 n : Nat} {s : S} (h : Dg (Lib.decDigits n0) n0 n s) (hs : 0 < n ∨ s = []) : Dg (Lib.decDigits n0) n0 (n / 10) (UInt8.ofNat (48 + n % 10) :: s) := by
  refine .inr ⟨by simp, fun h1 => ?_, fun h1 => ?_⟩
  · have hb := dec_big (show ¬ n < 10 by omega)
    rcases h with ⟨rfl, rfl⟩ | ⟨_, h2, _⟩
    · exact hb.symm
    · rw [← h2 (by omega), hb]; simp
  · have hb := dec_small (show n < 10 by omega)
    have e : n % 10 = n := by omega
    rcases h with ⟨rfl, rfl⟩ | ⟨h0, h2, h3⟩
    · rw [hb, e]
    · have hn : 0 < n := hs.resolve_right h0
      rw [← h2 hn, hb, e]; rfl
theorem Dg.done {n0 n : Nat} {s : S} (h : Dg (Lib.decDigits n0) n0 n s) (hs : ¬ (0 < n ∨ s = [])) : s = Lib.decDigits n0 := by
  rcases h with ⟨rfl, _⟩ | ⟨_, _, h3⟩
  · exact (hs (.inr rfl)).elim
  · exact h3 (by omega)
theorem dec_cut : ∀ k : Nat, k < 10 → (⟨#[48, 49, 50, 51, 52, 53, 54, 55, 56, 57]⟩ : ByteArray).extract k (k + 1) = bs [UInt8.ofNat (48 + k)] := by
  intro k hk
  rw [show (⟨#[48, 49, 50, 51, 52, 53, 54, 55, 56, 57]⟩ : ByteArray) = bs [48, 49, 50, 51, 52, 53, 54, 55, 56, 57] from rfl, bs_extract]
  have : ∀ k, k < 10 → ((List.drop k [48, 49, 50, 51, 52, 53, 54, 55, 56, 57]).take (k + 1 - k) : List UInt8) = [UInt8.ofNat (48 + k)] := by decide
  rw [this k hk]
def sizeZ : Value → Nat
  | .string b => if b.size = 0 then 1 else 0
  | _ => 0
set_option maxHeartbeats 4000000 in
set_option maxRecDepth 100000 in
theorem y_num {n0 : Nat} (h0 : n0 ≤ 1099511627776) : Calls Tryz.prog 30 #[.int .i64 n0] w fun e w' => e = .returned (.string (bs (Lib.decDigits n0))) ∧ w' = w := by
  go_enter Tryz.func30, Tryz.ntmps30
  go_wp2
  go_loopw [0, 3] (fun m s wr => ∃ (n : Nat) (t : S), m = .int .i64 n ∧ s = .string (bs t) ∧ n ≤ 1099511627776 ∧ t.length + n ≤ 2000000000000 ∧ Hid (Dg (Lib.decDigits n0) n0 n t) ∧ w = wr) (fun m s _ => 2 * (intOf m).toNat + sizeZ s)
  case atStart => exact ⟨n0, [], rfl, rfl, h0, by simp; omega, Lib.hid (.inl ⟨rfl, rfl⟩), rfl⟩
  case round =>
    obtain ⟨n, t, rfl, rfl, hn, hl, HD, rfl⟩ := hrel
    have zt := bs_size t
    have hm : ((n : Int)).tmod 10 = ((n % 10 : Nat) : Int) := by rw [Int.tmod_eq_emod_of_nonneg (by omega)]; omega
    have hq : ((n : Int)).tdiv 10 = ((n / 10 : Nat) : Int) := by rw [Int.tdiv_eq_ediv_of_nonneg (by omega)]; omega
    have hc := dec_cut (n % 10) (Nat.mod_lt _ (by omega))
    have hk : n % 10 ≤ 9 := by omega
    have ha : bs [UInt8.ofNat (48 + n % 10)] ++ bs t = bs (UInt8.ofNat (48 + n % 10) :: t) := bs_append _ _
    have z1 : (bs [UInt8.ofNat (48 + n % 10)]).size = 1 := by rw [bs_size]; rfl
    obtain ⟨k, hk2⟩ : ∃ k, n % 10 = k := ⟨_, rfl⟩
    obtain ⟨m, hm2⟩ : ∃ m, n / 10 = m := ⟨_, rfl⟩
    have hmn : m ≤ n ∧ (0 < n → m < n) := by omega
    have HN := fun (h : 0 < n ∨ t = []) => HD.out.next h
    rw [hk2, hm2] at HN
    rw [hk2] at hm hc hk ha z1
    rw [hm2] at hq
    have HN := Lib.hid HN
    clear hk2 hm2
    generalize UInt8.ofNat (48 + k) = c at *
    by_cases h1 : 0 < n
    · have h1' : (0 : Int) < (n : Int) := by omega
      have HN2 := Lib.hid (HN.out (.inl h1))
      go_wp2
      go_roundw
      case rel => exact ⟨m, c :: t, rfl, rfl, by omega, by simp; omega, HN2, by trivial⟩
      case measure => (simp [intOf, sizeZ, bs_size]; omega)
    · have h1' : ¬ (0 : Int) < (n : Int) := by omega
      by_cases ht : t = []
      · subst ht
        have he := empty_yes
        have HN2 := Lib.hid (HN.out (.inr rfl))
        go_wp2
        go_roundw
        case rel => exact ⟨m, [c], rfl, rfl, by omega, by simp; omega, HN2, by trivial⟩
        case measure => (simp [intOf, sizeZ, bs_size]; omega)
      · have he := empty_no ht
        have he4 : (bs t).toList ≠ [] := by rw [bs_toList]; exact ht
        have HR := Lib.hid (HD.out.done (fun q => q.elim h1 ht))
        clear ht
        go_wp2
        go_ret
        exact ⟨by rw [HR.out]; rfl, rfl⟩
end
end Go.Proofs.YtlefgffnjcmfoaaGreatDoor
namespace Go.Proofs.YtlefgffnjcmfoaaGreatDoor
open Go.RowKit Go.Maps Go.ChangeMaps Go.MapKept
open Lx Sy
attribute [local go_sem ↓] Go.wp_at_zero Go.wp_at_succ
/-- A profile as a value, the names of its types at tv. -/
def pfV (p : Pf) (tv : Value) : Value := .agg #[.string (bs p.name), .int .i64 p.edit, .int .i64 p.within, .int .i64 p.delete, .bool p.react, .int .i64 p.thread, .bool p.quote, .bool p.mention, .int .i64 p.size, .int .i64 p.parts, .int .i64 p.files, .int .i64 p.bytes, tv, .int .i64 p.join, .int .i64 p.history, .int .i64 p.remove, .int .i64 p.level, .bool p.batch, .int .i64 p.rate, .int .i64 p.down, .int .i64 p.window, .int .i64 p.keep]
def PfAt (w : World) (x : Value) (p : Pf) : Prop := ∃ tv, x = pfV p tv ∧ TxAt w tv p.types
theorem PfAt.keep {w w' : World} {x : Value} {p : Pf} (h : PfAt w x p) (hb : Below w.heap.size w w') : PfAt w' x p := by
  obtain ⟨tv, h1, h2⟩ := h
  exact ⟨tv, h1, h2.keep hb⟩
def fewP (p : Pf) : Bool := decide (p.types.length ≤ 24 ∧ p.name.length ≤ 40 ∧ ∀ x ∈ p.types, x.length ≤ 40)
set_option maxHeartbeats 4000000 in
set_option maxRecDepth 100000 in
theorem y_few {w : World} {x : Value} {p : Pf} (h : PfAt w x p) : Calls Tryz.prog 5 #[x] w fun e w' => e = .returned (.bool (fewP p)) ∧ Below w.heap.size w w' := by
  obtain ⟨tv, rfl, ht⟩ := h
  obtain ⟨ta, tc, rfl⟩ := ht.slice
  unfold pfV
  have hb0 : Below w.heap.size w (w.alloc (.cells #[.string (bs p.name), .int .i64 p.edit, .int .i64 p.within, .int .i64 p.delete, .bool p.react, .int .i64 p.thread, .bool p.quote, .bool p.mention, .int .i64 p.size, .int .i64 p.parts, .int .i64 p.files, .int .i64 p.bytes, .slice ta p.types.length tc, .int .i64 p.join, .int .i64 p.history, .int .i64 p.remove, .int .i64 p.level, .bool p.batch, .int .i64 p.rate, .int .i64 p.down, .int .i64 p.window, .int .i64 p.keep] 24)) := (Below.refl _ _).alloc (Nat.le_refl _) _
  have HB0 := Lib.hid hb0
  have HT := Lib.hid (ht.keep hb0)
  have hh := (MapKept.heap_alloc w (.cells #[.string (bs p.name), .int .i64 p.edit, .int .i64 p.within, .int .i64 p.delete, .bool p.react, .int .i64 p.thread, .bool p.quote, .bool p.mention, .int .i64 p.size, .int .i64 p.parts, .int .i64 p.files, .int .i64 p.bytes, .slice ta p.types.length tc, .int .i64 p.join, .int .i64 p.history, .int .i64 p.remove, .int .i64 p.level, .bool p.batch, .int .i64 p.rate, .int .i64 p.down, .int .i64 p.window, .int .i64 p.keep] 24)).1
  have g0 : (w.alloc (.cells #[.string (bs p.name), .int .i64 p.edit, .int .i64 p.within, .int .i64 p.delete, .bool p.react, .int .i64 p.thread, .bool p.quote, .bool p.mention, .int .i64 p.size, .int .i64 p.parts, .int .i64 p.files, .int .i64 p.bytes, .slice ta p.types.length tc, .int .i64 p.join, .int .i64 p.history, .int .i64 p.remove, .int .i64 p.level, .bool p.batch, .int .i64 p.rate, .int .i64 p.down, .int .i64 p.window, .int .i64 p.keep] 24)).cell? ⟨w.heap.size, 0, none⟩ = some (.string (bs p.name)) := by rw [Lib.cell_of_heap hh]; rfl
  have g12 : (w.alloc (.cells #[.string (bs p.name), .int .i64 p.edit, .int .i64 p.within, .int .i64 p.delete, .bool p.react, .int .i64 p.thread, .bool p.quote, .bool p.mention, .int .i64 p.size, .int .i64 p.parts, .int .i64 p.files, .int .i64 p.bytes, .slice ta p.types.length tc, .int .i64 p.join, .int .i64 p.history, .int .i64 p.remove, .int .i64 p.level, .bool p.batch, .int .i64 p.rate, .int .i64 p.down, .int .i64 p.window, .int .i64 p.keep] 24)).cell? ⟨w.heap.size, 12, none⟩ = some (.slice ta p.types.length tc) := by rw [Lib.cell_of_heap hh]; rfl
  have zn := bs_size p.name
  clear ht hb0 hh
  go_enter Tryz.func5, Tryz.ntmps5
  go_wp2
  generalize w.alloc (.cells #[.string (bs p.name), .int .i64 p.edit, .int .i64 p.within, .int .i64 p.delete, .bool p.react, .int .i64 p.thread, .bool p.quote, .bool p.mention, .int .i64 p.size, .int .i64 p.parts, .int .i64 p.files, .int .i64 p.bytes, .slice ta p.types.length tc, .int .i64 p.join, .int .i64 p.history, .int .i64 p.remove, .int .i64 p.level, .bool p.batch, .int .i64 p.rate, .int .i64 p.down, .int .i64 p.window, .int .i64 p.keep] 24) = w1 at *
  go_loopw [3] (fun i wr => ∃ k : Nat, k ≤ p.types.length ∧ i = .int .i64 k ∧ k ≤ 25 ∧ Hid (∀ x ∈ p.types.take k, x.length ≤ 40) ∧ w1 = wr) (fun i _ => 26 - (intOf i).toNat)
  case atStart => exact ⟨0, Nat.zero_le _, rfl, by omega, Lib.hid (by simp), by trivial⟩
  case round =>
    obtain ⟨k, hk, rfl, hk25, HX, rfl⟩ := hrel
    by_cases hlt : k < p.types.length
    · have hlt' : (k : Int) < (p.types.length : Int) := by omega
      by_cases h24 : k ≤ 24
      · have h24' : (k : Int) ≤ 24 := by omega
        obtain ⟨s, hs⟩ : ∃ s, p.types[k]? = some s := ⟨_, List.getElem?_eq_getElem hlt⟩
        obtain ⟨g, off, cap, h1, _, hc⟩ := HT.out.form (by omega)
        cases h1
        have c0 := hc k s hs
        have zs := bs_size s
        have HS := Lib.hid hs
        clear hc hs
        by_cases h40 : 40 < s.length
        · have h40' : (40 : Int) < (s.length : Int) := by omega
          have HR := Lib.hid (show fewP p = false from decide_eq_false fun q => by have := q.2.2 s (List.mem_of_getElem? HS.out); omega)
          go_wp2
          go_ret
          exact ⟨ret_bool HR.out.symm, HB0.out⟩
        · have h40' : ¬ (40 : Int) < (s.length : Int) := by omega
          have HX2 := Lib.hid (show ∀ x ∈ p.types.take (k + 1), x.length ≤ 40 by
            intro x hx
            rw [List.take_add_one, HS.out] at hx
            rcases List.mem_append.1 hx with q | q
            · exact HX.out x q
            · simp at q; subst q; omega)
          go_wp2
          go_roundw
          case rel => exact ⟨k + 1, by omega, by go_num, by omega, HX2, by trivial⟩
          case measure => simp [intOf]; omega
      · have h24' : ¬ (k : Int) ≤ 24 := by omega
        have hl : ¬ (p.types.length : Int) ≤ 24 := by omega
        have HR := Lib.hid (show fewP p = false from decide_eq_false fun q => by have := q.1; omega)
        go_wp2
        go_ret
        exact ⟨ret_bool HR.out.symm, HB0.out⟩
    · obtain rfl : k = p.types.length := by omega
      have HX := Lib.hid (show ∀ x ∈ p.types, x.length ≤ 40 by have := HX.out; rwa [List.take_length] at this)
      by_cases hl : p.types.length ≤ 24
      · have hl' : (p.types.length : Int) ≤ 24 := by omega
        by_cases hn : p.name.length ≤ 40
        · have hn' : (p.name.length : Int) ≤ 40 := by omega
          have HR := Lib.hid (show fewP p = true from decide_eq_true ⟨hl, hn, HX.out⟩)
          go_wp2
          go_ret
          exact ⟨ret_bool HR.out.symm, HB0.out⟩
        · have hn' : ¬ (p.name.length : Int) ≤ 40 := by omega
          have HR := Lib.hid (show fewP p = false from decide_eq_false fun q => hn q.2.1)
          have hnd : decide (p.name.length ≤ 40) = false := decide_eq_false hn
          go_wp2
          go_ret
          exact ⟨ret_bool HR.out.symm, HB0.out⟩
      · have hl' : ¬ (p.types.length : Int) ≤ 24 := by omega
        have hld : decide (p.types.length ≤ 24) = false := decide_eq_false hl
        have HR := Lib.hid (show fewP p = false from decide_eq_false fun q => hl q.1)
        go_wp2
        go_ret
        exact ⟨ret_bool HR.out.symm, HB0.out⟩
end Go.Proofs.YtlefgffnjcmfoaaGreatDoor
