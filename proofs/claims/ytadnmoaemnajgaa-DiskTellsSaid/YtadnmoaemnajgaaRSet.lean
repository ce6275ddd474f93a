/- The reference's set. -/
import Derived.Test.YtadnmoaemnajgaaRPut
namespace Go.Proofs.Ytadnmoaemnajgaa
open Go.RowKit Go.Maps Go.ChangeMaps Go.MapKept
open Dp
attribute [local go_sem ↓] Go.wp_at_zero Go.wp_at_succ

theorem fl_info : (Try.prog.info? 67).map (fun i => (i.zero, i.size, i.bytes)) = some (some (.agg #[.int .i64 0, .string ⟨#[]⟩, .string ⟨#[]⟩]), 3, 40) := by kernel_rfl
theorem rsec_info : (Try.prog.info? 79).map (fun i => (i.zero, i.size, i.bytes)) = some (some (.agg #[.int .i64 0, .int .i64 0]), 2, 16) := by kernel_rfl

theorem push_fl (w : World) (v : Value) (l : List Fl) (own : w.ownsRow 0 67 3 v l.length (flVs l)) (hl : l.length ≤ 1000) (x : Fl) {a : Nat} (h0 : w.cell? ⟨a, 0, none⟩ = some (.int .i64 (x.num : Int))) (h1 : w.cell? ⟨a, 1, none⟩ = some (.string (bs x.now))) (h2 : w.cell? ⟨a, 2, none⟩ = some (.string (bs x.dur))) (ty : TypeId) :
    ∃ v' w', (Builtin.append_ #[61, 61] ty #[v, .slice (some ⟨a, 0, none⟩) 1 1]).run Try.prog w = .ok v' w' ∧ w'.ownsRow 0 67 3 v' (l ++ [x]).length (flVs (l ++ [x])) ∧ w.grownBy w' v.ownBlock ∧ (v'.ownBlock = v.ownBlock ∨ v'.ownBlock = some w.heap.size) := by
  obtain ⟨i0, hi, hz0, hz1, hz2⟩ := info_parts fl_info
  obtain ⟨v', w', r1, r2, r3, _, r5⟩ := run_append_own_at (P := Try.prog) w 0 61 ty 67 i0 (.agg #[.int .i64 0, .string ⟨#[]⟩, .string ⟨#[]⟩]) 3 40 Try.underlying61 hi hz0 hz1 hz2 rfl (by decide) v l.length (flVs l) own ⟨a, 0, none⟩ 1 1 [.int .i64 (x.num : Int), .string (bs x.now), .string (bs x.dur)] rfl (fun j u hj => by
      rw [Lib.add_plain]
      match j, hj with
      | 0, hj => simp at hj; subst hj; exact h0
      | 1, hj => simp at hj; subst hj; exact h1
      | 2, hj => simp at hj; subst hj; exact h2) (fun u hu => by simp at hu; rcases hu with rfl | rfl | rfl <;> rfl) (by unfold maxLen; omega) (by omega) (Nat.zero_le _)
  exact ⟨v', w', r1, by rw [flVs_snoc, List.length_append]; exact r2, r3, r5⟩
theorem push_sec (w : World) (v : Value) (l : List (Nat × Nat)) (own : w.ownsRow 0 79 2 v l.length (secVs l)) (hl : l.length ≤ 4194304) (x : Nat × Nat) {a : Nat} (h0 : w.cell? ⟨a, 0, none⟩ = some (.int .i64 (x.1 : Int))) (h1 : w.cell? ⟨a, 1, none⟩ = some (.int .i64 (x.2 : Int))) (ty : TypeId) :
    ∃ v' w', (Builtin.append_ #[62, 62] ty #[v, .slice (some ⟨a, 0, none⟩) 1 1]).run Try.prog w = .ok v' w' ∧ w'.ownsRow 0 79 2 v' (l ++ [x]).length (secVs (l ++ [x])) ∧ w.grownBy w' v.ownBlock ∧ (v'.ownBlock = v.ownBlock ∨ v'.ownBlock = some w.heap.size) := by
  obtain ⟨i0, hi, hz0, hz1, hz2⟩ := info_parts rsec_info
  obtain ⟨v', w', r1, r2, r3, _, r5⟩ := run_append_own_at (P := Try.prog) w 0 62 ty 79 i0 (.agg #[.int .i64 0, .int .i64 0]) 2 16 Try.underlying62 hi hz0 hz1 hz2 rfl (by decide) v l.length (secVs l) own ⟨a, 0, none⟩ 1 1 [.int .i64 (x.1 : Int), .int .i64 (x.2 : Int)] rfl (fun j u hj => by
      rw [Lib.add_plain]
      match j, hj with
      | 0, hj => simp at hj; subst hj; exact h0
      | 1, hj => simp at hj; subst hj; exact h1) (fun u hu => by simp at hu; rcases hu with rfl | rfl <;> rfl) (by unfold maxLen; omega) (by omega) (Nat.zero_le _)
  exact ⟨v', w', r1, by rw [secVs_snoc, List.length_append]; exact r2, r3, r5⟩
theorem grown_below {w w1 w2 : World} {row : Option Nat} (hb : Below w.heap.size w w1) (g : w1.grownBy w2 row) (hr : ∀ k, row = some k → w.heap.size ≤ k) : Below w.heap.size w w2 :=
  have hs := hb.size
  ⟨g.os.trans hb.os, g.tape.trans hb.tape, g.output.trans hb.output, Nat.le_trans hs g.size, fun k hk => (g.block k (by omega) (fun e => by have := hr k e.symm; omega)).trans (hb.block k hk)⟩
theorem below_dn {B : Nat} {w w' : World} (h : Below B w w') (n : Nat) : Below B w (w'.drewN n) := ⟨h.os, h.tape, h.output, h.size, h.block⟩
theorem grown_refl (w : World) (row : Option Nat) : w.grownBy w row := ⟨rfl, rfl, rfl, Nat.le_refl _, fun _ _ _ => rfl⟩

def others' (n : Nat) (l : List Fl) : List Fl := l.filter fun y => decide (y.num ≠ n)
theorem others_take {n : Nat} {l : List Fl} {k : Nat} {y : Fl} (h : l[k]? = some y) : others' n (l.take (k + 1)) = others' n (l.take k) ++ (if y.num = n then [] else [y]) := by
  obtain ⟨hk, rfl⟩ := List.getElem?_eq_some_iff.1 h
  rw [List.take_succ_eq_append_getElem hk]
  unfold others'
  rw [List.filter_append]
  congr 1
  by_cases hn : l[k].num = n <;> simp [hn]
theorem others_len {n : Nat} {l : List Fl} : (others' n l).length ≤ l.length := List.length_filter_le _ _
theorem Rf.set_eq (R : Rf) (x : Fl) : R.set x = { R with files := others' x.num R.files ++ [x] } := rfl
theorem Rf.Ok.set {R : Rf} (h : R.Ok) {x : Fl} (h1 : x.num < 16) (h2 : x.now.length ≤ 16777216) (h3 : x.dur.length ≤ 16777216) : (R.set x).Ok := by
  refine ⟨?_, fun y hy => ?_, h.queue, h.few, h.lost, h.armed, h.keep, h.size⟩
  · rw [Rf.set_eq]
    simp only [List.map_append, List.map_cons, List.map_nil]
    rw [List.nodup_append]
    refine ⟨?_, by simp, fun y hy z hz => ?_⟩
    · exact (List.Nodup.sublist (List.Sublist.map Fl.num (show (others' x.num R.files).Sublist R.files from List.filter_sublist)) h.nums)
    · simp at hz; subst hz
      obtain ⟨u, hu, rfl⟩ := List.mem_map.1 hy
      have := (List.mem_filter.1 hu).2
      simpa using this
  · rw [Rf.set_eq] at hy
    rcases List.mem_append.1 hy with hy | hy
    · exact h.file y (List.mem_filter.1 hy).1
    · simp at hy; subst hy; exact ⟨h1, h2, h3⟩

section
variable {w : World} {lab : Nat → Nat} {id r : Nat} {R : Rf} {L : RLoc}
/-- What a call leaves that doesn't touch the list of what a crash keeps. -/
def RPostK (lab : Nat → Nat) (id r : Nat) (v : Value) (R' : Rf) (L : RLoc) (w : World) (e : Ending) (w' : World) : Prop := e = .returned v ∧ ∃ lab' L', RIn w' lab' id r R' L' ∧ L'.kv = L.kv ∧ Chg id lab lab' w w'
theorem RPostK.post {v : Value} {R' : Rf} {e : Ending} {w' : World} (h : RPostK lab id r v R' L w e w') : RPost lab id r v R' w e w' := by
  obtain ⟨h0, lab', L', h1, _, h2⟩ := h
  exact ⟨h0, lab', ⟨L', h1⟩, h2⟩
/-- The list of files is replaced by a new one. -/
theorem RIn.newFiles {w1 : World} (h : RIn w lab id r R L) (hb : Below w.heap.size w w1) {R' : Rf} {v : Value} (hv : ∀ k, v.ownBlock = some k → w.heap.size ≤ k) (ok : R'.Ok) (hq : R'.queue = R.queue) (hl : R'.lost = R.lost) (hd : R'.down = R.down) (ha : R'.armed = R.armed) (hk : R'.keep = R.keep)
    (o : w1.ownsRow 0 67 3 v R'.files.length (flVs R'.files)) :
    ∃ lab' L', RIn (w1.setCell ⟨r, 0, none⟩ v) lab' id r R' L' ∧ L'.kv = L.kv ∧ Chg id lab lab' w (w1.setCell ⟨r, 0, none⟩ v) := by
  have h1 := h.fresh hb
  obtain ⟨h2, k2⟩ := h1.setRow (i := 0) (R' := R') (L' := { L with fv := v }) (c := id + 1) (h.chg0 hb) (.inl rfl) (grown_refl w1 v.ownBlock) (fun k hk' => .inr ⟨h.lo k (hv k hk'), hv k hk'⟩) (fun k hk' => .inl hk') (fun k hk' => (o.lt k hk').2) (Hp.refl _) ok hl hd ha rfl (.inr ⟨rfl, rfl, o⟩) (.inl ⟨by omega, rfl, hq⟩) (.inl ⟨by omega, rfl, hk⟩)
  exact ⟨_, _, h2, rfl, k2⟩
theorem RIn.newQueue {w1 : World} (h : RIn w lab id r R L) (hb : Below w.heap.size w w1) {R' : Rf} {v : Value} (hv : ∀ k, v.ownBlock = some k → w.heap.size ≤ k) (ok : R'.Ok) (hq : R'.files = R.files) (hl : R'.lost = R.lost) (hd : R'.down = R.down) (ha : R'.armed = R.armed) (hk : R'.keep = R.keep)
    (o : w1.ownsRow 0 79 2 v R'.queue.length (secVs R'.queue)) :
    ∃ lab', RG (w1.setCell ⟨r, 1, none⟩ v) lab' id r R' ∧ Chg id lab lab' w (w1.setCell ⟨r, 1, none⟩ v) := by
  have h1 := h.fresh hb
  obtain ⟨h2, k2⟩ := h1.setRow (i := 1) (R' := R') (L' := { L with qv := v }) (c := id + 2) (h.chg0 hb) (.inr (.inl rfl)) (grown_refl w1 v.ownBlock) (fun k hk' => .inr ⟨h.lo k (hv k hk'), hv k hk'⟩) (fun k hk' => .inl hk') (fun k hk' => (o.lt k hk').2) (Hp.refl _) ok hl hd ha rfl (.inl ⟨by omega, rfl, hq⟩) (.inr ⟨rfl, rfl, o⟩) (.inl ⟨by omega, rfl, hk⟩)
  exact ⟨_, ⟨_, h2⟩, k2⟩

set_option maxHeartbeats 2000000 in
set_option maxRecDepth 100000 in
theorem rset_keep (h : RIn w lab id r R L) (x : Fl) (h1 : x.num < 16) (h2 : x.now.length ≤ 16777216) (h3 : x.dur.length ≤ 16777216) :
    Calls Try.prog 56 #[.pointer (some ⟨r, 0, none⟩), .agg #[.int .i64 (x.num : Int), .string (bs x.now), .string (bs x.dur)]] w (RPostK lab id r (.tuple #[]) (R.set x) L w) := by
  have H := Lib.hid h
  have hlen := h.ok.len
  have HOK := Lib.hid (h.ok.set h1 h2 h3)
  obtain ⟨fa, fc, hfv⟩ := own_form h.files
  have HFV := Lib.hid hfv
  have HB := Lib.hid (below_alloc w (.cells #[.int .i64 (x.num : Int), .string (bs x.now), .string (bs x.dur)] 67))
  have hx0 := alloc_new_cell w #[.int .i64 (x.num : Int), .string (bs x.now), .string (bs x.dur)] 67 0
  have hx1 := alloc_new_cell w #[.int .i64 (x.num : Int), .string (bs x.now), .string (bs x.dur)] 67 1
  have hx2 := alloc_new_cell w #[.int .i64 (x.num : Int), .string (bs x.now), .string (bs x.dur)] 67 2
  have hsz : w.heap.size < (w.alloc (.cells #[.int .i64 (x.num : Int), .string (bs x.now), .string (bs x.dur)] 67)).heap.size := by simp
  simp only [List.getElem?_toArray, List.getElem?_cons_zero, List.getElem?_cons_succ] at hx0 hx1 hx2
  have c0 := (h.fresh HB.out).c 0
  simp only [List.getElem?_toArray, List.getElem?_cons_zero] at c0
  rw [hfv] at c0
  clear h hfv
  go_enter Try.func56, Try.ntmps56
  go_wp2
  generalize hwa : w.alloc (.cells #[.int .i64 (x.num : Int), .string (bs x.now), .string (bs x.dur)] 67) = wa at *
  clear hwa
  have HX := Lib.hid (And.intro hx0 (And.intro hx1 hx2))
  clear hx0 hx1 hx2 c0
  go_loopw [4, 5] (fun v i wr => ∃ k : Nat, k ≤ R.files.length ∧ i = .int .i64 (k : Int) ∧ Hid (Below wa.heap.size wa wr) ∧ Hid (wr.ownsRow 0 67 3 v (others' x.num (R.files.take k)).length (flVs (others' x.num (R.files.take k)))) ∧ Hid (∀ j, v.ownBlock = some j → wa.heap.size ≤ j)) (fun _ i _ => R.files.length - (intOf i).toNat)
  case atStart => exact ⟨0, Nat.zero_le _, rfl, Lib.hid (Below.refl _ _), Lib.hid (World.ownsRow_nil _ _ _ _), Lib.hid fun j hj => by cases hj⟩
  case round =>
    obtain ⟨k, hk, rfl, HE, HO, HJ⟩ := hrel
    have hwr := HE.out.size
    have hbw : Below w.heap.size w wr := HB.out.trans (HE.out.mono (Nat.le_of_lt hsz))
    have hr := H.out.fresh hbw
    have c0 := hr.c 0
    simp only [List.getElem?_toArray, List.getElem?_cons_zero] at c0
    rw [HFV.out] at c0
    have x0 := below_cell HX.out.1 HE.out
    have x1 := below_cell HX.out.2.1 HE.out
    have x2 := below_cell HX.out.2.2 HE.out
    by_cases hlt : k < R.files.length
    · obtain ⟨y, hy⟩ : ∃ y, R.files[k]? = some y := ⟨_, List.getElem?_eq_getElem hlt⟩
      obtain ⟨g, cap, hv, d0, d1, d2⟩ := fl_cell hr hy
      have hv2 := HFV.out.symm.trans hv
      simp only [Value.slice.injEq, true_and] at hv2
      obtain ⟨rfl, rfl⟩ := hv2
      have HY := Lib.hid hy
      clear hy hr hv hbw
      have hol : (others' x.num (R.files.take k)).length ≤ 1000 := by have := others_len (n := x.num) (l := R.files.take k); have := List.length_take_le k R.files; omega
      obtain ⟨oa, oc, rfl⟩ := own_form HO.out
      by_cases hne : y.num = x.num
      · have hne' : ((y.num : Int) == (x.num : Int)) = true := by rw [beq_iff_eq]; omega
        have HN := Lib.hid hne
        clear hne
        go_wp2
        go_quiet (fail)
        go_wp2
        go_roundw
        case rel => exact ⟨k + 1, by omega, by go_num, Lib.hid (below_dn HE.out nq), Lib.hid (by rw [others_take HY.out, if_pos HN.out, List.append_nil]; exact HO.out), HJ⟩
        case measure => simp [intOf]; omega
      · have hne' : ((y.num : Int) == (x.num : Int)) = false := by rw [beq_eq_false_iff_ne]; omega
        have HN := Lib.hid hne
        clear hne
        go_wp2
        go_quiet (fail)
        have HE2 := Lib.hid (below_dn HE.out nq)
        have HO2 := Lib.hid (show (wr.drewN nq).ownsRow 0 67 3 _ _ _ from HO.out)
        have e0 : (wr.drewN nq).cell? ⟨r, 0, none⟩ = _ := c0
        have g0 : (wr.drewN nq).cell? ⟨g, k * 3, none⟩ = _ := d0
        have g1 : (wr.drewN nq).cell? ⟨g, k * 3 + 1, none⟩ = _ := d1
        have g2 : (wr.drewN nq).cell? ⟨g, k * 3 + 2, none⟩ = _ := d2
        clear c0 d0 d1 d2 x0 x1 x2 HE HO hwr
        generalize wr.drewN nq = wo at HE2 HO2 e0 g0 g1 g2 ⊢
        have hA := below_alloc wo (.cells #[.int .i64 (y.num : Int), .string (bs y.now), .string (bs y.dur)] 67)
        obtain ⟨v', w', r1, r2, r3, r4⟩ := push_fl (wo.alloc (.cells #[.int .i64 (y.num : Int), .string (bs y.now), .string (bs y.dur)] 67)) _ _ (HO2.out.alloc _) hol y (a := wo.heap.size) (alloc_new_cell wo _ _ 0) (alloc_new_cell wo _ _ 1) (alloc_new_cell wo _ _ 2) 61
        have HRR := Lib.hid r1
        have hws := HE2.out.size
        have hbA := HE2.out.trans (hA.mono hws)
        have HB3 := Lib.hid (grown_below hbA r3 HJ.out)
        have HO3 := Lib.hid r2
        have HJ3 := Lib.hid (show ∀ j, v'.ownBlock = some j → wa.heap.size ≤ j from fun j hj => by
          rcases r4 with h | h
          · exact HJ.out j (h.symm.trans hj)
          · have h9 := h.symm.trans hj
            simp only [World.size_alloc, Option.some.injEq] at h9
            omega)
        clear r1 r2 r3 r4 hA hbA
        go_wp2_with (at_builtin; refine wpList_append_run rfl _ _ _ _ rfl _ _ rfl rfl _ _ HRR.out ?_)
        go_wp2
        go_roundw
        case rel => exact ⟨k + 1, by omega, by go_num, HB3, Lib.hid (by rw [others_take HY.out, if_neg HN.out]; exact HO3.out), HJ3⟩
        case measure => simp [intOf]; omega
    · obtain rfl : k = R.files.length := by omega
      have hol : (others' x.num R.files).length ≤ 1000 := by have := others_len (n := x.num) (l := R.files); omega
      have hO := HO.out
      rw [List.take_length] at hO
      obtain ⟨oa, oc, rfl⟩ := own_form hO
      have hA := below_alloc wr (.cells #[.int .i64 (x.num : Int), .string (bs x.now), .string (bs x.dur)] 67)
      obtain ⟨v', w', r1, r2, r3, r4⟩ := push_fl (wr.alloc (.cells #[.int .i64 (x.num : Int), .string (bs x.now), .string (bs x.dur)] 67)) _ _ (hO.alloc _) hol x (a := wr.heap.size) (alloc_new_cell wr _ _ 0) (alloc_new_cell wr _ _ 1) (alloc_new_cell wr _ _ 2) 61
      have hbA := HE.out.trans (hA.mono hwr)
      have hB3 := grown_below hbA r3 HJ.out
      have hJ3 : ∀ j, v'.ownBlock = some j → wa.heap.size ≤ j := fun j hj => by
        rcases r4 with h | h
        · exact HJ.out j (h.symm.trans hj)
        · have h9 := h.symm.trans hj
          simp only [World.size_alloc, Option.some.injEq] at h9
          omega
      have hbF := HB.out.trans (hB3.mono (Nat.le_of_lt hsz))
      have hrF := H.out.fresh hbF
      have e0 := hrF.c 0
      have f0 := hrF.fz 0
      simp only [List.getElem?_toArray, List.getElem?_cons_zero] at e0
      rw [HFV.out] at e0
      have HNW := Lib.hid (H.out.newFiles (R' := R.set x) hbF (fun j hj => Nat.le_trans (Nat.le_of_lt hsz) (hJ3 j hj)) HOK.out rfl rfl rfl rfl rfl r2)
      obtain ⟨va, vc, hv'⟩ := own_form r2
      subst hv'
      have HRR := Lib.hid r1
      clear r1 r2 r3 r4 hA hbA hB3 hJ3 hbF hrF hr hbw hO
      go_wp2_with (at_builtin; refine wpList_append_run rfl _ _ _ _ rfl _ _ rfl rfl _ _ HRR.out ?_)
      go_wp2
      go_end0
      obtain ⟨lab', L', n1, n3, n2⟩ := HNW.out
      rw [show (others' x.num R.files ++ [x]).length = (others' x.num R.files).length + 1 by simp] at n1 n2
      exact ⟨rfl, lab', L', n1, n3, n2⟩
theorem rset_any (h : RIn w lab id r R L) (x : Fl) (h1 : x.num < 16) (h2 : x.now.length ≤ 16777216) (h3 : x.dur.length ≤ 16777216) :
    Calls Try.prog 56 #[.pointer (some ⟨r, 0, none⟩), .agg #[.int .i64 (x.num : Int), .string (bs x.now), .string (bs x.dur)]] w (RPost lab id r (.tuple #[]) (R.set x) w) :=
  (rset_keep h x h1 h2 h3).mono fun _ _ h => h.post
end
end Go.Proofs.Ytadnmoaemnajgaa
