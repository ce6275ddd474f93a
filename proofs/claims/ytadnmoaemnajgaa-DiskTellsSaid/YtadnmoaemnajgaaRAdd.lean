/- The reference's add, settle and survive. -/
import Derived.Test.YtadnmoaemnajgaaRSet
namespace Go.Proofs.Ytadnmoaemnajgaa
open Go.RowKit Go.Maps Go.ChangeMaps Go.MapKept
open Dp
attribute [local go_sem ↓] Go.wp_at_zero Go.wp_at_succ

theorem rnow_len {R : Rf} (h : R.Ok) (f : Int) : (R.now f).length ≤ 16777216 ∧ (R.dur f).length ≤ 16777216 := by
  unfold Rf.now Rf.dur
  cases hl : R.look f with
  | none => exact ⟨by simp, by simp⟩
  | some x =>
    have := h.file x (List.mem_of_find?_eq_some hl)
    exact ⟨this.2.1, this.2.2⟩
def Rf.putF (R : Rf) (f a : Nat) (s : List UInt8) : Rf := R.set ⟨f, putN (R.now f) a s, R.dur f⟩
/-- A write that is possible. -/
def Rf.add (R : Rf) (f a : Nat) (s : List UInt8) : Rf := if s = [] then R else { R.putF f a s with queue := addSecs R.queue f (a / 64) (K0 a s.length) }
theorem Rf.Ok.queue' {R : Rf} (h : R.Ok) {q : List (Nat × Nat)} (h1 : q.Nodup) (h2 : ∀ p ∈ q, p.1 < 16 ∧ p.2 < 262144) : ({ R with queue := q } : Rf).Ok := ⟨h.nums, h.file, h1, h2, h.lost, h.armed, h.keep, h.size⟩

section
variable {w : World} {lab : Nat → Nat} {id r : Nat} {R : Rf} {L : RLoc}
/-- One more sector is pending. -/
theorem RIn.pushQueue (h : RIn w lab id r R L) {p : Nat × Nat} (hp : p ∉ R.queue) (h1 : p.1 < 16) (h2 : p.2 < 262144) {w0 : World} {lab0 : Nat → Nat} (k0 : Chg id lab0 lab w0 w) {w1 : World} {v' : Value}
    (g : w.grownBy w1 L.qv.ownBlock) (o : w1.ownsRow 0 79 2 v' (R.queue ++ [p]).length (secVs (R.queue ++ [p]))) (hl : v'.ownBlock = L.qv.ownBlock ∨ ∀ k, v'.ownBlock = some k → w.heap.size ≤ k) :
    ∃ lab', RG (w1.setCell ⟨r, 1, none⟩ v') lab' id r { R with queue := R.queue ++ [p] } ∧ Chg id lab0 lab' w0 (w1.setCell ⟨r, 1, none⟩ v') := by
  obtain ⟨h2, k2⟩ := h.setRow (i := 1) (v := v') (R' := { R with queue := R.queue ++ [p] }) (L' := { L with qv := v' }) (c := id + 2) k0 (.inr (.inl rfl)) g (fun k hk => .inl (h.lq k hk)) (fun k hk => by
    rcases hl with h3 | h3
    · exact .inl (h3.symm.trans hk)
    · exact .inr (h3 k hk)) (fun k hk => (o.lt k hk).2) (Hp.refl _) (h.ok.queue' (by
      rw [List.nodup_append]; exact ⟨h.ok.queue, by simp, fun a ha b hb e => by simp at hb; subst hb; subst e; exact hp ha⟩) (fun q hq => by
      rcases List.mem_append.1 hq with h3 | h3
      · exact h.ok.few q h3
      · simp at h3; subst h3; exact ⟨h1, h2⟩)) rfl rfl rfl rfl (.inl ⟨by omega, rfl, rfl⟩) (.inr ⟨rfl, rfl, o⟩) (.inl ⟨by omega, rfl, rfl⟩)
  exact ⟨_, ⟨_, h2⟩, k2⟩

/-- While the sectors are put into the queue. -/
def AddInv (lab : Nat → Nat) (id r : Nat) (R : Rf) (f n0 : Nat) (w : World) (k : Nat) (wr : World) : Prop :=
  ∃ lab', RG wr lab' id r { R with queue := addSecs R.queue f n0 k } ∧ Chg id lab lab' w wr

set_option maxHeartbeats 4000000 in
set_option maxRecDepth 100000 in
theorem radd_some (h : RIn w lab id r R L) (f a : Nat) (s : List UInt8) (hf : f < 16) (ha : a + s.length ≤ 16777216) (hs : 0 < s.length) :
    Calls Try.prog 53 #[.pointer (some ⟨r, 0, none⟩), .int .i64 (f : Int), .int .i64 (a : Int), .string (bs s)] w (RPost lab id r (.tuple #[]) { R.putF f a s with queue := addSecs R.queue f (a / 64) (K0 a s.length) } w) := by
  have H := Lib.hid h
  have hne : (bs s).toList.isEmpty = false := by rw [bs_toList]; cases s with | nil => simp at hs | cons x t => rfl
  have hz := bs_size s
  obtain ⟨hn1, hn2⟩ := rnow_len h.ok (f : Int)
  have hpl : (putN (R.now f) a s).length ≤ 16777216 := by
    unfold putN; split
    · exact hn1
    · rw [putL_length]; omega
  have HPL := Lib.hid hpl
  have HN2 := Lib.hid hn2
  have HN1 := Lib.hid hn1
  have HG := Lib.hid (get_any h (f : Int) ⟨by omega, by omega⟩)
  clear h hn1 hn2 hpl
  go_enter Try.func53, Try.ntmps53
  go_wp2_with (go_at_call 39; refine HG.out.mono ?_; rintro e w1 ⟨rfl, b1⟩; refine Hid.out ?_)
  refine Lib.hid ?_
  have B1 := Lib.hid b1
  clear b1 HG
  have HP := Lib.hid (fun w => rput_any (R.now f) a s HN1.out ha w)
  go_wp2_with (go_at_call 57; refine (HP.out _).mono ?_; rintro e w2 ⟨rfl, b2⟩; refine Hid.out ?_)
  refine Lib.hid ?_
  obtain ⟨B, hB⟩ : ∃ B, B = w1.heap.size := ⟨_, rfl⟩
  have hblk2 : w2.heap[w1.heap.size]? = some (.cells #[.int .i64 (f : Int), .string (bs (R.now f)), .string (bs (R.dur f))] 67 (0, 0)) := (b2.block _ (by simp)).trans (heap_alloc_new w1 _)
  have hbw1 := B1.out
  have hbw2 : Below w.heap.size w w2 := (hbw1.trans ((below_alloc w1 _).mono hbw1.size)).trans (b2.mono (Nat.le_trans hbw1.size (by simp)))
  have d0 : w2.cell? ⟨w1.heap.size, 0, none⟩ = some (.int .i64 (f : Int)) := by rw [Lib.cell_of_heap hblk2]; rfl
  have d1 : w2.cell? ⟨w1.heap.size, 1, none⟩ = some (.string (bs (R.now f))) := by rw [Lib.cell_of_heap hblk2]; rfl
  have d2 : w2.cell? ⟨w1.heap.size, 2, none⟩ = some (.string (bs (R.dur f))) := by rw [Lib.cell_of_heap hblk2]; rfl
  have f1 := Lib.frozen_of_heap hblk2 1
  have hbw3 : Below w.heap.size w (w2.setCell ⟨w1.heap.size, 1, none⟩ (.string (bs (putN (R.now f) a s)))) := hbw2.setCell (p := ⟨w1.heap.size, 1, none⟩) hbw1.size _
  have HS := Lib.hid (rset_any (H.out.fresh hbw3) ⟨f, putN (R.now f) a s, R.dur f⟩ hf HPL.out HN2.out)
  have HK3 := Lib.hid (H.out.chg0 hbw3)
  clear b2 hblk2 hbw1 hbw2 hbw3 hB HP
  go_wp2_with (go_at_call 56; refine HS.out.mono ?_; rintro e w4 ⟨rfl, lab4, g4, k4⟩; refine Hid.out ?_)
  refine Lib.hid ?_
  clear d0 d1 d2 f1 HS
  have hR' : R.set ⟨f, putN (R.now f) a s, R.dur f⟩ = R.putF f a s := rfl
  rw [hR'] at g4
  have HST := Lib.hid (show AddInv lab id r (R.putF f a s) f (a / 64) w 0 w4 from ⟨lab4, g4, HK3.out.trans k4⟩)
  clear g4 k4 HK3 B1 HPL HN1 HN2
  obtain ⟨R', hR'⟩ : ∃ R', R.putF f a s = R' := ⟨_, rfl⟩
  rw [hR'] at HST
  have HR' := Lib.hid hR'
  clear hR'
  obtain ⟨n0, hn0⟩ : ∃ n, n = a / 64 := ⟨_, rfl⟩
  obtain ⟨n1, hn1⟩ : ∃ n, n = (a + s.length - 1) / 64 := ⟨_, rfl⟩
  have hK : n0 + K0 a s.length = n1 + 1 := by unfold K0; omega
  have hlb : n1 < 262144 := by omega
  have hq0 : (a : Int).tdiv 64 = (n0 : Int) := by rw [hn0]; exact (Int.ofNat_tdiv a 64).symm
  have hq1 : ((a : Int) + ((bs s).size : Int) - 1).tdiv 64 = (n1 : Int) := by
    rw [hn1, bs_size, show (a : Int) + (s.length : Int) - 1 = ((a + s.length - 1 : Nat) : Int) by omega]; exact (Int.ofNat_tdiv _ 64).symm
  rw [← hn0] at HST
  have hzz : (bs s).size ≤ 16777216 := by omega
  have HN0 := Lib.hid hn0
  clear hn0 hn1 hz
  go_wp2
  go_loopw [9] (fun n wr => ∃ j : Nat, n0 ≤ j ∧ j ≤ n1 + 1 ∧ n = .int .i64 (j : Int) ∧ Hid (AddInv lab id r R' f n0 w (j - n0) wr)) (fun n _ => n1 + 1 - (intOf n).toNat)
  case atStart => exact ⟨n0, Nat.le_refl _, by omega, rfl, by rw [Nat.sub_self]; exact HST⟩
  case round =>
    obtain ⟨j, hj0, hjl, rfl, HINV⟩ := hrel
    by_cases hlt : j ≤ n1
    · obtain ⟨lab1, ⟨L1, h1⟩, k1⟩ := HINV.out
      have hsn : addSecs R'.queue f n0 (j + 1 - n0) = addSec (addSecs R'.queue f n0 (j - n0)) (f, j) := by
        rw [show j + 1 - n0 = (j - n0) + 1 by omega, addSecs_snoc, show n0 + (j - n0) = j by omega]
      have HSN := Lib.hid hsn
      have hle : (j : Int) ≤ (n1 : Int) := by omega
      generalize hps : addSecs R'.queue f n0 (j - n0) = ps at h1 HSN
      clear hps hsn
      have hlen := queue_len h1.ok.queue h1.ok.few
      have HPD := Lib.hid (pending_any h1 f j)
      by_cases hin : (f, j) ∈ ps
      · have hpd := pending_any h1 f j
        rw [decide_eq_true (show (f, j) ∈ ({ R' with queue := ps } : Rf).queue from hin)] at hpd
        have HPD := Lib.hid hpd
        have HIN5 := Lib.hid (show AddInv lab id r R' f n0 w (j + 1 - n0) wr from ⟨lab1, ⟨L1, by rw [HSN.out, addSec, if_pos hin]; exact h1⟩, k1⟩)
        clear hpd hin h1 k1
        go_wp2_with (go_at_call 58; refine HPD.out.mono ?_; rintro e w5 ⟨rfl, rfl⟩)
        go_roundw
        case rel => exact ⟨j + 1, by omega, by omega, by go_num, HIN5⟩
        case measure => simp [intOf]; omega
      · have hpd := pending_any h1 f j
        rw [decide_eq_false (show ¬ (f, j) ∈ ({ R' with queue := ps } : Rf).queue from hin)] at hpd
        have HPD := Lib.hid hpd
        have c1 := h1.c 1
        have f1 := h1.fz 1
        simp only [List.getElem?_toArray, List.getElem?_cons_zero, List.getElem?_cons_succ] at c1
        obtain ⟨qa, qc, hqv⟩ := own_form h1.queue
        have ho := h1.queue
        rw [hqv] at c1 ho
        have hA := below_alloc wr (.cells #[.int .i64 (f : Int), .int .i64 (j : Int)] 79)
        obtain ⟨v', w', r1, r2, r3, r4⟩ := push_sec (wr.alloc (.cells #[.int .i64 (f : Int), .int .i64 (j : Int)] 79)) _ _ (ho.alloc _) hlen (f, j) (a := wr.heap.size) (alloc_new_cell wr _ _ 0) (alloc_new_cell wr _ _ 1) 62
        have g5 : wr.grownBy w' L1.qv.ownBlock := by
          rw [hqv]
          exact ⟨r3.os.trans hA.os, r3.tape.trans hA.tape, r3.output.trans hA.output, Nat.le_trans hA.size r3.size, fun i hi hne2 => (r3.block i (Nat.lt_of_lt_of_le hi hA.size) hne2).trans (hA.block i hi)⟩
        have hgn : L1.qv.ownBlock ≠ some r := fun e => by have h5 := h1.lq _ e; have h6 := h1.lr; omega
        have e1 := g5.cell (a := ⟨r, 1, none⟩) c1 (fun e => hgn e.symm)
        have fe1 : w'.frozen? ⟨r, 1, none⟩ = false := (World.frozen?_of_block (w := wr) (g5.block _ h1.rlt (fun e => hgn e.symm))).trans f1
        obtain ⟨va, vc, hv'⟩ := own_form r2
        subst hv'
        have HIN5 := Lib.hid (show AddInv lab id r R' f n0 w (j + 1 - n0) (w'.setCell ⟨r, 1, none⟩ (.slice va (ps.length + 1) vc)) from by
          have := h1.pushQueue (p := (f, j)) hin hf (by show j < 262144; omega) k1 g5 r2 (by
            rw [hqv]
            rcases r4 with h | h
            · exact .inl h
            · exact .inr fun i hi => by rw [h] at hi; simp at hi; omega)
          rw [show (({ R' with queue := ps } : Rf).queue ++ [(f, j)]).length = ps.length + 1 by simp] at this
          unfold AddInv
          rw [HSN.out, addSec, if_neg hin]
          exact this)
        have HRR := Lib.hid r1
        clear hpd hin h1 k1 ho hA r1 r2 r3 r4 g5 hgn f1 hqv
        go_wp2_with (first | (go_at_call 58; refine HPD.out.mono ?_; rintro e w5 ⟨rfl, rfl⟩) | (at_builtin; refine wpList_append_run rfl _ _ _ _ rfl _ _ rfl rfl _ _ HRR.out ?_))
        go_wp2
        go_roundw
        case rel => exact ⟨j + 1, by omega, by omega, by go_num, HIN5⟩
        case measure => simp [intOf]; omega
    · have hjj : j - n0 = K0 a s.length := by omega
      have hinv := HINV.out
      rw [hjj] at hinv
      have HIV := Lib.hid hinv
      clear hinv hjj
      go_wp2
      go_end0
      obtain ⟨lab1, g1, k1⟩ := HIV.out
      rw [show R'.queue = R.queue by rw [← HR'.out]; rfl] at g1
      exact ⟨rfl, lab1, by rw [HR'.out, ← HN0.out]; exact g1, k1⟩
theorem radd_any (h : RIn w lab id r R L) (f a : Nat) (s : List UInt8) (hf : f < 16) (ha : a + s.length ≤ 16777216) :
    Calls Try.prog 53 #[.pointer (some ⟨r, 0, none⟩), .int .i64 (f : Int), .int .i64 (a : Int), .string (bs s)] w (RPost lab id r (.tuple #[]) (R.add f a s) w) := by
  unfold Rf.add
  by_cases hs : s = []
  · subst hs
    rw [if_pos rfl]
    have H := Lib.hid h
    have hb0 : bs [] = ⟨#[]⟩ := rfl
    rw [hb0]
    clear h hb0
    go_enter Try.func53, Try.ntmps53
    go_wp2
    refine bodyPost_ret (results_none rfl _ _ _) rfl ?_
    exact ⟨rfl, lab, ⟨L, H.out⟩, Chg.refl H.out.lo⟩
  · rw [if_neg hs]
    exact radd_some h f a s hf ha (by cases s with | nil => exact absurd rfl hs | cons x t => simp)
end
end Go.Proofs.Ytadnmoaemnajgaa
