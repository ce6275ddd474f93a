/- The program's disk and the reference's: plain facts. -/
import Derived.Test.YtadnmoaemnajgaaTell
import Derived.Test.YtadnmoaemnajgaaPlain
namespace Go.Proofs.Ytadnmoaemnajgaa
open Dp

/-- A disk and the reference's disk say the same. -/
structure Sim (D : Dk) (R : Rf) : Prop where
  now : ∀ f : Nat, f < 16 → R.now (f : Int) = D.now f
  dur : ∀ f : Nat, f < 16 → R.dur (f : Int) = D.dur f
  queue : R.queue = D.pend
  lost : R.lost = D.lost
  down : R.down = D.down
  armed : R.armed = D.calls
  keep : R.armed ≠ 0 → R.keep = D.keep
theorem sim_new : Sim new Rf.new := ⟨fun _ _ => rfl, fun _ _ => rfl, rfl, rfl, rfl, rfl, fun _ => rfl⟩
theorem Sim.inn {D : Dk} {R : Rf} (h : Sim D R) (hd : D.In) (hf : ∀ p ∈ D.pend, p.1 < 16) : R.In := by
  intro p hp
  rw [h.queue] at hp
  rw [h.now p.1 (hf p hp)]
  exact hd p hp
theorem sim_add {D : Dk} {R : Rf} (h : Sim D R) {f : Nat} (hf : f < 16) (a : Nat) {s : List UInt8} (hs : s ≠ []) : Sim (D.put f a s) (R.add f a s) := by
  unfold Rf.add
  rw [if_neg hs]
  refine ⟨fun g hg => ?_, fun g hg => ?_, ?_, h.lost, h.down, h.armed, h.keep⟩
  · show (R.putF f a s).now g = upd D.now f (putL (D.now f) a s) g
    unfold Rf.putF upd
    rw [now_set]
    by_cases hgf : g = f
    · subst hgf; rw [if_pos rfl, if_pos rfl]; simp only; unfold putN; rw [if_neg hs, h.now g hg]
    · rw [if_neg (by simp only; omega), if_neg hgf]; exact h.now g hg
  · show (R.putF f a s).dur g = D.dur g
    unfold Rf.putF
    rw [dur_set]
    split
    · rename_i he; simp only at he ⊢; rw [← he]; exact h.dur g hg
    · exact h.dur g hg
  · show addSecs R.queue f (a / 64) (K0 a s.length) = _
    rw [h.queue]; rfl
theorem sim_harden {D : Dk} {R : Rf} (h : Sim D R) (p : Nat × Nat) : Sim (D.harden p) (R.harden p) := by
  refine ⟨fun g hg => ?_, fun g hg => ?_, h.queue, h.lost, h.down, h.armed, h.keep⟩
  · rw [now_harden]; exact h.now g hg
  · show (R.harden p).dur g = upd D.dur p.1 (putL (D.dur p.1) (64 * p.2) (sec (D.now p.1) p.2)) g
    unfold Rf.harden upd
    rw [dur_set]
    by_cases hgf : g = p.1
    · subst hgf; rw [if_pos rfl, if_pos rfl]; simp only; rw [h.now _ hg, h.dur _ hg]
    · rw [if_neg (by simp only; omega), if_neg hgf]; exact h.dur g hg
theorem sim_hardens : ∀ (ps : List (Nat × Nat)) {D : Dk} {R : Rf}, Sim D R → Sim (hardens D ps) (R.hardens ps)
  | [], _, _, h => h
  | p :: ps, _, _, h => sim_hardens ps (sim_harden h p)
theorem look_fallen (R : Rf) (f : Int) : ({ R with files := fallen R.files } : Rf).look f = (R.look f).map fun x => ⟨x.num, x.dur, x.dur⟩ := by
  unfold Rf.look fallen
  simp only
  rw [List.find?_map]
  rfl
theorem now_fallen (R : Rf) (f : Int) : ({ R with files := fallen R.files } : Rf).now f = R.dur f := by
  unfold Rf.now Rf.dur; rw [look_fallen]; cases R.look f <;> rfl
theorem dur_fallen (R : Rf) (f : Int) : ({ R with files := fallen R.files } : Rf).dur f = R.dur f := by
  unfold Rf.dur; rw [look_fallen]; cases R.look f <;> rfl
theorem sim_crash {D : Dk} {R : Rf} (h : Sim D R) (ks : List Int) : Sim (D.crash ks) (R.crash ks) := by
  unfold Dk.crash Rf.crash
  rw [h.down]
  cases hd : D.down with
  | true => exact h
  | false =>
    simp only [Bool.false_eq_true, if_false]
    have h1 := sim_hardens (survive ks 0 D.pend) h
    rw [h.queue]
    generalize R.hardens (survive ks 0 D.pend) = R1 at h1 ⊢
    generalize hardens D (survive ks 0 D.pend) = D1 at h1 ⊢
    refine ⟨fun g hg => ?_, fun g hg => ?_, rfl, h1.lost, rfl, rfl, fun h => absurd rfl h⟩
    · show ({ R1 with files := fallen R1.files } : Rf).now g = if g < 16 then D1.dur g else D1.now g
      rw [now_fallen, if_pos hg]; exact h1.dur g hg
    · show ({ R1 with files := fallen R1.files } : Rf).dur g = D1.dur g
      rw [dur_fallen]; exact h1.dur g hg
theorem sim_settle {D : Dk} {R : Rf} (h : Sim D R) (hg : Good D) {f : Nat} (hf : f < 16) : Sim (D.settle f) (R.settle f (R.now f)) := by
  have hk := hardens_keeps (D.pend.filter (fun p => p.1 = f)) D
  refine ⟨fun g hgl => ?_, fun g hgl => ?_, ?_, by rw [show (D.settle f).lost = _ from hk.2.2.2.1]; exact h.lost, by rw [show (D.settle f).down = _ from hk.2.2.1]; exact h.down, by rw [show (D.settle f).calls = _ from hk.2.2.2.2.1]; exact h.armed, fun ha => by rw [show (D.settle f).keep = _ from hk.2.2.2.2.2]; exact h.keep ha⟩
  · rw [show (D.settle f).now = D.now from hk.1]
    show (R.set ⟨f, R.now f, R.now f⟩).now g = _
    rw [now_set]
    split
    · rename_i he; simp only at he ⊢; rw [← he]; exact h.now g hgl
    · exact h.now g hgl
  · show (R.set ⟨f, R.now f, R.now f⟩).dur g = _
    rw [dur_set]
    by_cases hgf : g = f
    · subst hgf; rw [if_pos rfl, settle_dur hg]; exact h.now g hgl
    · rw [if_neg (by simp only; omega), settle_dur_other D hgf]; exact h.dur g hgl
  · show dropsF f R.queue = dropsF f D.pend
    rw [h.queue]
theorem sim_trunc {D : Dk} {R : Rf} (h : Sim D R) (hg : Good D) {f : Int} (hf : 0 ≤ f ∧ f < 16) (n : Nat) : Sim (D.trunc f n) (R.settle f.toNat ((R.now f).take n)) := by
  obtain ⟨k, rfl⟩ : ∃ k : Nat, f = (k : Int) := ⟨f.toNat, by omega⟩
  have hs := sim_settle h hg (f := k) (by omega)
  have hn := settle_dur hg k
  have hk := hardens_keeps (D.pend.filter (fun p => p.1 = k)) D
  rw [Int.toNat_natCast]
  refine ⟨fun g hgl => ?_, fun g hgl => ?_, hs.queue, hs.lost, hs.down, hs.armed, hs.keep⟩
  · show (R.set ⟨k, (R.now k).take n, (R.now k).take n⟩).now g = upd (D.settle k).now k (((D.settle k).now k).take n) g
    rw [now_set]; unfold upd
    have h2 := hs.now g hgl
    by_cases hgf : g = k
    · subst hgf; rw [if_pos rfl, if_pos rfl, show (D.settle g).now = D.now from hk.1, ← h.now g hgl]
    · rw [if_neg (by simp only; omega), if_neg hgf, show (D.settle k).now = D.now from hk.1]; exact h.now g hgl
  · show (R.set ⟨k, (R.now k).take n, (R.now k).take n⟩).dur g = upd (D.settle k).dur k (((D.settle k).dur k).take n) g
    rw [dur_set]; unfold upd
    by_cases hgf : g = k
    · subst hgf; rw [if_pos rfl, if_pos rfl, hn, ← h.now g hgl]
    · rw [if_neg (by simp only; omega), if_neg hgf, settle_dur_other D hgf]; exact h.dur g hgl

/-! ### The calls -/
theorem sim_may {D : Dk} {R : Rf} (h : Sim D R) (f : Int) : R.may f = if D.down then 8 else if isFile f = false then 1 else 0 := by
  unfold Rf.may
  rw [h.down]
  cases D.down with
  | true => rfl
  | false =>
    simp only [Bool.false_eq_true, if_false]
    by_cases hf : isFile f = false
    · rw [if_pos hf, if_pos (by simp [isFile] at hf; omega)]
    · rw [if_neg hf, if_neg (by simp [isFile] at hf; omega)]
theorem sim_wr {D : Dk} {R : Rf} (h : Sim D R) (hd : D.down = false) (f a : Int) (s : List UInt8) : (R.wr f a s).1 = (D.wr f a s).1 ∧ Sim (D.wr f a s).2 (R.wr f a s).2 := by
  unfold Rf.wr Dk.wr
  rw [sim_may h, hd]
  simp only [Bool.false_eq_true, if_false]
  by_cases hf : isFile f = false
  · rw [if_pos hf, if_pos (by decide), if_pos (.inl hf)]; exact ⟨rfl, h⟩
  · rw [if_neg hf, if_neg (by decide)]
    have hff : 0 ≤ f ∧ f < 16 := by simpa [isFile] using hf
    by_cases ha : a < 0
    · rw [if_pos ha, if_pos (.inr ha)]; exact ⟨rfl, h⟩
    · rw [if_neg ha, if_neg (show ¬ (isFile f = false ∨ a < 0) by simp [ha, hf])]
      by_cases hft : 16777216 - (s.length : Int) < a
      · rw [if_pos hft, if_pos (show fitsB a s = false by unfold fitsB; rw [decide_eq_false_iff_not]; omega)]; exact ⟨rfl, h⟩
      · rw [if_neg hft, if_neg (show ¬ fitsB a s = false by unfold fitsB; rw [decide_eq_false_iff_not]; omega)]
        by_cases hs : s = []
        · rw [if_pos hs]
          have : R.add f.toNat a.toNat s = R := by unfold Rf.add; rw [if_pos hs]
          rw [this]; exact ⟨rfl, h⟩
        · rw [if_neg hs]; exact ⟨rfl, sim_add h (by omega) _ hs⟩
theorem may_down {R : Rf} (h : R.down = true) (f : Int) : R.may f = 8 := by unfold Rf.may; rw [if_pos h]
theorem crash_down_true (D : Dk) (ks : List Int) : (D.crash ks).down = true := by
  unfold Dk.crash
  cases h : D.down with
  | true => exact h
  | false => rfl
theorem wr_keeps (D : Dk) (f a : Int) (s : List UInt8) : (D.wr f a s).2.calls = D.calls ∧ (D.wr f a s).2.keep = D.keep ∧ (D.wr f a s).2.down = D.down := by
  unfold Dk.wr
  split
  · exact ⟨rfl, rfl, rfl⟩
  · split
    · exact ⟨rfl, rfl, rfl⟩
    · split <;> exact ⟨rfl, rfl, rfl⟩
theorem wr_setcalls (D : Dk) (f a : Int) (s : List UInt8) (n : Nat) : ({ D with calls := n } : Dk).wr f a s = ((D.wr f a s).1, { (D.wr f a s).2 with calls := n }) := by
  unfold Dk.wr
  split
  · rfl
  · split
    · rfl
    · split <;> rfl
/-- Nothing happens, or a call is counted, or the machine goes down. -/
theorem sim_strike {D : Dk} {R : Rf} (h : Sim D R) (hd : D.down = false) (f a : Int) (s : List UInt8) :
    (D.calls = 0 ∧ R.comes f a s = R) ∨ (D.calls = 1 ∧ Sim (({ (D.wr f a s).2 with calls := 0 } : Dk).crash D.keep) (R.comes f a s)) ∨ (1 < D.calls ∧ Sim { D with calls := D.calls - 1 } (R.comes f a s)) := by
  have hr := h.down.trans hd
  unfold Rf.comes
  rw [h.armed]
  by_cases h0 : D.calls = 0
  · exact .inl ⟨h0, by rw [if_pos (.inr h0)]⟩
  · rw [if_neg (by simp [hr, h0])]
    by_cases h1 : 1 < D.calls
    · rw [if_pos h1]
      exact .inr (.inr ⟨h1, h.now, h.dur, h.queue, h.lost, h.down, rfl, fun _ => h.keep (by rw [h.armed]; exact h0)⟩)
    · rw [if_neg h1]
      refine .inr (.inl ⟨by omega, ?_⟩)
      rw [← h.keep (by rw [h.armed]; exact h0)]
      refine sim_crash ?_ _
      have hz : Sim { D with calls := 0 } { R with armed := 0 } := ⟨h.now, h.dur, h.queue, h.lost, h.down, rfl, fun h => absurd rfl h⟩
      have hw := sim_wr hz hd f a s
      rw [wr_setcalls] at hw
      simp only at hw
      by_cases hc : isFile f = true ∧ fitsB a s = true
      · rw [if_pos hc]
        have e : ({ R with armed := 0 } : Rf).wr f a s = (0, ({ R with armed := 0 } : Rf).add f.toNat a.toNat s) := by
          have hm := sim_may hz f
          rw [hd] at hm
          have hft := hc.2
          simp only [fitsB, decide_eq_true_eq] at hft
          unfold Rf.wr
          rw [hm]
          simp only [Bool.false_eq_true, if_false]
          rw [if_neg (by simp [hc.1]), if_neg (by omega), if_neg (by simp [hc.2])]
        rw [e] at hw
        exact hw.2
      · rw [if_neg hc]
        have e : (({ R with armed := 0 } : Rf).wr f a s).2 = { R with armed := 0 } := by
          have hm := sim_may hz f
          rw [hd] at hm
          unfold Rf.wr
          rw [hm]
          simp only [Bool.false_eq_true, if_false]
          by_cases hf : isFile f = false
          · rw [if_pos (by simp [hf])]
          · have hf' : isFile f = true := by simpa using hf
            have hft : fitsB a s = false := by
              cases h9 : fitsB a s with
              | false => rfl
              | true => exact absurd ⟨hf', h9⟩ hc
            rw [if_neg (by simp [hf'])]
            by_cases ha : a < 0
            · rw [if_pos ha]
            · rw [if_neg ha, if_pos hft]
        rw [e] at hw
        exact hw.2
/-- What comes before a call that is no write. -/
theorem sim_comes {D : Dk} {R : Rf} (h : Sim D R) (hd : D.down = false) : (D.strike.1 = true ↔ (R.comes 0 0 []).down = true) ∧ Sim D.strike.2 (R.comes 0 0 []) := by
  have hw : (D.wr 0 0 []).2 = D := by unfold Dk.wr; simp [isFile]
  have hs := sim_strike h hd 0 0 []
  rw [hw] at hs
  unfold Dk.strike
  rcases hs with ⟨h0, hs⟩ | ⟨h1, hs⟩ | ⟨h1, hs⟩
  · rw [if_pos h0, hs, h.down, hd]; exact ⟨by simp, h⟩
  · rw [if_neg (by omega), if_pos h1, hs.down]
    exact ⟨by simp [crash_down_true], hs⟩
  · rw [if_neg (by omega), if_neg (by omega), hs.down]
    exact ⟨by simp [hd], hs⟩
theorem comes_down {R : Rf} (h : R.down = true) (f a : Int) (s : List UInt8) : R.comes f a s = R := by unfold Rf.comes; rw [if_pos (.inl h)]
theorem strike0 {D : Dk} (h : D.calls = 0) : D.strike = (false, D) := by unfold Dk.strike; rw [if_pos h]
theorem strike1 {D : Dk} (h : D.calls = 1) : D.strike = (true, ({ D with calls := 0 } : Dk).crash D.keep) := by unfold Dk.strike; rw [if_neg (by omega), if_pos h]
theorem strike2 {D : Dk} (h : 1 < D.calls) : D.strike = (false, { D with calls := D.calls - 1 }) := by unfold Dk.strike; rw [if_neg (by omega), if_neg (by omega)]
theorem sim_write {D : Dk} {R : Rf} (h : Sim D R) (f a : Int) (s : List UInt8) : ((R.comes f a s).wr f a s).1 = (D.write f a s).1 ∧ Sim (D.write f a s).2 ((R.comes f a s).wr f a s).2 := by
  unfold Dk.write
  cases hd : D.down with
  | true =>
    have hr := h.down.trans hd
    rw [comes_down hr]
    unfold Rf.wr
    rw [may_down hr]
    exact ⟨rfl, h⟩
  | false =>
    simp only [Bool.false_eq_true, if_false]
    obtain ⟨k1, k2, k3⟩ := wr_keeps D f a s
    rcases sim_strike h hd f a s with ⟨h0, hs⟩ | ⟨h1, hs⟩ | ⟨h1, hs⟩
    · rw [hs, strike0 (k1.trans h0)]; exact sim_wr h hd f a s
    · have hdn : (R.comes f a s).down = true := by rw [hs.down]; exact crash_down_true _ _
      rw [← k2] at hs
      rw [strike1 (k1.trans h1)]
      unfold Rf.wr
      rw [may_down hdn]
      exact ⟨rfl, hs⟩
    · have hw := sim_wr hs hd f a s
      rw [wr_setcalls] at hw
      rw [strike2 (by omega), k1]
      exact hw
theorem sim_sync {D : Dk} {R : Rf} (h : Sim D R) (hg : Good D) (f : Int) : ((R.comes 0 0 []).sy f).1 = (D.sync f).1 ∧ Sim (D.sync f).2 ((R.comes 0 0 []).sy f).2 := by
  unfold Dk.sync
  cases hd : D.down with
  | true =>
    have hr := h.down.trans hd
    rw [comes_down hr]
    unfold Rf.sy
    rw [may_down hr]
    exact ⟨rfl, h⟩
  | false =>
    simp only [Bool.false_eq_true, if_false]
    obtain ⟨h1, h2⟩ := sim_comes h hd
    have hg2 := good_strike hg
    generalize R.comes 0 0 [] = R1 at h1 h2 ⊢
    generalize D.strike = S at h1 h2 hg2 ⊢
    by_cases hs : S.1 = true
    · rw [if_pos hs]
      unfold Rf.sy
      rw [may_down (h1.1 hs)]
      exact ⟨rfl, h2⟩
    · have hdn : S.2.down = false := by
        cases h9 : S.2.down with
        | false => rfl
        | true => exact absurd (h1.2 (h2.down.trans h9)) hs
      rw [if_neg hs]
      unfold Rf.sy
      rw [sim_may h2, hdn]
      simp only [Bool.false_eq_true, if_false]
      by_cases hf : isFile f = false
      · rw [if_pos hf, if_pos hf, if_pos (by decide)]; exact ⟨rfl, h2⟩
      · have hff : 0 ≤ f ∧ f < 16 := by simpa [isFile] using hf
        rw [if_neg hf, if_neg hf, if_neg (by decide), h2.lost]
        by_cases hl : 0 < S.2.lost
        · rw [if_pos hl, if_pos hl]
          exact ⟨rfl, h2.now, h2.dur, h2.queue, rfl, h2.down.trans hdn, h2.armed, h2.keep⟩
        · rw [if_neg hl, if_neg hl]
          have := sim_settle h2 hg2 (f := f.toNat) (by omega)
          rw [show ((f.toNat : Nat) : Int) = f by omega] at this
          exact ⟨rfl, this⟩
theorem sim_truncate {D : Dk} {R : Rf} (h : Sim D R) (hg : Good D) (f n : Int) : ((R.comes 0 0 []).tr f n).1 = (D.truncate f n).1 ∧ Sim (D.truncate f n).2 ((R.comes 0 0 []).tr f n).2 := by
  unfold Dk.truncate
  cases hd : D.down with
  | true =>
    have hr := h.down.trans hd
    rw [comes_down hr]
    unfold Rf.tr
    rw [may_down hr]
    exact ⟨rfl, h⟩
  | false =>
    simp only [Bool.false_eq_true, if_false]
    obtain ⟨h1, h2⟩ := sim_comes h hd
    have hg2 := good_strike hg
    generalize R.comes 0 0 [] = R1 at h1 h2 ⊢
    generalize D.strike = S at h1 h2 hg2 ⊢
    by_cases hs : S.1 = true
    · rw [if_pos hs]
      unfold Rf.tr
      rw [may_down (h1.1 hs)]
      exact ⟨rfl, h2⟩
    · have hdn : S.2.down = false := by
        cases h9 : S.2.down with
        | false => rfl
        | true => exact absurd (h1.2 (h2.down.trans h9)) hs
      rw [if_neg hs]
      unfold Rf.tr
      rw [sim_may h2, hdn]
      simp only [Bool.false_eq_true, if_false]
      by_cases hf : isFile f = false
      · rw [if_pos hf, if_pos (show isFile f = false ∨ n < 0 ∨ (S.2.size f : Int) < n from .inl hf), if_pos (by decide)]; exact ⟨rfl, h2⟩
      · have hff : 0 ≤ f ∧ f < 16 := by simpa [isFile] using hf
        have hz : S.2.size f = (R1.now f).length := by
          unfold Dk.size
          rw [if_pos (by simpa using hf), ← h2.now f.toNat (by omega), show ((f.toNat : Nat) : Int) = f by omega]
        rw [if_neg hf, if_neg (by decide), hz]
        by_cases hb : n < 0 ∨ ((R1.now f).length : Int) < n
        · rw [if_pos hb, if_pos (.inr hb)]; exact ⟨rfl, h2⟩
        · rw [if_neg hb, if_neg (by simp only [not_or] at hb ⊢; exact ⟨hf, hb⟩)]
          exact ⟨rfl, sim_trunc h2 hg2 hff n.toNat⟩
theorem sim_act {D : Dk} {R : Rf} (h : Sim D R) (hg : Good D) (x : Act1) : (R.act x).1 = (Dk.act D x).1 ∧ Sim (Dk.act D x).2 (R.act x).2 := by
  unfold Dk.act Rf.act
  split
  · exact sim_sync h hg _
  · split
    · exact sim_truncate h hg _ _
    · split
      · exact ⟨rfl, h.now, h.dur, h.queue, rfl, h.down, h.armed, h.keep⟩
      · split
        · exact ⟨rfl, h.now, h.dur, h.queue, h.lost, h.down, rfl, fun _ => rfl⟩
        · split
          · exact ⟨rfl, sim_crash h _⟩
          · split
            · exact ⟨rfl, h.now, h.dur, h.queue, h.lost, rfl, h.armed, h.keep⟩
            · exact sim_write h _ _ _
theorem sim_size {D : Dk} {R : Rf} (h : Sim D R) (hok : R.Ok) (f : Int) : R.size f = D.size f := by
  unfold Rf.size Dk.size
  by_cases hf : isFile f = true
  · have hff : 0 ≤ f ∧ f < 16 := by simpa [isFile] using hf
    rw [if_pos hf, ← h.now f.toNat (by omega), show ((f.toNat : Nat) : Int) = f by omega]
  · rw [if_neg hf]
    have : R.look f = none := by
      unfold Rf.look
      rw [List.find?_eq_none]
      intro x hx he
      have := (hok.file x hx).1
      simp only [decide_eq_true_eq] at he
      simp only [isFile, decide_eq_true_eq] at hf
      omega
    unfold Rf.now
    rw [this]; rfl
theorem sim_read {D : Dk} {R : Rf} (h : Sim D R) (f a n : Int) : R.read f a n = D.read f a n := by
  unfold Rf.read Dk.read
  rw [sim_may h]
  cases hd : D.down with
  | true => rfl
  | false =>
    simp only [Bool.false_eq_true, if_false]
    by_cases hf : isFile f = false
    · rw [if_pos hf, if_pos (by decide), if_pos (.inl hf)]; rfl
    · have hff : 0 ≤ f ∧ f < 16 := by simpa [isFile] using hf
      rw [if_neg hf, if_neg (by decide), ← h.now f.toNat (by omega), show ((f.toNat : Nat) : Int) = f by omega]
      by_cases hb : a < 0 ∨ n < 0
      · rw [if_pos hb, if_pos (.inr hb)]; rfl
      · rw [if_neg hb, if_neg (by simp only [not_or] at hb ⊢; exact ⟨hf, hb⟩)]; rfl
end Go.Proofs.Ytadnmoaemnajgaa
