/- Plain facts of layer 2 on which the statements lean: no Go. -/
import Derived.Test.YtjbcgahdiolhhaaDoorDActs
namespace Go.Proofs.YtjbcgahdiolhhaaDoor.D2
open Dp

/-! ### Acts, one after the other -/
def play (D : Dk) (xs : List Act1) : Dk := xs.foldl (fun D x => (Dk.act D x).2) D
theorem play_snoc (D : Dk) (xs : List Act1) (x : Act1) : play D (xs ++ [x]) = (Dk.act (play D xs) x).2 := by simp [play]
theorem play_take {D : Dk} {xs : List Act1} {k : Nat} {x : Act1} (h : xs[k]? = some x) : play D (xs.take (k + 1)) = (Dk.act (play D (xs.take k)) x).2 := by
  obtain ⟨hk, rfl⟩ := List.getElem?_eq_some_iff.1 h
  rw [List.take_succ_eq_append_getElem hk, play_snoc]
theorem good_play {D : Dk} (h : Good D) (xs : List Act1) : Good (play D xs) := by
  induction xs generalizing D with
  | nil => exact h
  | cons x xs ih => exact ih (good_act h x)

/-! ### The list that a scheduled crash keeps -/
theorem crash_keep (D : Dk) (ks : List Int) : (D.crash ks).keep.length ≤ D.keep.length := by
  unfold Dk.crash; split
  · exact Nat.le_refl _
  · exact Nat.zero_le _
theorem strike_keep (D : Dk) : D.strike.2.keep.length ≤ D.keep.length := by
  unfold Dk.strike; split
  · exact Nat.le_refl _
  · split
    · exact crash_keep { D with calls := 0 } _
    · exact Nat.le_refl _
theorem wr_keep (D : Dk) (f a : Int) (s : List UInt8) : (D.wr f a s).2.keep = D.keep := by
  unfold Dk.wr; split
  · rfl
  · split
    · rfl
    · split <;> rfl
theorem write_keep (D : Dk) (f a : Int) (s : List UInt8) : (D.write f a s).2.keep.length ≤ D.keep.length := by
  have h := strike_keep (D.wr f a s).2
  rw [wr_keep] at h
  unfold Dk.write; split
  · exact Nat.le_refl _
  · simp only; split <;> exact h
theorem settle_keep (D : Dk) (f : Nat) : (D.settle f).keep = D.keep := (hardens_keeps (keepsF f D.pend) D).2.2.2.2.2
theorem sync_keep (D : Dk) (f : Int) : (D.sync f).2.keep.length ≤ D.keep.length := by
  have h := strike_keep D
  unfold Dk.sync; split
  · exact Nat.le_refl _
  · simp only; split
    · exact h
    · split
      · exact h
      · split
        · exact h
        · show (D.strike.2.settle _).keep.length ≤ _
          rw [settle_keep]; exact h
theorem truncate_keep (D : Dk) (f n : Int) : (D.truncate f n).2.keep.length ≤ D.keep.length := by
  have h := strike_keep D
  unfold Dk.truncate; split
  · exact Nat.le_refl _
  · simp only; split
    · exact h
    · split
      · exact h
      · show (D.strike.2.settle _).keep.length ≤ _
        rw [settle_keep]; exact h
theorem act_keep {D : Dk} {x : Act1} {n : Nat} (h : D.keep.length ≤ n) (hx : x.Keep.length ≤ n) : (Dk.act D x).2.keep.length ≤ n := by
  unfold Dk.act
  split
  · exact Nat.le_trans (sync_keep _ _) h
  · split
    · exact Nat.le_trans (truncate_keep _ _ _) h
    · split
      · exact h
      · split
        · exact hx
        · split
          · exact Nat.le_trans (crash_keep _ _) h
          · split
            · exact h
            · exact Nat.le_trans (write_keep _ _ _ _) h
theorem play_keep {D : Dk} {xs : List Act1} {n : Nat} (h : D.keep.length ≤ n) (hx : ∀ x ∈ xs, x.Keep.length ≤ n) : (play D xs).keep.length ≤ n := by
  induction xs generalizing D with
  | nil => exact h
  | cons x xs ih => exact ih (act_keep h (hx x (by simp))) (fun y hy => hx y (List.mem_cons_of_mem _ hy))

/-! ### What a disk says when nothing is scheduled -/
theorem isFile_of {f : Int} (h1 : ¬ f < 0) (h2 : ¬ 15 < f) : isFile f = true := by unfold isFile; rw [decide_eq_true_iff]; omega
theorem isFile_not {f : Int} (h : f < 0 ∨ 15 < f) : isFile f = false := by unfold isFile; rw [decide_eq_false_iff_not]; omega
theorem strike_none {D : Dk} (h : D.calls = 0) : D.strike = (false, D) := by unfold Dk.strike; rw [if_pos h]
theorem wr_calls (D : Dk) (f a : Int) (s : List UInt8) : (D.wr f a s).2.calls = D.calls := by
  unfold Dk.wr; split
  · rfl
  · split
    · rfl
    · split <;> rfl
theorem wr_down (D : Dk) (f a : Int) (s : List UInt8) : (D.wr f a s).2.down = D.down := by
  unfold Dk.wr; split
  · rfl
  · split
    · rfl
    · split <;> rfl
theorem write_up {D : Dk} (h : D.calls = 0) (hd : D.down = false) (f a : Int) (s : List UInt8) : D.write f a s = D.wr f a s := by
  have h1 := strike_none (D := (D.wr f a s).2) (by rw [wr_calls, h])
  unfold Dk.write
  rw [hd]
  simp only [h1]
  rfl
theorem write_refused {D : Dk} (h : D.calls = 0) {f : Int} (hb : D.down = true ∨ isFile f = false) (a : Int) (s : List UInt8) : (D.write f a s).1 ≠ 0 := by
  by_cases hd : D.down = true
  · unfold Dk.write; rw [if_pos hd]; exact (by decide : (8 : Int) ≠ 0)
  · have hf : isFile f = false := by rcases hb with h | h; exact absurd h hd; exact h
    rw [write_up h (by simpa using hd)]
    unfold Dk.wr; rw [if_pos (.inl hf)]; exact (by decide : (1 : Int) ≠ 0)
theorem read_up {D : Dk} (hd : D.down = false) {f : Int} (hf : isFile f = true) {a n : Int} (ha : 0 ≤ a) (hn : 0 ≤ n) : D.read f a n = (((D.now f.toNat).drop a.toNat).take n.toNat, 0) := by
  unfold Dk.read
  rw [hd, if_neg (by simp), if_neg (by rw [hf]; simp; omega)]; rfl
theorem read_all {D : Dk} (hd : D.down = false) {f : Int} (hf : isFile f = true) {n : Int} (hl : ((D.now f.toNat).length : Int) ≤ n) : D.read f 0 n = (D.now f.toNat, 0) := by
  rw [read_up hd hf (Int.le_refl 0) (by omega)]
  rw [Int.toNat_zero, List.drop_zero, List.take_of_length_le (by omega)]

/-- The file behind a write. -/
def putN (t : List UInt8) (a : Nat) (s : List UInt8) : List UInt8 := if s = [] then t else putL t a s
theorem wr_ok {D : Dk} {f a : Int} {s : List UInt8} (hf : isFile f = true) (ha : 0 ≤ a) (hs : a + s.length ≤ 16777216) :
    (D.wr f a s).1 = 0 ∧ ∀ g, (D.wr f a s).2.now g = if g = f.toNat then putN (D.now g) a.toNat s else D.now g := by
  unfold Dk.wr
  rw [if_neg (by rw [hf]; simp; omega), if_neg (by omega)]
  by_cases h : s = []
  · rw [if_pos h]
    refine ⟨rfl, fun g => ?_⟩
    simp [putN, h]
  · rw [if_neg h]
    refine ⟨rfl, fun g => ?_⟩
    show upd D.now f.toNat (putL (D.now f.toNat) a.toNat s) g = _
    by_cases hg : g = f.toNat
    · subst hg; rw [upd_same, if_pos rfl, putN, if_neg h]
    · rw [upd_other _ _ hg, if_neg hg]
theorem putL_mid (t : List UInt8) (a : Nat) (s : List UInt8) : ((putL t a s).drop a).take s.length = s := by
  have h1 : ((t ++ List.replicate (a + s.length - t.length) 0).take a).length = a := by simp; omega
  unfold putL
  simp only
  rw [List.append_assoc, List.drop_append, h1, List.drop_eq_nil_of_le (by omega), List.nil_append, Nat.sub_self, List.drop_zero, List.take_left']
  rfl
theorem putN_mid (t : List UInt8) (a : Nat) (s : List UInt8) : ((putN t a s).drop a).take s.length = s := by
  unfold putN
  split
  · rename_i h; subst h; simp
  · exact putL_mid t a s
theorem settle_now (D : Dk) (f : Nat) : (D.settle f).now = D.now := (hardens_keeps (keepsF f D.pend) D).1
theorem settle_down (D : Dk) (f : Nat) : (D.settle f).down = D.down := (hardens_keeps (keepsF f D.pend) D).2.2.1
theorem settle_calls (D : Dk) (f : Nat) : (D.settle f).calls = D.calls := (hardens_keeps (keepsF f D.pend) D).2.2.2.2.1
theorem settle_lost (D : Dk) (f : Nat) : (D.settle f).lost = D.lost := (hardens_keeps (keepsF f D.pend) D).2.2.2.1
theorem settle_dur {D : Dk} (h : Good D) (f : Nat) : (D.settle f).dur f = D.now f := h.settled f
theorem settle_dur_other (D : Dk) {f g : Nat} (hg : g ≠ f) : (D.settle f).dur g = D.dur g :=
  hardens_other _ _ _ fun p hp => by
    have : p.1 = f := by simpa [keepsF] using (List.mem_filter.1 hp).2
    omega
theorem trunc_facts {D : Dk} (h : Good D) (f : Int) (n : Nat) : (D.trunc f n).now f.toNat = (D.now f.toNat).take n ∧ (D.trunc f n).dur f.toNat = (D.now f.toNat).take n := by
  constructor
  · show upd (D.settle f.toNat).now f.toNat (((D.settle f.toNat).now f.toNat).take n) f.toNat = _
    rw [upd_same, settle_now]
  · show upd (D.settle f.toNat).dur f.toNat (((D.settle f.toNat).dur f.toNat).take n) f.toNat = _
    rw [upd_same, settle_dur h]
theorem truncate_up {D : Dk} (hc : D.calls = 0) (hd : D.down = false) {f n : Int} (hf : isFile f = true) (h0 : 0 ≤ n) (hn : n ≤ (D.now f.toNat).length) : D.truncate f n = (0, D.trunc f n.toNat) := by
  unfold Dk.truncate
  rw [hd, if_neg (by simp)]
  simp only [strike_none hc]
  rw [if_neg (by simp), if_neg]
  · rfl
  · rw [hf]
    simp only [Dk.size, hf, if_true]
    simp; omega
/-- What a crash leaves of the files. -/
theorem crashed {D : Dk} (hd : D.down = false) (ks : List Int) {f : Nat} (hf : f < 16) : (D.crash ks).now f = (hardens D (survive ks 0 D.pend)).dur f ∧ (D.crash ks).down = true := by
  unfold Dk.crash
  rw [hd, if_neg (by simp)]
  exact ⟨if_pos hf, rfl⟩
theorem survive_nil (ps : List (Nat × Nat)) : ∀ i, survive [] i ps = [] := by
  induction ps with
  | nil => intro i; rfl
  | cons p ps ih => intro i; simp [survive, ih, odd]
theorem survive_one (ps : List (Nat × Nat)) : ∀ i, survive [1] i ps = ps := by
  induction ps with
  | nil => intro i; rfl
  | cons p ps ih => intro i; simp [survive, ih, odd, Nat.mod_one]
theorem crash_none {D : Dk} (hd : D.down = false) {f : Nat} (hf : f < 16) : (D.crash []).now f = D.dur f := by
  rw [(crashed hd [] hf).1, survive_nil]; rfl
theorem crash_all {D : Dk} (h : Good D) (hd : D.down = false) {f : Nat} (hf : f < 16) : (D.crash [1]).now f = D.now f := by
  rw [(crashed hd [1] hf).1, survive_one]
  apply eq_of_getD
  · have h1 := hardens_len_le D.pend D f (fun p hp => h.inn p hp)
    have h2 := hardens_len_mono D.pend D f
    have h3 := h.len f
    rcases Nat.lt_or_ge (D.dur f).length (D.now f).length with h4 | h4
    · have h5 := hardens_len_ge D.pend D (f, ((D.now f).length - 1) / 64) (h.last f h4)
      simp only at h5
      omega
    · omega
  · intro i
    rw [hardens_at]
    by_cases hi : (f, i / 64) ∈ D.pend
    · by_cases hl : i < (D.now f).length
      · rw [if_pos ⟨hi, hl⟩]
      · rw [if_neg (fun h => hl h.2), getD_out (by have := h.len f; omega), getD_out (by omega)]
    · rw [if_neg (fun h2 => hi h2.1), h.same f i hi]
theorem crash_len {D : Dk} (h : Good D) (hd : D.down = false) (ks : List Int) {f : Nat} (hf : f < 16) : (D.dur f).length ≤ ((D.crash ks).now f).length ∧ ((D.crash ks).now f).length ≤ (D.now f).length := by
  rw [(crashed hd ks hf).1]
  have h1 := hardens_len_le (survive ks 0 D.pend) D f (fun p hp => h.inn p (survive_mem _ _ hp))
  have h2 := hardens_len_mono (survive ks 0 D.pend) D f
  have h3 := h.len f
  omega
/-- Each sector is wholly what the file had, or wholly what is durable. -/
theorem crash_sector {D : Dk} (h : Good D) (hd : D.down = false) (ks : List Int) {f : Nat} (hf : f < 16) (n : Nat) :
    (∀ i, 64 * n ≤ i → i < 64 * n + 64 → i < ((D.crash ks).now f).length → ((D.crash ks).now f).getD i 0 = (D.now f).getD i 0) ∨
    (∀ i, 64 * n ≤ i → i < 64 * n + 64 → i < ((D.crash ks).now f).length → ((D.crash ks).now f).getD i 0 = (D.dur f).getD i 0) := by
  have hl := (crash_len h hd ks hf).2
  rw [(crashed hd ks hf).1] at hl ⊢
  by_cases hm : (f, n) ∈ survive ks 0 D.pend
  · refine .inl fun i h1 h2 h3 => ?_
    rw [hardens_at, if_pos ⟨by rw [show i / 64 = n by omega]; exact hm, by omega⟩]
  · refine .inr fun i h1 h2 h3 => ?_
    rw [hardens_at, if_neg (fun q => hm (by rw [show n = i / 64 by omega]; exact q.1))]

/-! ### A file that was synced, and is not written -/
structure Still (D : Dk) (f : Nat) (t : List UInt8) : Prop where
  now : D.now f = t
  dur : D.dur f = t
  free : ∀ p ∈ D.pend, p.1 ≠ f
theorem still_crash {D : Dk} {f : Nat} {t : List UInt8} (h : Still D f t) (hf : f < 16) (ks : List Int) : Still (D.crash ks) f t := by
  cases hd : D.down with
  | true => unfold Dk.crash; rw [hd]; exact h
  | false =>
    have hd2 : (hardens D (survive ks 0 D.pend)).dur f = t := (hardens_other _ _ _ fun p hp => h.free p (survive_mem _ _ hp)).trans h.dur
    refine ⟨(crashed hd ks hf).1.trans hd2, ?_, ?_⟩
    · unfold Dk.crash; rw [hd]; exact hd2
    · unfold Dk.crash; rw [hd]; intro p hp; cases hp
theorem Still.of {D D' : Dk} {f : Nat} {t : List UInt8} (h : Still D f t) (h1 : D'.now = D.now) (h2 : D'.dur = D.dur) (h3 : D'.pend = D.pend) : Still D' f t := ⟨by rw [h1]; exact h.now, by rw [h2]; exact h.dur, by rw [h3]; exact h.free⟩
theorem still_strike {D : Dk} {f : Nat} {t : List UInt8} (h : Still D f t) (hf : f < 16) : Still D.strike.2 f t := by
  unfold Dk.strike; split
  · exact h
  · split
    · exact still_crash (h.of (D' := { D with calls := 0 }) rfl rfl rfl) hf _
    · exact h.of rfl rfl rfl
theorem still_settle {D : Dk} {f g : Nat} {t : List UInt8} (h : Still D f t) (hg : f ≠ g) : Still (D.settle g) f t :=
  ⟨by rw [settle_now]; exact h.now, by rw [settle_dur_other D hg]; exact h.dur, fun p hp => h.free p (List.mem_filter.1 (show p ∈ D.pend.filter (fun p => p.1 ≠ g) from hp)).1⟩
theorem still_wr {D : Dk} {f : Nat} {t : List UInt8} (h : Still D f t) {g a : Int} {s : List UInt8} (hg : g ≠ (f : Int)) : Still (D.wr g a s).2 f t := by
  unfold Dk.wr; split
  · exact h
  · rename_i h1
    split
    · exact h
    · split
      · exact h
      · have hi : isFile g = true := by
          cases hh : isFile g with
          | true => rfl
          | false => exact absurd (.inl hh) h1
        have h2 := isFile_true hi
        have hne : f ≠ g.toNat := by omega
        refine ⟨(upd_other _ _ hne).trans h.now, h.dur, fun p hp => ?_⟩
        rcases addSecs_mem _ (show p ∈ addSecs D.pend g.toNat (a.toNat / 64) _ from hp) with h3 | ⟨h3, _⟩
        · exact h.free p h3
        · omega
theorem still_write {D : Dk} {f : Nat} {t : List UInt8} (h : Still D f t) (hf : f < 16) {g a : Int} {s : List UInt8} (hg : g ≠ (f : Int)) : Still (D.write g a s).2 f t := by
  have hs := still_strike (still_wr (a := a) (s := s) h hg) hf
  unfold Dk.write; split
  · exact h
  · simp only; split <;> exact hs
theorem still_sync {D : Dk} {f : Nat} {t : List UInt8} (h : Still D f t) (hf : f < 16) {g : Int} (hg : g ≠ (f : Int)) : Still (D.sync g).2 f t := by
  have hs := still_strike h hf
  unfold Dk.sync; split
  · exact h
  · simp only; split
    · exact hs
    · split
      · exact hs
      · rename_i h1
        split
        · exact hs.of rfl rfl rfl
        · have h2 := isFile_true (f := g) (by simpa using h1)
          exact still_settle hs (by omega)
theorem still_truncate {D : Dk} {f : Nat} {t : List UInt8} (h : Still D f t) (hf : f < 16) {g n : Int} (hg : g ≠ (f : Int)) : Still (D.truncate g n).2 f t := by
  have hs := still_strike h hf
  unfold Dk.truncate; split
  · exact h
  · simp only; split
    · exact hs
    · split
      · exact hs
      · rename_i h1
        have hi : isFile g = true := by
          cases hh : isFile g with
          | true => rfl
          | false => exact absurd (.inl hh) h1
        have h2 := isFile_true hi
        have hne : f ≠ g.toNat := by omega
        have hq := still_settle (g := g.toNat) hs hne
        exact ⟨(upd_other _ _ hne).trans hq.now, (upd_other _ _ hne).trans hq.dur, hq.free⟩
theorem still_act {D : Dk} {f : Nat} {t : List UInt8} (h : Still D f t) (hf : f < 16) {x : Act1} (hx : (x.K % 8 < 4 ∧ x.F ≠ (f : Int)) ∨ x.K % 8 = 4) : Still (Dk.act D x).2 f t := by
  unfold Dk.act
  split
  · exact still_sync h hf (by omega)
  · split
    · exact still_truncate h hf (by omega)
    · split
      · exact h.of rfl rfl rfl
      · split
        · omega
        · split
          · omega
          · split
            · omega
            · exact still_write h hf (by omega)
/-- What a Sync that succeeds leaves. -/
theorem sync_ok {D : Dk} (h : Good D) {f : Int} (he : (D.sync f).1 = 0) : isFile f = true ∧ (D.sync f).2.down = false ∧ D.down = false ∧ Still (D.sync f).2 f.toNat (D.now f.toNat) := by
  unfold Dk.sync at he ⊢
  cases hd : D.down with
  | true => rw [hd] at he; exact absurd he (show ¬ ((8 : Int) = 0) by decide)
  | false =>
    rw [hd] at he
    rw [if_neg (by simp)] at he ⊢
    simp only at he ⊢
    cases hs : D.strike.1 with
    | true => rw [hs] at he; exact absurd he (show ¬ ((8 : Int) = 0) by decide)
    | false =>
      rw [hs] at he
      rw [if_neg (by simp)] at he ⊢
      cases hf : isFile f with
      | false => rw [hf] at he; exact absurd he (show ¬ ((1 : Int) = 0) by decide)
      | true =>
        rw [hf] at he
        rw [if_neg (by simp)] at he ⊢
        have hns : D.strike.2.now = D.now ∧ D.strike.2.down = false := by
          unfold Dk.strike at hs ⊢
          split
          · exact ⟨rfl, hd⟩
          · split
            · rename_i h1 h2; rw [if_neg h1, if_pos h2] at hs; cases hs
            · exact ⟨rfl, hd⟩
        by_cases hl : 0 < D.strike.2.lost
        · rw [if_pos hl] at he; exact absurd he (show ¬ ((9 : Int) = 0) by decide)
        · rw [if_neg hl]
          refine ⟨rfl, ?_, by simp, ?_⟩
          · show (D.strike.2.settle f.toNat).down = false
            rw [settle_down]; exact hns.2
          · show Still (D.strike.2.settle f.toNat) f.toNat _
            refine ⟨by rw [settle_now, hns.1], by rw [settle_dur (good_strike h), hns.1], fun p hp => ?_⟩
            have := (List.mem_filter.1 (show p ∈ D.strike.2.pend.filter (fun p => p.1 ≠ f.toNat) from hp)).2
            simpa using this
theorem still_start {D : Dk} {f : Nat} {t : List UInt8} (h : Still D f t) : Still D.start f t := h.of rfl rfl rfl
end Go.Proofs.YtjbcgahdiolhhaaDoor.D2
