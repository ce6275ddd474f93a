/- What crashes, lost syncs and torn writes leave of a journal's file. No Go in this text. -/
import Derived.Test.YtjbcgahdiolhhaaDoorJPlain
namespace Go.Proofs.YtjbcgahdiolhhaaDoor.D2
open Dp Jp

theorem putN_end (s t : List UInt8) : putN s s.length t = s ++ t := by
  unfold putN
  split
  · rename_i h; subst h; simp
  · unfold putL
    simp only
    rw [List.take_left, List.drop_eq_nil_of_le (by simp), List.append_nil]
theorem putN_nil (t : List UInt8) : putN [] 0 t = t := putN_end [] t

/-! ### A disk on which nothing fails -/
structure Quiet (D : Dk) : Prop where
  up : D.down = false
  calls : D.calls = 0
  lost : D.lost = 0
theorem quiet_new : Quiet new := ⟨rfl, rfl, rfl⟩
theorem isFile_nat {f : Nat} (h : f < 16) : isFile (f : Int) = true := isFile_of (by omega) (by omega)
theorem quiet_settle {D : Dk} (q : Quiet D) (f : Nat) : Quiet (D.settle f) := ⟨by rw [settle_down, q.up], by rw [settle_calls, q.calls], by rw [settle_lost, q.lost]⟩
theorem sync_quiet {D : Dk} (q : Quiet D) {f : Nat} (hf : f < 16) : D.sync (f : Int) = (0, D.settle f) := by
  unfold Dk.sync
  rw [q.up, if_neg (by simp)]
  simp only [strike_none q.calls]
  rw [if_neg (by simp), isFile_nat hf, if_neg (by simp), if_neg (by rw [q.lost]; omega)]
  rfl
theorem settled_still {D : Dk} (g : Good D) (f : Nat) : Still (D.settle f) f (D.now f) :=
  ⟨by rw [settle_now], settle_dur g f, fun p hp => by
    have := (List.mem_filter.1 (show p ∈ D.pend.filter (fun p => p.1 ≠ f) from hp)).2
    simpa using this⟩
theorem quiet_trunc {D : Dk} (q : Quiet D) (f n : Nat) : Quiet (D.trunc (f : Int) n) := quiet_settle q f |> fun h => ⟨h.up, h.calls, h.lost⟩
theorem trunc_still {D : Dk} (g : Good D) (f n : Nat) : Still (D.trunc (f : Int) n) f ((D.now f).take n) := by
  have h := trunc_facts g (f : Int) n
  rw [Int.toNat_natCast] at h
  exact ⟨h.1, h.2, (settled_still g f).free⟩
theorem open_quiet {D : Dk} (g : Good D) (q : Quiet D) {f : Nat} (hf : f < 16) :
    ∃ D', jopen D (f : Int) = (some (recs (D.now f)), 0, D') ∧ Quiet D' ∧ Good D' ∧ Still D' f (forms (recs (D.now f))) ∧ ∀ h, h ≠ f → D'.now h = D.now h := by
  have hp := recs_pre (D.now f)
  unfold jopen
  rw [isFile_nat hf, if_neg (by simp), sync_quiet q hf]
  simp only [Int.toNat_natCast]
  rw [if_neg (by simp)]
  have gs := good_settle g f
  by_cases hl : (forms (recs (D.now f))).length < (D.now f).length
  · rw [if_pos hl]
    have ht := truncate_up (D := D.settle f) (f := (f : Int)) (n := ((forms (recs (D.now f))).length : Int)) (quiet_settle q f).calls (quiet_settle q f).up (isFile_nat hf) (by omega) (by rw [settle_now]; simp; omega)
    rw [ht, if_neg (by simp)]
    refine ⟨_, rfl, quiet_trunc (quiet_settle q f) f _, good_trunc gs f _, ?_, fun h hh => ?_⟩
    · have := trunc_still gs f (forms (recs (D.now f))).length
      rw [settle_now, ← List.prefix_iff_eq_take.1 hp] at this
      exact this
    · simp only [Int.toNat_natCast]
      rw [trunc_now, if_neg hh, settle_now]
  · rw [if_neg hl]
    refine ⟨_, rfl, quiet_settle q f, gs, ?_, fun h _ => by rw [settle_now]⟩
    have he : forms (recs (D.now f)) = D.now f := hp.eq_of_length (by have := hp.length_le; omega)
    rw [he]
    exact settled_still g f
theorem wr_dur (D : Dk) (f a : Int) (s : List UInt8) : (D.wr f a s).2.dur = D.dur ∧ (D.wr f a s).2.lost = D.lost := by
  unfold Dk.wr; split
  · exact ⟨rfl, rfl⟩
  · split
    · exact ⟨rfl, rfl⟩
    · split <;> exact ⟨rfl, rfl⟩
theorem write_quiet {D : Dk} (g : Good D) (q : Quiet D) {f a : Nat} (hf : f < 16) {s : List UInt8} (hs : a + s.length ≤ 16777216) :
    ∃ D', D.write (f : Int) (a : Int) s = (0, D') ∧ Quiet D' ∧ Good D' ∧ D'.now f = putN (D.now f) a s ∧ (∀ h, h ≠ f → D'.now h = D.now h) ∧ D'.dur = D.dur := by
  have hw := wr_ok (D := D) (f := (f : Int)) (a := (a : Int)) (s := s) (isFile_nat hf) (by omega) (by omega)
  refine ⟨(D.wr (f : Int) (a : Int) s).2, ?_, ⟨by rw [wr_down, q.up], by rw [wr_calls, q.calls], by rw [(wr_dur D _ _ s).2, q.lost]⟩, good_wr g _ _ s, ?_, fun h hh => ?_, (wr_dur D _ _ s).1⟩
  · rw [write_up q.calls q.up]
    exact Prod.ext hw.1 rfl
  · rw [hw.2 f, if_pos (by simp)]; simp
  · rw [hw.2 h, if_neg (by simpa using hh)]
theorem append_quiet {D : Dk} (g : Good D) (q : Quiet D) {J : Jn} {f : Nat} (hf : f < 16) (hj : J.file = (f : Int)) (hb : J.bad = false) (hn : D.now f = forms J.l) {s : List UInt8} (hs : s.length ≤ 20000) (hm : (forms J.l).length + (form s).length ≤ 1048576) :
    ∃ D', jappend D J s = (0, D', { J with l := J.l ++ [s] }) ∧ Quiet D' ∧ Good D' ∧ D'.now f = forms (J.l ++ [s]) ∧ (∀ h, h ≠ f → D'.now h = D.now h) ∧ D'.dur = D.dur := by
  obtain ⟨D', h1, h2, h3, h4, h5, h6⟩ := write_quiet g q hf (a := (forms J.l).length) (s := form s) (by omega)
  refine ⟨D', ?_, h2, h3, ?_, h5, h6⟩
  · unfold jappend
    rw [hb, if_neg (by simp), if_neg (by omega), if_neg (by omega), hj, h1, if_neg (by simp)]
  · rw [h4, hn, putN_end, forms_snoc]

/-! ### Crashes -/
theorem getD_pre {s t : List UInt8} (h : s <+: t) {i : Nat} (hi : i < s.length) : s.getD i 0 = t.getD i 0 := by
  obtain ⟨u, rfl⟩ := h
  rw [List.getD_eq_getElem?_getD, List.getD_eq_getElem?_getD, List.getElem?_append_left hi]
theorem crash_dur {D : Dk} (hd : D.down = false) (ks : List Int) {f : Nat} (hf : f < 16) : (D.crash ks).dur f = (D.crash ks).now f := by
  rw [(crashed hd ks hf).1]
  unfold Dk.crash
  rw [hd]
  rfl
theorem crash_free {D : Dk} (hd : D.down = false) (ks : List Int) : (D.crash ks).pend = [] := by
  unfold Dk.crash; rw [hd]; rfl
theorem crash_tear {D : Dk} (g : Good D) (hd : D.down = false) (ks : List Int) {f : Nat} (hf : f < 16) (hp : D.dur f <+: D.now f) :
    Tear (D.now f) ((D.crash ks).now f) ∧ D.dur f <+: (D.crash ks).now f := by
  have hl := crash_len g hd ks hf
  have hx := (crashed hd ks hf).1
  have ha : ∀ i, ((D.crash ks).now f).getD i 0 = if (f, i / 64) ∈ survive ks 0 D.pend ∧ i < (D.now f).length then (D.now f).getD i 0 else (D.dur f).getD i 0 := fun i => by rw [hx, hardens_at]
  refine ⟨tear_of _ _ hl.2 fun i => ?_, ?_⟩
  · rw [ha]
    split
    · exact .inl rfl
    · rcases Nat.lt_or_ge i (D.dur f).length with h | h
      · exact .inl (getD_pre hp h)
      · exact .inr (getD_out h)
  · rw [List.prefix_iff_eq_take]
    refine eq_of_getD (by rw [List.length_take]; omega) fun i => ?_
    rcases Nat.lt_or_ge i (D.dur f).length with h | h
    · have e : (((D.crash ks).now f).take (D.dur f).length).getD i 0 = ((D.crash ks).now f).getD i 0 := by
        rw [List.getD_eq_getElem?_getD, List.getD_eq_getElem?_getD, List.getElem?_take_of_lt h]
      rw [e, ha]
      split
      · exact getD_pre hp h
      · rfl
    · rw [getD_out h, getD_out (by rw [List.length_take]; omega)]

/-- What is known of a journal's file at any moment: it is a tear of the records that may be there, and what must be there is durable. -/
structure Held (D : Dk) (f : Nat) (all sure : List (List UInt8)) : Prop where
  good : Good D
  tear : Tear (forms all) (D.now f)
  pre : D.dur f <+: D.now f
  safe : forms sure <+: D.dur f
  sub : sure <+: all
theorem Held.of {D D' : Dk} {f : Nat} {all sure : List (List UInt8)} (h : Held D f all sure) (h1 : D'.now = D.now) (h2 : D'.dur = D.dur) (h3 : D'.pend = D.pend) : Held D' f all sure :=
  ⟨h.good.of h1 h2 h3, by rw [h1]; exact h.tear, by rw [h1, h2]; exact h.pre, by rw [h2]; exact h.safe, h.sub⟩
theorem Held.crash {D : Dk} {f : Nat} {all sure : List (List UInt8)} (h : Held D f all sure) (hf : f < 16) (ks : List Int) : Held (D.crash ks) f all sure := by
  cases hd : D.down with
  | true => unfold Dk.crash; rw [hd]; exact h
  | false =>
    obtain ⟨h1, h2⟩ := crash_tear h.good hd ks hf h.pre
    exact ⟨good_crash h.good ks, h.tear.trans h1, by rw [crash_dur hd ks hf]; exact List.prefix_refl _, by rw [crash_dur hd ks hf]; exact h.safe.trans h2, h.sub⟩
theorem Held.strike {D : Dk} {f : Nat} {all sure : List (List UInt8)} (h : Held D f all sure) (hf : f < 16) : Held D.strike.2 f all sure := by
  unfold Dk.strike
  split
  · exact h
  · split
    · exact (h.of (D' := { D with calls := 0 }) rfl rfl rfl).crash hf _
    · exact h.of rfl rfl rfl
theorem Held.still {D : Dk} {f : Nat} {all : List (List UInt8)} (g : Good D) (h : Still D f (forms all)) : Held D f all all :=
  ⟨g, by rw [h.now]; exact Tear.refl _, by rw [h.now, h.dur]; exact List.prefix_refl _, by rw [h.dur]; exact List.prefix_refl _, List.prefix_refl _⟩
theorem Held.stay {D : Dk} {f : Nat} {all sure : List (List UInt8)} {t : List UInt8} (g : Good D) (h : Still D f t) (ht : Tear (forms all) t) (hs : forms sure <+: t) (hb : sure <+: all) : Held D f all sure :=
  ⟨g, by rw [h.now]; exact ht, by rw [h.now, h.dur]; exact List.prefix_refl _, by rw [h.dur]; exact hs, hb⟩
theorem Held.sync {D : Dk} {f : Nat} {all sure : List (List UInt8)} (h : Held D f all sure) (hf : f < 16) :
    Held (D.sync (f : Int)).2 f all sure ∧ ((D.sync (f : Int)).1 = 0 ∨ (D.sync (f : Int)).1 = 8 ∨ (D.sync (f : Int)).1 = 9) := by
  unfold Dk.sync
  split
  · exact ⟨h, .inr (.inl rfl)⟩
  · simp only
    split
    · exact ⟨h.strike hf, .inr (.inl rfl)⟩
    · rw [isFile_nat hf, if_neg (by simp)]
      split
      · exact ⟨(h.strike hf).of rfl rfl rfl, .inr (.inr rfl)⟩
      · have hs := h.strike hf
        rw [Int.toNat_natCast]
        exact ⟨Held.stay (good_settle hs.good f) (settled_still hs.good f) hs.tear (hs.safe.trans hs.pre) h.sub, .inl rfl⟩
theorem strike_same {D : Dk} (h : D.strike.1 = false) : D.strike.2.now = D.now ∧ D.strike.2.dur = D.dur ∧ D.strike.2.pend = D.pend ∧ D.strike.2.down = D.down := by
  unfold Dk.strike at h ⊢
  split
  · exact ⟨rfl, rfl, rfl, rfl⟩
  · split
    · rename_i h1 h2; rw [if_neg h1, if_pos h2] at h; cases h
    · exact ⟨rfl, rfl, rfl, rfl⟩
/-- What Open leaves. -/
theorem Held.opened {D : Dk} {f : Nat} {all sure : List (List UInt8)} (h : Held D f all sure) (hf : f < 16) (hs : ∀ r ∈ all, r.length ≤ 2000) :
    ((jopen D (f : Int)).1 = none ∧ ((jopen D (f : Int)).2.1 = 8 ∨ (jopen D (f : Int)).2.1 = 9) ∧ Held (jopen D (f : Int)).2.2 f all sure) ∨
    ∃ l, (jopen D (f : Int)).1 = some l ∧ (jopen D (f : Int)).2.1 = 0 ∧ l <+: all ∧ sure <+: l ∧ Good (jopen D (f : Int)).2.2 ∧ Still (jopen D (f : Int)).2.2 f (forms l) ∧ (jopen D (f : Int)).2.2.down = false := by
  obtain ⟨h1, h2⟩ := h.sync hf
  unfold jopen
  rw [isFile_nat hf, if_neg (by simp), Int.toNat_natCast]
  by_cases h0 : (D.sync (f : Int)).1 = 0
  · obtain ⟨_, hup, hup0, hst⟩ := sync_ok h.good h0
    rw [Int.toNat_natCast] at hst
    rw [if_neg (by simpa using h0)]
    have gs := h1.good
    have hk := tear_keeps (k := sure.length) hs h.tear h.sub.length_le (by rw [← List.prefix_iff_eq_take.1 h.sub]; exact h.safe.trans h.pre)
    rw [← List.prefix_iff_eq_take.1 h.sub] at hk
    have hp := recs_pre (D.now f)
    generalize (D.sync (f : Int)).2 = E at *
    by_cases hl : (forms (recs (D.now f))).length < (D.now f).length
    · rw [if_pos hl]
      have key : ((E.truncate (f : Int) ((forms (recs (D.now f))).length : Int)).1 = 8 ∧ Held (E.truncate (f : Int) ((forms (recs (D.now f))).length : Int)).2 f all sure) ∨
          ((E.truncate (f : Int) ((forms (recs (D.now f))).length : Int)).1 = 0 ∧ Good (E.truncate (f : Int) ((forms (recs (D.now f))).length : Int)).2 ∧ Still (E.truncate (f : Int) ((forms (recs (D.now f))).length : Int)).2 f (forms (recs (D.now f))) ∧ (E.truncate (f : Int) ((forms (recs (D.now f))).length : Int)).2.down = false) := by
        have gt := good_truncate gs (f : Int) ((forms (recs (D.now f))).length : Int)
        unfold Dk.truncate at gt ⊢
        rw [hup, if_neg (by simp)] at gt ⊢
        simp only at gt ⊢
        cases hk2 : E.strike.1 with
        | true => rw [if_pos rfl]; exact .inl ⟨rfl, h1.strike hf⟩
        | false =>
          obtain ⟨a1, a2, a3, a4⟩ := strike_same hk2
          have hst2 : Still E.strike.2 f (D.now f) := hst.of a1 a2 a3
          rw [hk2, if_neg (by simp)] at gt
          rw [if_neg (by simp)]
          have hno : ¬ (isFile (f : Int) = false ∨ ((forms (recs (D.now f))).length : Int) < 0 ∨ (E.strike.2.size (f : Int) : Int) < ((forms (recs (D.now f))).length : Int)) := by
            rw [isFile_nat hf]
            unfold Dk.size
            rw [isFile_nat hf, if_pos rfl, Int.toNat_natCast, hst2.now]
            simp; omega
          rw [if_neg hno] at gt ⊢
          refine .inr ⟨rfl, gt, ?_, ?_⟩
          · have := trunc_still (good_strike gs) f (forms (recs (D.now f))).length
            rw [hst2.now, ← List.prefix_iff_eq_take.1 hp] at this
            simpa using this
          · show (E.strike.2.settle _).down = false
            rw [settle_down, a4, hup]
      rcases key with ⟨k1, k2⟩ | ⟨k1, k2, k3, k4⟩
      · rw [if_pos (by rw [k1]; decide)]
        exact .inl ⟨rfl, .inl k1, k2⟩
      · rw [if_neg (by simpa using k1)]
        exact .inr ⟨_, rfl, rfl, hk.1, hk.2, k2, k3, k4⟩
    · rw [if_neg hl]
      have he : forms (recs (D.now f)) = D.now f := hp.eq_of_length (by have := hp.length_le; omega)
      exact .inr ⟨_, rfl, rfl, hk.1, hk.2, gs, by rw [he]; exact hst, hup⟩
  · rw [if_pos h0]
    exact .inl ⟨rfl, by simp only; omega, h1⟩
/-- What Append leaves, where the journal has not failed. -/
theorem Held.appended {D : Dk} {f : Nat} {all sure : List (List UInt8)} {J : Jn} (h : Held D f all sure) (hf : f < 16) (hj : J.file = (f : Int)) (hb : J.bad = false) (hl : J.l = all) (hn : D.now f = forms all) (hup : D.down = false) (s : List UInt8) :
    ((jappend D J s).1 = 0 ∧ Held (jappend D J s).2.1 f (all ++ [s]) sure ∧ (jappend D J s).2.1.now f = forms (all ++ [s]) ∧ (jappend D J s).2.1.down = false ∧ (jappend D J s).2.2 = { J with l := all ++ [s] }) ∨
    ((jappend D J s).1 = 8 ∧ Held (jappend D J s).2.1 f (all ++ [s]) sure ∧ (jappend D J s).2.2 = { J with bad := true }) ∨
    (((jappend D J s).1 = 3 ∨ (jappend D J s).1 = 6) ∧ (jappend D J s).2 = (D, J)) := by
  subst hl
  unfold jappend
  rw [hb, if_neg (by simp)]
  split
  · exact .inr (.inr ⟨.inl rfl, rfl⟩)
  · split
    · exact .inr (.inr ⟨.inr rfl, rfl⟩)
    · rename_i h1 h2
      have hw := wr_ok (D := D) (f := (f : Int)) (a := ((forms J.l).length : Int)) (s := form s) (isFile_nat hf) (by omega) (by omega)
      have hnow : (D.wr (f : Int) ((forms J.l).length : Int) (form s)).2.now f = forms (J.l ++ [s]) := by
        rw [hw.2 f, if_pos (by simp), hn, Int.toNat_natCast, putN_end, forms_snoc]
      have hdur := congrFun (wr_dur D (f : Int) ((forms J.l).length : Int) (form s)).1 f
      have hpre : D.dur f <+: forms (J.l ++ [s]) := by
        have := h.pre
        rw [hn] at this
        rw [forms_snoc]
        exact this.trans ⟨_, rfl⟩
      have hH : Held (D.wr (f : Int) ((forms J.l).length : Int) (form s)).2 f (J.l ++ [s]) sure :=
        ⟨good_wr h.good _ _ _, by rw [hnow]; exact Tear.refl _, by rw [hnow, hdur]; exact hpre, by rw [hdur]; exact h.safe, h.sub.trans ⟨_, rfl⟩⟩
      have hd := wr_down D (f : Int) ((forms J.l).length : Int) (form s)
      rw [hj]
      have hwr : D.write (f : Int) ((forms J.l).length : Int) (form s) = if (D.wr (f : Int) ((forms J.l).length : Int) (form s)).2.strike.1 then (8, (D.wr (f : Int) ((forms J.l).length : Int) (form s)).2.strike.2) else (0, (D.wr (f : Int) ((forms J.l).length : Int) (form s)).2.strike.2) := by
        unfold Dk.write
        rw [hup, if_neg (by simp), ← hw.1]
        rfl
      rw [hwr]
      cases hk : (D.wr (f : Int) ((forms J.l).length : Int) (form s)).2.strike.1 with
      | true =>
        refine .inr (.inl ⟨by simp, ?_, by simp⟩)
        simpa using hH.strike hf
      | false =>
        obtain ⟨a1, a2, a3, a4⟩ := strike_same hk
        refine .inl ⟨by simp, ?_, ?_, ?_, by simp⟩
        · simpa using hH.of a1 a2 a3
        · simp [a1, hnow]
        · simp [a4, hd, hup]
end Go.Proofs.YtjbcgahdiolhhaaDoor.D2
