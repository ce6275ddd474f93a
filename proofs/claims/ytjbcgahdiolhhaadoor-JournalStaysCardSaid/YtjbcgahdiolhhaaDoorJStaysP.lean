/- A disk on which no crash is armed, and a journal on it (JournalStays). No Go in this text. -/
import Derived.Test.YtjbcgahdiolhhaaDoorJActs
namespace Go.Proofs.YtjbcgahdiolhhaaDoor.D2
open Dp Jp

/-- Up, with no crash armed. -/
structure Sta (n : Nat) (D : Dk) : Prop where
  good : Good D
  up : D.down = false
  calls : D.calls = 0
  len : (D.now 0).length ≤ n
structure StaJ (n : Nat) (D : Dk) (J : Jn) : Prop where
  file : J.file = 0
  size : (forms J.l).length ≤ n
  small : ∀ r ∈ J.l, r.length ≤ 20000
  now : J.bad = false → D.now 0 = forms J.l
theorem Sta.mono {n m : Nat} {D : Dk} (h : Sta n D) (hm : n ≤ m) : Sta m D := ⟨h.good, h.up, h.calls, by have := h.len; omega⟩
theorem StaJ.mono {n m : Nat} {D : Dk} {J : Jn} (h : StaJ n D J) (hm : n ≤ m) : StaJ m D J := ⟨h.file, by have := h.size; omega, h.small, h.now⟩
theorem sta_new : Sta 0 new := ⟨good_new, rfl, rfl, by decide⟩
theorem Sta.lose {n : Nat} {D : Dk} (h : Sta n D) (k : Int) : Sta n (D.lose k) := ⟨h.good.of rfl rfl rfl, h.up, h.calls, h.len⟩
theorem StaJ.lose {n : Nat} {D : Dk} {J : Jn} (h : StaJ n D J) (k : Int) : StaJ n (D.lose k) J := ⟨h.file, h.size, h.small, h.now⟩
theorem sync_sta {D : Dk} (hu : D.down = false) (hc : D.calls = 0) : D.sync 0 = if 0 < D.lost then (9, { D with lost := D.lost - 1 }) else (0, D.settle 0) := by
  have i0 : isFile 0 = true := isFile_nat (f := 0) (by decide)
  unfold Dk.sync
  rw [if_neg (by rw [hu]; simp)]
  simp only [strike_none hc]
  rw [if_neg (by simp), i0, if_neg (by simp)]
  rfl
theorem Sta.synced {n : Nat} {D : Dk} (h : Sta n D) : Sta n (D.sync 0).2 ∧ (D.sync 0).2.now = D.now ∧ ((D.sync 0).1 = 0 ∨ (D.sync 0).1 = 9) := by
  rw [sync_sta h.up h.calls]
  split
  · exact ⟨⟨h.good.of rfl rfl rfl, h.up, h.calls, h.len⟩, rfl, .inr rfl⟩
  · exact ⟨⟨good_settle h.good 0, by rw [settle_down]; exact h.up, by rw [settle_calls]; exact h.calls, by rw [settle_now]; exact h.len⟩, settle_now D 0, .inl rfl⟩
theorem Sta.crash {n : Nat} {D : Dk} (h : Sta n D) (ks : List Int) : Sta n (D.crash ks).start := by
  refine ⟨(good_crash h.good ks).of rfl rfl rfl, rfl, ?_, ?_⟩
  · show (D.crash ks).calls = 0
    unfold Dk.crash; rw [h.up]; rfl
  · show ((D.crash ks).now 0).length ≤ n
    have := (crash_len h.good h.up ks (f := 0) (by decide)).2
    have := h.len
    omega
theorem Sta.opened {n : Nat} {D : Dk} (h : Sta n D) :
    (∃ e D', jopen D 0 = (none, e, D') ∧ Sta n D') ∨ ∃ l D', jopen D 0 = (some l, 0, D') ∧ Sta n D' ∧ StaJ n D' ⟨0, l, false⟩ := by
  have i0 : isFile 0 = true := isFile_nat (f := 0) (by decide)
  obtain ⟨h1, h2, h3⟩ := h.synced
  have hp := recs_pre (D.now 0)
  have hl0 := h.len
  have hz := recs_size _ (D.now 0) (Nat.le_refl _)
  have e0 : (0 : Int).toNat = 0 := rfl
  unfold jopen
  rw [i0, if_neg (by simp), e0]
  by_cases hs : (D.sync 0).1 = 0
  · rw [if_neg (by simpa using hs)]
    generalize (D.sync 0).2 = E at *
    by_cases hl : (forms (recs (D.now 0))).length < (D.now 0).length
    · rw [if_pos hl]
      have ht := truncate_up (D := E) (f := 0) (n := ((forms (recs (D.now 0))).length : Int)) h1.calls h1.up i0 (by omega) (by rw [e0, h2]; omega)
      rw [ht, if_neg (by simp)]
      have hts := trunc_still h1.good 0 (forms (recs (D.now 0))).length
      rw [h2, ← List.prefix_iff_eq_take.1 hp] at hts
      have hn : (E.trunc 0 (forms (recs (D.now 0))).length).now 0 = forms (recs (D.now 0)) := hts.now
      refine .inr ⟨_, _, rfl, ⟨good_trunc h1.good 0 _, ?_, ?_, ?_⟩, ⟨rfl, ?_, hz, fun _ => ?_⟩⟩
      · show (E.settle _).down = false
        rw [settle_down]; exact h1.up
      · show (E.settle _).calls = 0
        rw [settle_calls]; exact h1.calls
      · rw [Int.toNat_natCast, hn]; omega
      · show (forms (recs (D.now 0))).length ≤ n
        omega
      · rw [Int.toNat_natCast]; exact hn
    · rw [if_neg hl]
      have he : forms (recs (D.now 0)) = D.now 0 := hp.eq_of_length (by have := hp.length_le; omega)
      exact .inr ⟨_, _, rfl, h1, ⟨rfl, by show (forms (recs (D.now 0))).length ≤ n; rw [he]; exact hl0, hz, fun _ => by rw [h2]; exact he.symm⟩⟩
  · rw [if_pos hs]
    exact .inl ⟨_, _, rfl, h1⟩
theorem Sta.appended {n : Nat} {D : Dk} {J : Jn} (h : Sta n D) (hj : StaJ n D J) {s : List UInt8} (hs : s.length ≤ 200) (hn : n ≤ 1000000) :
    Sta (n + 270) (jappend D J s).2.1 ∧ StaJ (n + 270) (jappend D J s).2.1 (jappend D J s).2.2 ∧ (((jappend D J s).1 = 0 ∧ (jappend D J s).2.2.l = J.l ++ [s]) ∨ ((jappend D J s).1 = 7 ∧ (jappend D J s).2.2.l = J.l)) := by
  unfold jappend
  cases hb : J.bad with
  | true => rw [if_pos rfl]; exact ⟨h.mono (by omega), hj.mono (by omega), .inr ⟨rfl, rfl⟩⟩
  | false =>
    have hfl := form_len s (by omega)
    have hz := hj.size
    rw [if_neg (by simp), if_neg (by omega), if_neg (by omega), hj.file]
    have i0 : isFile 0 = true := isFile_nat (f := 0) (by decide)
    have hw := wr_ok (D := D) (f := 0) (a := ((forms J.l).length : Int)) (s := form s) i0 (by omega) (by omega)
    rw [write_up h.calls h.up, if_neg (by simp [hw.1])]
    have hnow : (D.wr 0 ((forms J.l).length : Int) (form s)).2.now 0 = forms (J.l ++ [s]) := by
      rw [hw.2 0, if_pos (by simp), hj.now hb, Int.toNat_natCast, putN_end, forms_snoc]
    have hlen : (forms (J.l ++ [s])).length ≤ n + 270 := by rw [forms_snoc, List.length_append]; omega
    refine ⟨⟨good_wr h.good _ _ _, by rw [wr_down]; exact h.up, by rw [wr_calls]; exact h.calls, by rw [hnow]; exact hlen⟩, ⟨rfl, hlen, fun r hr => ?_, fun _ => hnow⟩, .inl ⟨rfl, rfl⟩⟩
    rcases List.mem_append.1 hr with hr | hr
    · exact hj.small r hr
    · rw [List.mem_singleton.1 hr]; omega
theorem Sta.jsynced {n : Nat} {D : Dk} {J : Jn} (h : Sta n D) (hj : StaJ n D J) :
    Sta n (jsync D J).2.1 ∧ StaJ n (jsync D J).2.1 (jsync D J).2.2 ∧ (jsync D J).2.2.l = J.l ∧ ((jsync D J).1 = 0 → Still (jsync D J).2.1 0 (forms J.l)) := by
  unfold jsync
  cases hb : J.bad with
  | true => rw [if_pos rfl]; exact ⟨h, hj, rfl, fun e => absurd (show (7 : Int) = 0 from e) (by decide)⟩
  | false =>
    rw [if_neg (by simp), hj.file]
    obtain ⟨h1, h2, h3⟩ := h.synced
    refine ⟨h1, ⟨rfl, hj.size, hj.small, fun _ => by rw [h2]; exact hj.now hb⟩, rfl, fun e => ?_⟩
    have := (sync_ok h.good e).2.2.2
    rw [show (0 : Int).toNat = 0 from rfl, hj.now hb] at this
    exact this
theorem quiet_crash {D : Dk} (q : Quiet D) (ks : List Int) : Quiet (D.crash ks).start := by
  refine ⟨rfl, ?_, ?_⟩
  · show (D.crash ks).calls = 0
    unfold Dk.crash; rw [q.up]; rfl
  · show (D.crash ks).lost = 0
    unfold Dk.crash; rw [q.up]
    exact (hardens_keeps (survive ks 0 D.pend) D).2.2.2.1.trans q.lost
/-- What is synced stays through a crash. -/
theorem stays_round {D : Dk} {L : List (List UInt8)} (g : Good D) (q : Quiet D) (s : Still D 0 (forms L)) (hr : ∀ r ∈ L, r.length ≤ 20000) (ks : List Int) :
    ∃ D', jopen (D.crash ks).start 0 = (some L, 0, D') ∧ Good D' ∧ Quiet D' ∧ Still D' 0 (forms L) := by
  have s1 := still_start (still_crash s (by decide) ks)
  obtain ⟨D', h1, h2, h3, h4, _⟩ := open_quiet ((good_crash g ks).of (D' := (D.crash ks).start) rfl rfl rfl) (quiet_crash q ks) (f := 0) (by decide)
  rw [s1.now, recs_forms' L hr] at h1 h4
  exact ⟨D', h1, h3, h2, h4⟩
end Go.Proofs.YtjbcgahdiolhhaaDoor.D2
