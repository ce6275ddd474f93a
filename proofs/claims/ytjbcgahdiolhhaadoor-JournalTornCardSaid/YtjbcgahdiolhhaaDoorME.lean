/- Several texts in one: JStaysP, JStaysW, JRow, JCard, JArgs, DOrd, DOrd2, JOrd. -/
import Derived.Test.YtjbcgahdiolhhaaDoorMD
import Derived.Test.YtjbcgahdiolhhaaDoorRows
import Derived.Test.YtjbcgahdiolhhaaDoorMA
import Derived.ProofKit
import Derived.LaidMore
import Derived.OpenShut
import Derived.ShutString
import Derived.Stop.Joined
import Derived.Stop.LaidErr
import Derived.Lib.LaidTab
import Derived.MakeChecks
import Derived.Test.YtjbcgahdiolhhaaDoorCards
import Derived.Test.YtjbcgahdiolhhaaDoorTie
import Derived.SevenTiedAt
import Derived.Deep.Slices
import Derived.ChangeSlices
import Derived.SliceStrings
import Derived.Carry
import Derived.OrdersHeld
import Derived.StillTail
import Derived.Tactics
import Derived.KernelRfl
namespace Go.Proofs.YtjbcgahdiolhhaaDoor.D2
open Dp Jp

/-- Up, with no crash armed. -/
structure Sta (n : Nat) (D : Dk) : Prop where
  good : Good D
  up : D.down = false
  calls : D.calls = 0
  len : (D.now 0).length ≤ n
structure StaJ (n : Nat) (D : Dk) (J : Jn) : Prop where
  file : J.file = 0
  size : (forms J.l).length ≤ n
  small : ∀ r ∈ J.l, r.length ≤ 20000
  now : J.bad = false → D.now 0 = forms J.l
theorem Sta.mono {n m : Nat} {D : Dk} (h : Sta n D) (hm : n ≤ m) : Sta m D := ⟨h.good, h.up, h.calls, by have := h.len; omega⟩
theorem StaJ.mono {n m : Nat} {D : Dk} {J : Jn} (h : StaJ n D J) (hm : n ≤ m) : StaJ m D J := ⟨h.file, by have := h.size; omega, h.small, h.now⟩
theorem sta_new : Sta 0 new := ⟨good_new, rfl, rfl, by decide⟩
theorem Sta.lose {n : Nat} {D : Dk} (h : Sta n D) (k : Int) : Sta n (D.lose k) := ⟨h.good.of rfl rfl rfl, h.up, h.calls, h.len⟩
theorem StaJ.lose {n : Nat} {D : Dk} {J : Jn} (h : StaJ n D J) (k : Int) : StaJ n (D.lose k) J := ⟨h.file, h.size, h.small, h.now⟩
theorem sync_sta {D : Dk} (hu : D.down = false) (hc : D.calls = 0) : D.sync 0 = if 0 < D.lost then (9, { D with lost := D.lost - 1 }) else (0, D.settle 0) := by
  have i0 : isFile 0 = true := isFile_nat (f := 0) (by decide)
  unfold Dk.sync
  rw [if_neg (by rw [hu]; simp)]
  simp only [strike_none hc]
  rw [if_neg (by simp), i0, if_neg (by simp)]
  rfl
theorem Sta.synced {n : Nat} {D : Dk} (h : Sta n D) : Sta n (D.sync 0).2 ∧ (D.sync 0).2.now = D.now ∧ ((D.sync 0).1 = 0 ∨ (D.sync 0).1 = 9) := by
  rw [sync_sta h.up h.calls]
  split
  · exact ⟨⟨h.good.of rfl rfl rfl, h.up, h.calls, h.len⟩, rfl, .inr rfl⟩
  · exact ⟨⟨good_settle h.good 0, by rw [settle_down]; exact h.up, by rw [settle_calls]; exact h.calls, by rw [settle_now]; exact h.len⟩, settle_now D 0, .inl rfl⟩
theorem Sta.crash {n : Nat} {D : Dk} (h : Sta n D) (ks : List Int) : Sta n (D.crash ks).start := by
  refine ⟨(good_crash h.good ks).of rfl rfl rfl, rfl, ?_, ?_⟩
  · show (D.crash ks).calls = 0
    unfold Dk.crash; rw [h.up]; rfl
  · show ((D.crash ks).now 0).length ≤ n
    have := (crash_len h.good h.up ks (f := 0) (by decide)).2
    have := h.len
    omega
theorem Sta.opened {n : Nat} {D : Dk} (h : Sta n D) :
    (∃ e D', jopen D 0 = (none, e, D') ∧ Sta n D') ∨ ∃ l D', jopen D 0 = (some l, 0, D') ∧ Sta n D' ∧ StaJ n D' ⟨0, l, false⟩ := by
  have i0 : isFile 0 = true := isFile_nat (f := 0) (by decide)
  obtain ⟨h1, h2, h3⟩ := h.synced
  have hp := recs_pre (D.now 0)
  have hl0 := h.len
  have hz := recs_size _ (D.now 0) (Nat.le_refl _)
  have e0 : (0 : Int).toNat = 0 := rfl
  unfold jopen
  rw [i0, if_neg (by simp), e0]
  by_cases hs : (D.sync 0).1 = 0
  · rw [if_neg (by simpa using hs)]
    generalize (D.sync 0).2 = E at *
    by_cases hl : (forms (recs (D.now 0))).length < (D.now 0).length
    · rw [if_pos hl]
      have ht := truncate_up (D := E) (f := 0) (n := ((forms (recs (D.now 0))).length : Int)) h1.calls h1.up i0 (by omega) (by rw [e0, h2]; omega)
      rw [ht, if_neg (by simp)]
      have hts := trunc_still h1.good 0 (forms (recs (D.now 0))).length
      rw [h2, ← List.prefix_iff_eq_take.1 hp] at hts
      have hn : (E.trunc 0 (forms (recs (D.now 0))).length).now 0 = forms (recs (D.now 0)) := hts.now
      refine .inr ⟨_, _, rfl, ⟨good_trunc h1.good 0 _, ?_, ?_, ?_⟩, ⟨rfl, ?_, hz, fun _ => ?_⟩⟩
      · show (E.settle _).down = false
        rw [settle_down]; exact h1.up
      · show (E.settle _).calls = 0
        rw [settle_calls]; exact h1.calls
      · rw [Int.toNat_natCast, hn]; omega
      · show (forms (recs (D.now 0))).length ≤ n
        omega
      · rw [Int.toNat_natCast]; exact hn
    · rw [if_neg hl]
      have he : forms (recs (D.now 0)) = D.now 0 := hp.eq_of_length (by have := hp.length_le; omega)
      exact .inr ⟨_, _, rfl, h1, ⟨rfl, by show (forms (recs (D.now 0))).length ≤ n; rw [he]; exact hl0, hz, fun _ => by rw [h2]; exact he.symm⟩⟩
  · rw [if_pos hs]
    exact .inl ⟨_, _, rfl, h1⟩
theorem Sta.appended {n : Nat} {D : Dk} {J : Jn} (h : Sta n D) (hj : StaJ n D J) {s : List UInt8} (hs : s.length ≤ 200) (hn : n ≤ 1000000) :
    Sta (n + 270) (jappend D J s).2.1 ∧ StaJ (n + 270) (jappend D J s).2.1 (jappend D J s).2.2 ∧ (((jappend D J s).1 = 0 ∧ (jappend D J s).2.2.l = J.l ++ [s]) ∨ ((jappend D J s).1 = 7 ∧ (jappend D J s).2.2.l = J.l)) := by
  unfold jappend
  cases hb : J.bad with
  | true => rw [if_pos rfl]; exact ⟨h.mono (by omega), hj.mono (by omega), .inr ⟨rfl, rfl⟩⟩
  | false =>
    have hfl := form_len s (by omega)
    have hz := hj.size
    rw [if_neg (by simp), if_neg (by omega), if_neg (by omega), hj.file]
    have i0 : isFile 0 = true := isFile_nat (f := 0) (by decide)
    have hw := wr_ok (D := D) (f := 0) (a := ((forms J.l).length : Int)) (s := form s) i0 (by omega) (by omega)
    rw [write_up h.calls h.up, if_neg (by simp [hw.1])]
    have hnow : (D.wr 0 ((forms J.l).length : Int) (form s)).2.now 0 = forms (J.l ++ [s]) := by
      rw [hw.2 0, if_pos (by simp), hj.now hb, Int.toNat_natCast, putN_end, forms_snoc]
    have hlen : (forms (J.l ++ [s])).length ≤ n + 270 := by rw [forms_snoc, List.length_append]; omega
    refine ⟨⟨good_wr h.good _ _ _, by rw [wr_down]; exact h.up, by rw [wr_calls]; exact h.calls, by rw [hnow]; exact hlen⟩, ⟨rfl, hlen, fun r hr => ?_, fun _ => hnow⟩, .inl ⟨rfl, rfl⟩⟩
    rcases List.mem_append.1 hr with hr | hr
    · exact hj.small r hr
    · rw [List.mem_singleton.1 hr]; omega
theorem Sta.jsynced {n : Nat} {D : Dk} {J : Jn} (h : Sta n D) (hj : StaJ n D J) :
    Sta n (jsync D J).2.1 ∧ StaJ n (jsync D J).2.1 (jsync D J).2.2 ∧ (jsync D J).2.2.l = J.l ∧ ((jsync D J).1 = 0 → Still (jsync D J).2.1 0 (forms J.l)) := by
  unfold jsync
  cases hb : J.bad with
  | true => rw [if_pos rfl]; exact ⟨h, hj, rfl, fun e => absurd (show (7 : Int) = 0 from e) (by decide)⟩
  | false =>
    rw [if_neg (by simp), hj.file]
    obtain ⟨h1, h2, h3⟩ := h.synced
    refine ⟨h1, ⟨rfl, hj.size, hj.small, fun _ => by rw [h2]; exact hj.now hb⟩, rfl, fun e => ?_⟩
    have := (sync_ok h.good e).2.2.2
    rw [show (0 : Int).toNat = 0 from rfl, hj.now hb] at this
    exact this
theorem quiet_crash {D : Dk} (q : Quiet D) (ks : List Int) : Quiet (D.crash ks).start := by
  refine ⟨rfl, ?_, ?_⟩
  · show (D.crash ks).calls = 0
    unfold Dk.crash; rw [q.up]; rfl
  · show (D.crash ks).lost = 0
    unfold Dk.crash; rw [q.up]
    exact (hardens_keeps (survive ks 0 D.pend) D).2.2.2.1.trans q.lost
/-- What is synced stays through a crash. -/
theorem stays_round {D : Dk} {L : List (List UInt8)} (g : Good D) (q : Quiet D) (s : Still D 0 (forms L)) (hr : ∀ r ∈ L, r.length ≤ 20000) (ks : List Int) :
    ∃ D', jopen (D.crash ks).start 0 = (some L, 0, D') ∧ Good D' ∧ Quiet D' ∧ Still D' 0 (forms L) := by
  have s1 := still_start (still_crash s (by decide) ks)
  obtain ⟨D', h1, h2, h3, h4, _⟩ := open_quiet ((good_crash g ks).of (D' := (D.crash ks).start) rfl rfl rfl) (quiet_crash q ks) (f := 0) (by decide)
  rw [s1.now, recs_forms' L hr] at h1 h4
  exact ⟨D', h1, h3, h2, h4⟩
end Go.Proofs.YtjbcgahdiolhhaaDoor.D2
namespace Go.Proofs.YtjbcgahdiolhhaaDoor.D2
open Go.RowKit Go.Maps Go.ChangeMaps Go.MapKept
open Dp Jp
attribute [local go_sem ↓] Go.wp_at_zero Go.wp_at_succ

/-- Where a journal is, if there is one. -/
inductive JAt : Option (Nat × Jn) → Value → Prop
  | no : JAt none (.pointer none)
  | yes (b : Nat) (J : Jn) : JAt (some (b, J)) (.pointer (some ⟨b, 0, none⟩))
def jobs (d : Nat) (D : Dk) : Option (Nat × Jn) → List Ob
  | none => [.disk d D]
  | some (b, J) => [.disk d D, .jour b d J]
theorem jobs_take {w0 w : World} {d : Nat} {D : Dk} {jx : Option (Nat × Jn)} (h : OMem w0 w (jobs d D jx)) : OMem w0 w [.disk d D] := by
  cases jx with
  | none => exact h
  | some p => exact h.take 1
theorem jobs_get {d : Nat} {D : Dk} {jx : Option (Nat × Jn)} : (jobs d D jx)[0]? = some (.disk d D) := by cases jx <;> rfl
theorem jobs_set {d : Nat} {D D' : Dk} {jx : Option (Nat × Jn)} : (jobs d D jx).set 0 (.disk d D') = jobs d D' jx := by cases jx <;> rfl
structure StaX (n : Nat) (D : Dk) (jx : Option (Nat × Jn)) : Prop where
  disk : Sta n D
  jour : ∀ b J, jx = some (b, J) → StaJ n D J
theorem StaX.mono {n m : Nat} {D : Dk} {jx : Option (Nat × Jn)} (h : StaX n D jx) (hm : n ≤ m) : StaX m D jx := ⟨h.disk.mono hm, fun b J e => (h.jour b J e).mono hm⟩
theorem few_at {w0 w : World} {a : Option Addr} {xs : List Op1} (h : OArgs w0 a xs) (hl : xs.length ≤ 9223372036854775807) (cap : Nat) (hb : Below w0.heap.size w0 w) {r : Bool} (hr : fewO xs = r) :
    Calls Tryd.prog 8 #[.slice a xs.length cap] w fun e w' => e = .returned (.bool r) ∧ w = w' := by
  rw [← hr]; exact fewO_any a cap xs w hl (h.at_.keep hb)
/-- The strings that came in. -/
structure TArgs (w0 : World) (a : Option Addr) (ts : List (List UInt8)) : Prop where
  at_ : ∀ k x, ts[k]? = some x → ∃ b off, a = some ⟨b, off, none⟩ ∧ w0.cell? ⟨b, off + k, none⟩ = some (.string (bs x))
theorem TArgs.of {w0 : World} {a : Option Addr} {n cap : Nat} {ts : List (List UInt8)} (h : TextsAt w0 (.slice a n cap) ts) : TArgs w0 a ts := by
  obtain ⟨a', c', h1, h2⟩ := texts_at h
  simp only [Value.slice.injEq] at h1
  obtain ⟨rfl, _, _⟩ := h1
  exact ⟨h2⟩
theorem TArgs.get {w0 w : World} {a : Option Addr} {ts : List (List UInt8)} (h : TArgs w0 a ts) (hb : Below w0.heap.size w0 w) {k : Nat} {x : List UInt8} (hx : ts[k]? = some x) : ∃ b off, a = some ⟨b, off, none⟩ ∧ w.cell? ⟨b, off + k, none⟩ = some (.string (bs x)) := by
  obtain ⟨b, off, h1, h2⟩ := h.at_ k x hx
  exact ⟨b, off, h1, below_cell h2 hb⟩
theorem fewT_at {w0 w : World} {v : Value} {ts : List (List UInt8)} (h : TextsAt w0 v ts) (hl : ts.length ≤ 9223372036854775807) (hb : Below w0.heap.size w0 w) {r : Bool} (hr : fewT ts = r) :
    Calls Tryd.prog 21 #[v] w fun e w' => e = .returned (.bool r) ∧ w = w' := by
  rw [← hr]; exact fewT_any v ts w hl (texts_fresh h hb)

theorem same_one {w : World} {v v' : Value} {l : List (List UInt8)} (hm : l.length ≤ 1099511627776) (h : TextsAt w v l) (h' : TextsAt w v' l) :
    Calls Tryd.prog 16 #[v, v'] w fun e w' => e = .returned (.bool true) ∧ Below w.heap.size w w' := by
  have := sameTexts_any v v' l l hm w h h'
  rwa [decide_eq_true rfl] at this
theorem take3 {os : List Ob} {x y z : Ob} (h : os.take 3 = [x, y, z]) : os[0]? = some x ∧ os[2]? = some z ∧ ∀ q, (os ++ [q]).take 3 = [x, y, z] := by
  have h0 : (os.take 3)[0]? = some x := by rw [h]; rfl
  have h2 : (os.take 3)[2]? = some z := by rw [h]; rfl
  rw [List.getElem?_take_of_lt (by omega)] at h0 h2
  have hl : 3 ≤ os.length := by have := (List.getElem?_eq_some_iff.1 h2).1; omega
  exact ⟨h0, h2, fun q => by rw [List.take_append_of_le_length hl]; exact h⟩

section
variable {w : World} {a a1 a2 a3 : Option Addr} {xs : List Op1} {ts : List (List UInt8)} {ks us : List Int}
set_option maxHeartbeats 2000000 in
set_option maxRecDepth 100000 in
theorem jstays_out (cap cap1 c2 c3 : Nat) (ho : OArgs w a xs) (hl : xs.length ≤ 9223372036854775807) (ht : TextsAt w (.slice a1 ts.length cap1) ts) (hlt : ts.length ≤ 9223372036854775807) (hk : ks.length ≤ 9223372036854775807) (hu : us.length ≤ 9223372036854775807)
    (hb : fewO xs = false ∨ fewT ts = false ∨ 50 < ks.length ∨ 50 < us.length) (he : Env w) :
    Calls Tryd.prog 4 #[.slice a xs.length cap, .slice a1 ts.length cap1, .slice a2 ks.length c2, .slice a3 us.length c3] w fun e w' => e = .returned (.bool true) ∧ Below w.heap.size w w' := by
  have HO := Lib.hid ho
  have HT := Lib.hid ht
  obtain ⟨r, hr⟩ : ∃ r, fewO xs = r := ⟨_, rfl⟩
  obtain ⟨q, hq⟩ : ∃ q, fewT ts = q := ⟨_, rfl⟩
  rw [hr, hq] at hb
  have HR := Lib.hid hr
  have HQ := Lib.hid hq
  clear ho ht hr hq
  have hb : r = false ∨ (r = true ∧ q = false) ∨ (r = true ∧ q = true ∧ 50 < ks.length) ∨ (r = true ∧ q = true ∧ ¬ 50 < ks.length ∧ 50 < us.length) := by
    by_cases h50 : 50 < ks.length <;> cases r <;> cases q <;> simp_all
  rcases hb with h | ⟨h, h2⟩ | ⟨h, h2, h3⟩ | ⟨h, h2, h3, h4⟩
  all_goals
    subst h
    try subst h2
    go_enter Tryd.func4, Tryd.ntmps4
    go_wp2_with (go_at_call 7; refine (small_any _ he).mono ?_; rintro e w1 ⟨rfl, b1⟩; refine Hid.out ?_)
    refine Lib.hid ?_
    have B1 := Lib.hid b1
    have F1 := Lib.hid (few_at HO.out hl cap b1 HR.out)
    have F2 := Lib.hid (fewT_at HT.out hlt b1 HQ.out)
    clear b1
    go_wp2_with (first | (go_at_call 8; refine F1.out.mono ?_; rintro e w2 ⟨rfl, rfl⟩) | (go_at_call 21; refine F2.out.mono ?_; rintro e w2 ⟨rfl, rfl⟩))
    go_ret
    exact ⟨rfl, B1.out⟩

set_option maxHeartbeats 16000000 in
set_option maxRecDepth 100000 in
theorem jstays_main (cap cap1 c2 c3 : Nat) (ho : OArgs w a xs) (hfx : fewO xs = true) (ht : TextsAt w (.slice a1 ts.length cap1) ts) (hft : fewT ts = true) (hk : Nums w w (.slice a2 ks.length c2) ks) (hkl : ks.length ≤ 50) (hu : Nums w w (.slice a3 us.length c3) us) (hul : us.length ≤ 50) (he : Env w) :
    Calls Tryd.prog 4 #[.slice a xs.length cap, .slice a1 ts.length cap1, .slice a2 ks.length c2, .slice a3 us.length c3] w fun e w' => e = .returned (.bool true) ∧ Below w.heap.size w w' := by
  obtain ⟨i0, hi, hz0, hz1, hz2⟩ := info_parts string_info
  have HFX := Lib.hid (fewO_true hfx)
  have HFT := Lib.hid (fewT_true hft)
  have hl25 := HFX.out.1
  have ht8 := HFT.out.1
  have HR := Lib.hid hfx
  have HQ := Lib.hid hft
  have HO := Lib.hid ho
  have HT := Lib.hid ht
  have HK := Lib.hid hk
  have HU := Lib.hid hu
  have HKL := Lib.hid hkl
  have HUL := Lib.hid hul
  have HGT := Lib.hid (TArgs.of ht)
  have SE := Lib.hid (Sta.opened sta_new)
  clear hfx hft ho ht hk hu
  obtain ⟨D1, p1, q1, g1, s1, _⟩ := open_quiet good_new quiet_new (f := 0) (by decide)
  have e1 : recs (new.now 0) = [] := rfl
  rw [e1] at p1 s1
  have P1 : Hid (jopen new 0 = (some [], 0, D1)) := Lib.hid p1
  have hs0 : StaX (270 * 0) D1 (some (0, ⟨0, [], false⟩)) := ⟨⟨g1, q1.up, q1.calls, by rw [s1.now]; decide⟩, fun b J e => by cases e; exact ⟨rfl, by decide, by simp, fun _ => s1.now⟩⟩
  have HS0 := Lib.hid hs0
  clear p1 q1 g1 s1 e1 hs0
  go_enter Tryd.func4, Tryd.ntmps4
  go_wp2_with (go_at_call 7; refine (small_any _ he).mono ?_; rintro e w1 ⟨rfl, b1⟩; refine Hid.out ?_)
  refine Lib.hid ?_
  have F1 := Lib.hid (few_at HO.out (by omega) cap b1 HR.out)
  have F2 := Lib.hid (fewT_at HT.out (by omega) b1 HQ.out)
  have M0 := Lib.hid ((OMem.start w).fresh b1)
  clear b1
  go_wp2_with (first | (go_at_call 8; refine F1.out.mono ?_; rintro e w2 ⟨rfl, rfl⟩) | (go_at_call 21; refine F2.out.mono ?_; rintro e w2 ⟨rfl, rfl⟩) | (go_at_call 9; refine (o_new M0.out).mono ?_; rintro e w2 ⟨d, rfl, m⟩; refine Hid.out ?_))
  refine Lib.hid ?_
  have M1 := Lib.hid (show OMem w w2 [.disk d new] from m)
  clear m M0 F1 F2
  go_wp2_with (go_at_call 10; refine (o_open1 (i := 0) M1.out rfl 0 I64.zero he P1.out).mono ?_; rintro e w3 ⟨b, rfl, m⟩; refine Hid.out ?_)
  refine Lib.hid ?_
  have M2 := Lib.hid (show OMem w w3 (jobs d D1 (some (b, ⟨0, [], false⟩))) from m)
  have HS1 : Hid (StaX (270 * 0) D1 (some (b, ⟨0, [], false⟩))) := Lib.hid ⟨HS0.out.disk, fun b' J e => by cases e; exact HS0.out.jour 0 _ rfl⟩
  clear m M1 HS0
  go_wp2
  go_loopw [11, 13] (fun jv iv wr => ∃ (k : Nat) (jx : Option (Nat × Jn)) (D : Dk), k ≤ xs.length ∧ iv = .int .i64 (k : Int) ∧ Hid (JAt jx jv) ∧ Hid (StaX (270 * k) D jx) ∧ Hid (OMem w wr (jobs d D jx))) (fun _ iv _ => xs.length - (intOf iv).toNat)
  case atStart => exact ⟨0, _, _, Nat.zero_le _, rfl, Lib.hid (.yes b _), HS1, M2⟩
  case round =>
    clear HS1 M2 P1
    obtain ⟨k, jx, D, hk, rfl, HJ, HS, HM⟩ := hrel
    by_cases hlt : k < xs.length
    · obtain ⟨x, hx⟩ : ∃ x, xs[k]? = some x := ⟨_, List.getElem?_eq_getElem hlt⟩
      obtain ⟨bo, off, va, vc, rfl, hc, hn, hok⟩ := HO.out.get HM.out.below hx
      have hfx := HFX.out.2 x (List.mem_of_getElem? hx)
      obtain ⟨c0, c1, c2', c3'⟩ := hc
      have HN := Lib.hid hn
      have HOK := Lib.hid hok
      have HF1 := Lib.hid hfx
      clear hx hn hok hfx
      have hk1 : k + 1 ≤ xs.length := hlt
      by_cases k4 : x.K = 4
      · rw [k4] at c0
        have HSC := Lib.hid ((HS.out.disk).crash x.Keep)
        have M3 := Lib.hid (jobs_take HM.out)
        clear HM HS HJ
        go_wp2_with (go_at_call 18; refine (o_crash (i := 0) M3.out rfl _ x.Keep HN.out (by have := HF1.out.2; omega)).mono ?_; rintro e w4 ⟨rfl, m⟩; refine Hid.out ?_)
        refine Lib.hid ?_
        have M4 := Lib.hid (show OMem w w4 [.disk d (D.crash x.Keep)] from m)
        clear m M3
        go_wp2_with (go_at_call 19; refine (o_start (i := 0) M4.out rfl).mono ?_; rintro e w5 ⟨rfl, m⟩; refine Hid.out ?_)
        refine Lib.hid ?_
        have M5 := Lib.hid (show OMem w w5 [.disk d (D.crash x.Keep).start] from m)
        clear m M4
        rcases HSC.out.opened with ⟨n, D', p, s⟩ | ⟨l, D', p, s, sj⟩
        · have P := Lib.hid p
          have S := Lib.hid (show StaX (270 * (k + 1)) D' none from ⟨s.mono (by omega), fun b J e => by cases e⟩)
          clear p s
          go_wp2_with (go_at_call 10; refine (o_open0 (i := 0) M5.out rfl 0 I64.zero he P.out).mono ?_; rintro e w6 ⟨rfl, m⟩; have M6 := Lib.hid m; clear m)
          go_roundw
          case rel => exact ⟨k + 1, none, D', hk1, by go_num, Lib.hid .no, S, M6⟩
          case measure => simp [intOf]; omega
        · have P := Lib.hid p
          have S := Lib.hid (show ∀ b', StaX (270 * (k + 1)) D' (some (b', ⟨0, l, false⟩)) from fun b' => ⟨s.mono (by omega), fun b J e => by cases e; exact sj.mono (by omega)⟩)
          clear p s sj
          go_wp2_with (go_at_call 10; refine (o_open1 (i := 0) M5.out rfl 0 I64.zero he P.out).mono ?_; rintro e w6 ⟨b', rfl, m⟩; have M6 := Lib.hid m; clear m)
          go_roundw
          case rel => exact ⟨k + 1, some (b', ⟨0, l, false⟩), D', hk1, by go_num, Lib.hid (.yes _ _), Lib.hid (S.out b'), M6⟩
          case measure => simp [intOf]; omega
      by_cases k2 : x.K = 2
      · rw [k2] at c0
        have HS2 := Lib.hid (show StaX (270 * (k + 1)) (D.lose x.N) jx from ⟨(HS.out.disk.lose x.N).mono (by omega), fun b J e => ((HS.out.jour b J e).lose x.N).mono (by omega)⟩)
        clear HS
        go_wp2_with (go_at_call 11; refine (o_lose (i := 0) HM.out jobs_get x.N HOK.out.N).mono ?_; rintro e w4 ⟨rfl, m⟩; have M4 := Lib.hid m; clear m)
        go_roundw
        case rel => exact ⟨k + 1, jx, D.lose x.N, hk1, by go_num, HJ, HS2, Lib.hid (by have := M4.out; rwa [jobs_set] at this)⟩
        case measure => simp [intOf]; omega
      by_cases k0 : x.K = 0
      · rw [k0] at c0
        have hj := HJ.out
        cases hj with
        | no =>
          have HS2 := Lib.hid (HS.out.mono (show 270 * k ≤ 270 * (k + 1) by omega))
          clear HS
          go_wp2
          go_roundw
          case rel => exact ⟨k + 1, none, D, hk1, by go_num, HJ, HS2, HM⟩
          case measure => simp [intOf]; omega
        | yes b J =>
          obtain ⟨a1', a2', a3'⟩ := HS.out.disk.appended (HS.out.jour b J rfl) HF1.out.1 (by omega : 270 * k ≤ 1000000)
          have HS2 := Lib.hid (show StaX (270 * (k + 1)) (jappend D J x.S).2.1 (some (b, (jappend D J x.S).2.2)) from ⟨a1'.mono (by omega), fun b J e => by cases e; exact a2'.mono (by omega)⟩)
          have M3 : Hid (OMem w wr [.disk d D, .jour b d J]) := HM
          have HA := Lib.hid (o_append (i := 0) (k := 1) M3.out rfl rfl (by decide) x.S (M3.out.env he))
          clear a1' a2' a3' HS HM
          generalize jappend D J x.S = r at HS2 HA
          go_wp2_with (go_at_call 14; refine HA.out.mono ?_; rintro e w4 ⟨rfl, m⟩; have M4 := Lib.hid m; clear m)
          go_roundw
          case rel => exact ⟨k + 1, _, _, hk1, by go_num, Lib.hid (.yes b _), HS2, M4⟩
          case measure => simp [intOf]; omega
      by_cases k1 : x.K = 1
      · rw [k1] at c0
        have hj := HJ.out
        cases hj with
        | no =>
          have HS2 := Lib.hid (HS.out.mono (show 270 * k ≤ 270 * (k + 1) by omega))
          clear HS
          go_wp2
          go_roundw
          case rel => exact ⟨k + 1, none, D, hk1, by go_num, HJ, HS2, HM⟩
          case measure => simp [intOf]; omega
        | yes b J =>
          obtain ⟨a1', a2', a3', _⟩ := HS.out.disk.jsynced (HS.out.jour b J rfl)
          have HS2 := Lib.hid (show StaX (270 * (k + 1)) (jsync D J).2.1 (some (b, (jsync D J).2.2)) from ⟨a1'.mono (by omega), fun b J e => by cases e; exact a2'.mono (by omega)⟩)
          have M3 : Hid (OMem w wr [.disk d D, .jour b d J]) := HM
          have HA := Lib.hid (o_jsync (i := 0) (k := 1) M3.out rfl rfl (by decide))
          clear a1' a2' a3' HS HM
          generalize jsync D J = r at HS2 HA
          go_wp2_with (go_at_call 17; refine HA.out.mono ?_; rintro e w4 ⟨rfl, m⟩; have M4 := Lib.hid m; clear m)
          go_roundw
          case rel => exact ⟨k + 1, _, _, hk1, by go_num, Lib.hid (.yes b _), HS2, M4⟩
          case measure => simp [intOf]; omega
      have HS2 := Lib.hid (HS.out.mono (show 270 * k ≤ 270 * (k + 1) by omega))
      clear HS
      go_wp2
      go_roundw
      case rel => exact ⟨k + 1, jx, D, hk1, by go_num, HJ, HS2, HM⟩
      case measure => simp [intOf]; omega
    · have HS2 := Lib.hid (HS.out.mono (show 270 * k ≤ 270 * 25 by omega))
      have hj := HJ.out
      clear HS HJ
      cases hj with
      | no =>
        go_wp2
        go_ret
        exact ⟨rfl, HM.out.below⟩
      | yes b J =>
        have M3 : Hid (OMem w wr [.disk d D, .jour b d J]) := HM
        clear HM
        go_wp2_with (go_at_call 13; refine (o_all (k := 1) M3.out rfl).mono ?_; rintro e w4 ⟨vw, rfl, m⟩; refine Hid.out ?_)
        refine Lib.hid ?_
        have M4 := Lib.hid (show OMem w w4 [.disk d D, .jour b d J, .own 9 vw (strVs J.l)] from m)
        clear m M3
        have HS3 : Hid (Sta (6750 + 270 * 0) D ∧ StaJ (6750 + 270 * 0) D J) := Lib.hid ⟨HS2.out.disk, HS2.out.jour b J rfl⟩
        clear HS2
        go_wp2
        go_loopw [14, 15] (fun vv iv wr => ∃ (k : Nat) (J : Jn) (D : Dk), k ≤ ts.length ∧ iv = .int .i64 (k : Int) ∧ Hid (Sta (6750 + 270 * k) D ∧ StaJ (6750 + 270 * k) D J) ∧ Hid (OMem w wr [.disk d D, .jour b d J, .own 9 vv (strVs J.l)])) (fun _ iv _ => ts.length - (intOf iv).toNat)
        case atStart => exact ⟨0, J, D, Nat.zero_le _, rfl, HS3, M4⟩
        case round =>
          clear M4 HS3
          obtain ⟨k, J, D, hk, rfl, HS, HM⟩ := hrel
          have HLL : J.l.length ≤ 10000 := by have := forms_count J.l; have := HS.out.2.size; omega
          by_cases hlt : k < ts.length
          · obtain ⟨x, hx⟩ : ∃ x, ts[k]? = some x := ⟨_, List.getElem?_eq_getElem hlt⟩
            have HXX := Lib.hid hx
            obtain ⟨bt, ot, rfl, hct⟩ := HGT.out.get HM.out.below hx
            have hfx := HFT.out.2 x (List.mem_of_getElem? hx)
            obtain ⟨a1', a2', a3'⟩ := HS.out.1.appended HS.out.2 hfx (by omega : 6750 + 270 * k ≤ 1000000)
            obtain ⟨⟨rn, D2, J2⟩, hr⟩ : ∃ r, jappend D J x = r := ⟨_, rfl⟩
            rw [hr] at a1' a2' a3'
            simp only at a1' a2' a3'
            have HS2 := Lib.hid (show Sta (6750 + 270 * (k + 1)) D2 ∧ StaJ (6750 + 270 * (k + 1)) D2 J2 from ⟨a1'.mono (by omega), a2'.mono (by omega)⟩)
            have HA := Lib.hid (o_append1 (i := 0) (k := 1) HM.out rfl rfl (by decide) x (HM.out.env he) hr)
            have hk1 : k + 1 ≤ ts.length := hlt
            clear a1' a2' HS HM hx hfx hr
            rcases a3' with ⟨rfl, zl⟩ | ⟨rfl, zl⟩
            · have ZL := Lib.hid zl
              clear zl
              go_wp2_with (go_at_call 14; refine HA.out.mono ?_; rintro e w5 ⟨rfl, m⟩; refine Hid.out ?_)
              refine Lib.hid ?_
              have M5 := Lib.hid (show OMem w w5 [.disk d D2, .jour b d J2, .own 9 u14 (strVs J.l)] from m)
              have hown := M5.out.at_row (i := 2) rfl
              rw [strVs_length] at hown
              obtain ⟨bt5, ot5, e5, hct5⟩ := HGT.out.get M5.out.below HXX.out
              simp only [Option.some.injEq, Addr.mk.injEq, and_true] at e5
              obtain ⟨rfl, rfl⟩ := e5
              clear m hct HA
              go_wp2_with (at_builtin; refine Hid.out ?_)
              refine Lib.hid ?_
              refine wpList_append_own_at _ rfl _ _ 32 rfl 0 9 i0 (.string ⟨#[]⟩) 1 16 Tryd.underlying32 hi hz0 hz1 hz2 rfl (by decide) _ _ _ rfl (hown.alloc _) ⟨w5.heap.size, 0, none⟩ 1 1 [.string (bs x)] rfl rfl (cell_one_new _ _ _) ?p2 ?p3 ?p4 (Nat.zero_le _) ?_
              case p2 => intro y hy; simp at hy; subst hy; rfl
              case p3 => unfold maxLen; omega
              case p4 => omega
              intro v' w6 hown6 hgrow _ hat
              have m6 := (M5.out.fresh (below_alloc w5 (.cells #[.string (bs x)] 9))).grow (i := 2) (v' := v') (xs' := strVs (J.l ++ [x])) rfl hgrow (by simpa [strVs] using hown6) hat
              have M6 : Hid (OMem w w6 [.disk d D2, .jour b d J2, .own 9 v' (strVs J2.l)]) := Lib.hid (by rw [ZL.out]; exact m6)
              clear hown hown6 hgrow hat m6 M5
              go_wp2
              go_roundw
              case rel => exact ⟨k + 1, J2, D2, hk1, by go_num, HS2, M6⟩
              case measure => simp [intOf]; omega
            · have ZL := Lib.hid zl
              clear zl
              go_wp2_with (go_at_call 14; refine HA.out.mono ?_; rintro e w5 ⟨rfl, m⟩; have M5 := Lib.hid m; clear m)
              go_roundw
              case rel =>
                refine ⟨k + 1, J2, D2, hk1, by go_num, HS2, Lib.hid ?_⟩
                have := M5.out
                rw [ZL.out]
                exact this
              case measure => simp [intOf]; omega
          · obtain ⟨g1, g2, g3, g4⟩ := HS.out.1.jsynced HS.out.2
            obtain ⟨⟨rn, D2, J2⟩, hjs⟩ : ∃ r, jsync D J = r := ⟨_, rfl⟩
            rw [hjs] at g1 g2 g3 g4
            simp only at g1 g2 g3 g4
            have HA := Lib.hid (o_jsync1 (i := 0) (k := 1) HM.out rfl rfl (by decide) hjs)
            have HRS := Lib.hid HS.out.2.small
            have HLC : Hid (J.l.length ≤ 1099511627776) := Lib.hid (by omega)
            have G3 := Lib.hid g3
            have HQ := Lib.hid (show Sta (6750 + 270 * k) D2 ∧ (rn = 0 → Still D2 0 (forms J.l)) from ⟨g1, g4⟩)
            clear g1 g2 g3 g4 HS HM hjs
            by_cases hr : rn = 0
            · have HQ2 := Lib.hid (show Good (D2.lose 0) ∧ Quiet (D2.lose 0) ∧ Still (D2.lose 0) 0 (forms J.l) from ⟨HQ.out.1.good.of rfl rfl rfl, ⟨HQ.out.1.up, HQ.out.1.calls, rfl⟩, (HQ.out.2 hr).of rfl rfl rfl⟩)
              subst hr
              clear HQ
              go_wp2_with (go_at_call 17; refine HA.out.mono ?_; rintro e w5 ⟨rfl, m⟩; refine Hid.out ?_)
              refine Lib.hid ?_
              have M5 := Lib.hid (show OMem w w5 [.disk d D2, .jour b d J2, .own 9 u14 (strVs J.l)] from m)
              clear m HA
              go_wp2_with (go_at_call 11; refine (o_lose (i := 0) M5.out rfl 0 I64.zero).mono ?_; rintro e w6 ⟨rfl, m⟩; refine Hid.out ?_)
              refine Lib.hid ?_
              have M6 := Lib.hid (show OMem w w6 [.disk d (D2.lose 0), .jour b d J2, .own 9 u14 (strVs J.l)] from m)
              clear m M5
              go_wp2
              go_loopw [11, 17] (fun jv iv wr => ∃ (k : Nat) (os : List Ob) (ji b3 : Nat) (J3 : Jn) (D3 : Dk) (o1 : Ob), k ≤ 2 ∧ iv = .int .i64 (k : Int) ∧ jv = .pointer (some ⟨b3, 0, none⟩) ∧ Hid (os.take 3 = [.disk d D3, o1, .own 9 u14 (strVs J.l)]) ∧ Hid (os[ji]? = some (.jour b3 d J3) ∧ J3.l = J.l) ∧ Hid (Good D3 ∧ Quiet D3 ∧ Still D3 0 (forms J.l)) ∧ Hid (OMem w wr os)) (fun _ iv _ => 2 - (intOf iv).toNat)
              case atStart => exact ⟨0, _, 1, b, J2, D2.lose 0, _, by omega, rfl, rfl, Lib.hid rfl, Lib.hid ⟨rfl, G3.out⟩, HQ2, M6⟩
              case round =>
                clear M6 HQ2
                obtain ⟨k3, os, ji, b3, J3, D3, o1, hk3, rfl, rfl, HO3, HJ3, HQ3, HM3⟩ := hrel
                have HALL := Lib.hid (o_all HM3.out HJ3.out.1)
                by_cases hlt3 : k3 < 2
                · go_wp2_with (go_at_call 13; refine HALL.out.mono ?_; rintro e w7 ⟨v7, rfl, m⟩; refine Hid.out ?_)
                  refine Lib.hid ?_
                  have M7 := Lib.hid m
                  have t1 := m.texts (get_push os _)
                  rw [HJ3.out.2] at t1
                  have SAME := Lib.hid (same_one HLC.out t1 (m.texts (get_app (take3 HO3.out).2.1 _)))
                  clear m t1 HALL HM3
                  go_wp2_with (go_at_call 16; refine SAME.out.mono ?_; rintro e w8 ⟨rfl, b8⟩; refine Hid.out ?_)
                  refine Lib.hid ?_
                  have m9 := (M7.out.fresh b8).take 3
                  rw [(take3 HO3.out).2.2] at m9
                  have M9 := Lib.hid m9
                  clear m9 b8 M7 SAME
                  have hk03 : k3 = 0 ∨ k3 = 1 := by omega
                  rcases hk03 with rfl | rfl
                  · skip
                    go_wp2_with (go_at_call 18; refine (o_crash (i := 0) M9.out rfl _ ks (HK.out.to M9.out.below) (by have := HKL.out; omega)).mono ?_; rintro e w10 ⟨rfl, m⟩; refine Hid.out ?_)
                    refine Lib.hid ?_
                    obtain ⟨D2, p, g, q, st⟩ := stays_round HQ3.out.1 HQ3.out.2.1 HQ3.out.2.2 HRS.out ks
                    have P := Lib.hid p
                    have HQ4 := Lib.hid (show Good D2 ∧ Quiet D2 ∧ Still D2 0 (forms J.l) from ⟨g, q, st⟩)
                    have M10 := Lib.hid (show OMem w w10 [.disk d (D3.crash ks), o1, .own 9 u14 (strVs J.l)] from m)
                    clear m M9 p g q st
                    go_wp2_with (go_at_call 19; refine (o_start (i := 0) M10.out rfl).mono ?_; rintro e w11 ⟨rfl, m⟩; refine Hid.out ?_)
                    refine Lib.hid ?_
                    have M11 := Lib.hid (show OMem w w11 [.disk d (D3.crash ks).start, o1, .own 9 u14 (strVs J.l)] from m)
                    clear m M10
                    go_wp2_with (go_at_call 10; refine (o_open1 (i := 0) M11.out rfl 0 I64.zero he P.out).mono ?_; rintro e w12 ⟨b4, rfl, m⟩; have M12 := Lib.hid m; clear m)
                    go_roundw
                    case rel => exact ⟨1, _, 3, b4, ⟨0, J.l, false⟩, D2, o1, by omega, by go_num, rfl, Lib.hid rfl, Lib.hid ⟨rfl, rfl⟩, HQ4, M12⟩
                    case measure => simp [intOf]
                  · skip
                    go_wp2_with (go_at_call 18; refine (o_crash (i := 0) M9.out rfl _ us (HU.out.to M9.out.below) (by have := HUL.out; omega)).mono ?_; rintro e w10 ⟨rfl, m⟩; refine Hid.out ?_)
                    refine Lib.hid ?_
                    obtain ⟨D2, p, g, q, st⟩ := stays_round HQ3.out.1 HQ3.out.2.1 HQ3.out.2.2 HRS.out us
                    have P := Lib.hid p
                    have HQ4 := Lib.hid (show Good D2 ∧ Quiet D2 ∧ Still D2 0 (forms J.l) from ⟨g, q, st⟩)
                    have M10 := Lib.hid (show OMem w w10 [.disk d (D3.crash us), o1, .own 9 u14 (strVs J.l)] from m)
                    clear m M9 p g q st
                    go_wp2_with (go_at_call 19; refine (o_start (i := 0) M10.out rfl).mono ?_; rintro e w11 ⟨rfl, m⟩; refine Hid.out ?_)
                    refine Lib.hid ?_
                    have M11 := Lib.hid (show OMem w w11 [.disk d (D3.crash us).start, o1, .own 9 u14 (strVs J.l)] from m)
                    clear m M10
                    go_wp2_with (go_at_call 10; refine (o_open1 (i := 0) M11.out rfl 0 I64.zero he P.out).mono ?_; rintro e w12 ⟨b4, rfl, m⟩; have M12 := Lib.hid m; clear m)
                    go_roundw
                    case rel => exact ⟨2, _, 3, b4, ⟨0, J.l, false⟩, D2, o1, by omega, by go_num, rfl, Lib.hid rfl, Lib.hid ⟨rfl, rfl⟩, HQ4, M12⟩
                    case measure => simp [intOf]
                · obtain rfl : k3 = 2 := by omega
                  go_wp2_with (go_at_call 13; refine HALL.out.mono ?_; rintro e w7 ⟨v7, rfl, m⟩; refine Hid.out ?_)
                  refine Lib.hid ?_
                  have M7 := Lib.hid m
                  have t1 := m.texts (get_push os _)
                  rw [HJ3.out.2] at t1
                  have SAME := Lib.hid (same_one HLC.out t1 (m.texts (get_app (take3 HO3.out).2.1 _)))
                  clear m t1 HALL HM3
                  go_wp2_with (go_at_call 16; refine SAME.out.mono ?_; rintro e w8 ⟨rfl, b8⟩; have B8 := Lib.hid b8; clear b8)
                  go_ret
                  exact ⟨rfl, (M7.out.fresh B8.out).below⟩
            · have hr1 : (rn != 0) = true := bne_iff_ne.2 hr
              go_wp2_with (go_at_call 17; refine HA.out.mono ?_; rintro e w5 ⟨rfl, m⟩; refine Hid.out ?_)
              refine Lib.hid ?_
              have M5 := Lib.hid (show OMem w w5 [.disk d D2, .jour b d J2, .own 9 u14 (strVs J.l)] from m)
              clear m HA
              go_wp2_with (go_at_call 13; refine (o_all (k := 1) M5.out rfl).mono ?_; rintro e w6 ⟨v6, rfl, m⟩; refine Hid.out ?_)
              refine Lib.hid ?_
              have M6 := Lib.hid (show OMem w w6 [.disk d D2, .jour b d J2, .own 9 u14 (strVs J.l), .own 9 v6 (strVs J2.l)] from m)
              have t1 := M6.out.texts (i := 3) rfl
              rw [G3.out] at t1
              have SAME := Lib.hid (same_one HLC.out t1 (M6.out.texts (i := 2) rfl))
              clear m t1 M5
              go_wp2_with (go_at_call 16; refine SAME.out.mono ?_; rintro e w8 ⟨rfl, b8⟩; have B8 := Lib.hid b8; clear b8)
              go_ret
              exact ⟨rfl, (M6.out.fresh B8.out).below⟩
theorem jstays_walk (a0 : Option Addr) (n0 cap : Nat) (xs : List Op1) (hn0 : xs.length = n0) (hm0 : n0 ≤ maxLen) (o0 : OArgs w a0 xs) (v1 : Value) (ts : List (List UInt8)) (ht : TextsAt w v1 ts) (hl1 : ts.length ≤ 9223372036854775807)
    (a2 : Option Addr) (n2 c2 : Nat) (ks : List Int) (hn2 : ks.length = n2) (hm2 : n2 ≤ maxLen) (o2 : Nums w w (.slice a2 n2 c2) ks) (a3 : Option Addr) (n3 c3 : Nat) (us : List Int) (hn3 : us.length = n3) (hm3 : n3 ≤ maxLen) (o3 : Nums w w (.slice a3 n3 c3) us) (he : Env w) :
    Calls Tryd.prog 4 #[.slice a0 n0 cap, v1, .slice a2 n2 c2, .slice a3 n3 c3] w fun e w' => e = .returned (.bool true) ∧ Below w.heap.size w w' := by
  subst hn0 hn2 hn3
  obtain ⟨a1, cap1, rfl, hg⟩ := texts_at ht
  clear hg
  unfold maxLen at hm0 hm2 hm3
  by_cases hb : fewO xs = false ∨ fewT ts = false ∨ 50 < ks.length ∨ 50 < us.length
  · exact jstays_out cap cap1 c2 c3 o0 (by omega) ht hl1 (by omega) (by omega) hb he
  · have h1 : fewO xs = true := by cases h : fewO xs with | true => rfl | false => exact absurd (.inl h) hb
    have h2 : fewT ts = true := by cases h : fewT ts with | true => rfl | false => exact absurd (.inr (.inl h)) hb
    exact jstays_main cap cap1 c2 c3 o0 h1 ht h2 o2 (by omega) o3 (by omega) he
end
end Go.Proofs.YtjbcgahdiolhhaaDoor.D2
namespace Go.Proofs.YtjbcgahdiolhhaaDoor
open Go.ChangeShapes Go.WideShapes Go.ChangeAt Go.RowKit

theorem own : ownKnob Tryd.prog.godebug = none := by kernel_rfl
/-- The variables as every row of this seat lists them. -/
def laidList : List (String × DataW Unit) := Rows.journalReadsRow.laid

theorem door_met (os : Os) (args : Array Value) : laidMetH Tryd.prog laidList ((World.doorLaid Tryd.prog 4000 os).forCall (fun _ _ => 0) ⟨#[], args, []⟩).memory := by
  rw [MakeChecks.laidMetH_plain _ _ _ (by kernel_rfl)]
  exact laidMet_of_run' 8 (by kernel_rfl) (by kernel_rfl)

theorem gTabType : (Tryd.prog.globals[0]?).map (·.type) = some 105 := by kernel_rfl
theorem gSynType : (Tryd.prog.globals[2]?).map (·.type) = some 86 := by kernel_rfl
theorem gRngType : (Tryd.prog.globals[3]?).map (·.type) = some 86 := by kernel_rfl
theorem cellsU : Tryd.prog.cellsOf 93 = 1 := by kernel_rfl
theorem cellsTab : Tryd.prog.cellsOf 105 = 20 := by kernel_rfl
theorem cellsErr : Tryd.prog.cellsOf 120 = 1 := by kernel_rfl
theorem cellsStr : Tryd.prog.cellsOf 9 = 1 := by kernel_rfl
theorem star : "*" ++ "errors.errorString" = "*errors.errorString" := by decide
theorem rowErr (u : TypeId) (h : Tryd.prog.typeName? 3 u = some "*errors.errorString") : u = 118 :=
  typeName_ptr_named (nm := "errors.errorString") (by rw [star]; kernel_rfl) (by kernel_rfl) (by decide) u (by rw [star]; exact h)

theorem tabEq : (Rows.laid_internal_strconv_uint64pow10 : DataW Unit) = Lib.tabData .u64 Lib.pow10Tab := by
  have h : Lib.pow10Tab = [1, 10, 100, 1000, 10000, 100000, 1000000, 10000000, 100000000, 1000000000, 10000000000, 100000000000, 1000000000000, 10000000000000, 100000000000000, 1000000000000000, 10000000000000000, 100000000000000000, 1000000000000000000, 10000000000000000000] := by decide +kernel
  unfold Rows.laid_internal_strconv_uint64pow10 Lib.tabData
  rw [h]
  rfl

theorem lt_of_var {w : World} {n : String} {g : Nat} {cs : Array Value} (hg : Tryd.prog.globalNamed n = some g) (h : w.var? Tryd.prog n = some cs) : g < w.heap.size := by
  unfold World.var? at h
  simp only [hg, Option.bind_some] at h
  rcases Nat.lt_or_ge g w.heap.size with h' | h'
  · exact h'
  · simp [Array.getElem?_eq_none h'] at h

theorem env_of_laid {W : World} (h : laidMetH Tryd.prog laidList W) : Env W := by
  rw [MakeChecks.laidMetH_plain _ _ _ (by kernel_rfl)] at h
  have h : laidMet Tryd.prog [("math/bits.deBruijn32tab", Rows.laid_math_bits_deBruijn32tab), ("math/bits.deBruijn64tab", Rows.laid_math_bits_deBruijn64tab), ("internal/strconv.uint64pow10", Rows.laid_internal_strconv_uint64pow10), ("strconv.ErrRange", Rows.laid_strconv_ErrRange), ("strconv.ErrSyntax", Rows.laid_strconv_ErrSyntax)] W := h
  have h64 := h.tail
  obtain ⟨_, ⟨g5, _, cs5, _, _, _, hg5, _, hv5, _⟩, _⟩ := h64
  have h5 : g5 = 5 := Option.some.inj (hg5.symm.trans (by kernel_rfl))
  have ht := h.tail.tail
  rw [tabEq] at ht
  have htab := Lib.tabIs_of_head gTab gTabType Tryd.underlying105 Tryd.underlying93 cellsU cellsTab ht
  obtain ⟨a1, _, hv1, _⟩ := laid_sentinel ht.tail gRng gRngType Tryd.underlying86 rowErr Tryd.underlying118 Tryd.underlying120 rfl rfl Tryd.underlying9 cellsErr cellsStr
  obtain ⟨a2, _, hv2, _⟩ := laid_sentinel ht.tail.tail gSyn gSynType Tryd.underlying86 rowErr Tryd.underlying118 Tryd.underlying120 rfl rfl Tryd.underlying9 cellsErr cellsStr
  refine ⟨htab, ⟨_, _, hv2⟩, ⟨_, _, hv1⟩, ?_⟩
  have := lt_of_var hg5 hv5
  subst h5
  unfold G0
  omega
end Go.Proofs.YtjbcgahdiolhhaaDoor

namespace Go.Proofs.YtjbcgahdiolhhaaDoor.D2
open Go.ChangeShapes Go.WideShapes Go.ChangeAt Go.RowKit
open Dp

theorem cellsLI : Tryd.prog.cellsOf 23 = 1 := by kernel_rfl
theorem cellsStr : Tryd.prog.cellsOf 9 = 1 := by kernel_rfl
theorem cellsO : Tryd.prog.cellsOf 34 = 4 := by kernel_rfl
theorem i64_of_wf {x : Int} (h : (Lit.int .i64 x).wf = true) : I64 x := by
  simp [Lit.wf, IntKind.min, IntKind.max, IntKind.signed, IntKind.bits] at h
  exact ⟨by omega, by omega⟩

section
variable {H : Type} {enc : TypeId × Value → H} {W : World} {fuel : Nat}
theorem ints_of {c : Value} {x : DataW H × List MemPlace} (h : DataW.trod enc Tryd.prog W 0 (fun _ => true) true fuel 23 [c] = some x) : ∃ a n cap ks, c = .slice a n cap ∧ ks.length = n ∧ n ≤ maxLen ∧ SrcIs W 1 c ks.length (intVs ks) ∧ ∀ z ∈ ks, I64 z := by
  rcases open_ints Tryd.underlying23 Tryd.underlying3 cellsI h with ⟨hc, _⟩ | ⟨a, len, cap, zs, hc, _, hl, hm, hz, _, hcell, hwf⟩
  · simp only [List.cons.injEq, and_true] at hc
    subst hc
    exact ⟨none, 0, 0, [], rfl, rfl, Nat.zero_le _, ⟨rfl, .inl ⟨rfl, rfl⟩⟩, by simp⟩
  · simp only [List.cons.injEq, and_true] at hc
    subst hc
    simp only [if_true] at hz
    have hlen : (zs.take len).length = len := by rw [List.length_take]; omega
    refine ⟨some a, len, cap, zs.take len, rfl, hlen, by omega, ⟨by rw [intVs_length, Nat.mul_one], .inr ⟨a, cap, by rw [hlen], fun j u hj => ?_, oneCell_ints _⟩⟩, fun z hz' => i64_of_wf (hwf z (List.mem_of_mem_take hz'))⟩
    have hjl : j < len := by have := (List.getElem?_eq_some_iff.1 hj).1; rw [intVs_length, hlen] at this; exact this
    have := hcell j (by omega)
    rw [this]
    unfold intVs at hj
    rw [List.getElem?_map, List.getElem?_take_of_lt hjl, List.getElem?_eq_getElem (by omega)] at hj
    rw [List.getD_eq_getElem?_getD, List.getElem?_eq_getElem (by omega)]
    exact hj

set_option maxRecDepth 100000 in
theorem op_cells {cs : List Value} {y : DataW H × List MemPlace} (h : DataW.trod enc Tryd.prog W 0 (fun _ => true) true fuel 34 cs = some y) :
    ∃ (x : Op1) (vk : Value), cs = [.int .i64 x.K, .string (bs x.S), .int .i64 x.N, vk] ∧ SrcIs W 1 vk x.Keep.length (intVs x.Keep) ∧ x.Ok := by
  obtain ⟨xs, n, _, _, hl, hlen, hf⟩ := DataW.trod_struct Tryd.underlying34 h
  rw [cellsO] at hl
  match cs, hl, xs, hlen with
  | [c0, c1, c2, c3], _, [y0, y1, y2, y3], _ =>
    have t0 : DataW.trod enc Tryd.prog W 0 (fun _ => true) true n 3 [c0] = some y0 := by simpa [cellsI] using hf 0 _ rfl
    have t1 : DataW.trod enc Tryd.prog W 0 (fun _ => true) true n 9 [c1] = some y1 := by simpa [cellsStr] using hf 1 _ rfl
    have t2 : DataW.trod enc Tryd.prog W 0 (fun _ => true) true n 3 [c2] = some y2 := by simpa [cellsI] using hf 2 _ rfl
    have t3 : DataW.trod enc Tryd.prog W 0 (fun _ => true) true n 23 [c3] = some y3 := by simpa [cellsLI] using hf 3 _ rfl
    obtain ⟨K, hK, _, wK⟩ := DataW.trod_int Tryd.underlying3 t0
    obtain ⟨S, hS, _, _⟩ := DataW.trod_string Tryd.underlying9 t1
    obtain ⟨N, hN, _, wN⟩ := DataW.trod_int Tryd.underlying3 t2
    obtain ⟨_, _, _, ks, _, _, _, hs, hk⟩ := ints_of t3
    simp only [List.cons.injEq, and_true] at hK hN hS
    subst hK; subst hN; subst hS
    exact ⟨⟨K, S.data.toList, N, ks⟩, c3, by rw [bs_of], hs, ⟨i64_of_wf wK, i64_of_wf wN, hk⟩⟩

set_option maxRecDepth 100000 in
theorem ops_of {c : Value} {y : DataW H × List MemPlace} (h : DataW.trod enc Tryd.prog W 0 (fun _ => true) true fuel 22 [c] = some y) :
    ∃ a n cap xs, c = .slice a n cap ∧ xs.length = n ∧ n ≤ maxLen ∧ OArgs W a xs := by
  rcases Go.Deep.open_slice Tryd.underlying22 h with ⟨hc, _⟩ | ⟨a, len, cap, m, n, D, Pl, hc, _, hl, hmx, hm, _, hx⟩
  · simp only [List.cons.injEq, and_true] at hc
    subst hc
    exact ⟨none, 0, 0, [], rfl, rfl, Nat.zero_le _, .inl rfl, by simp⟩
  · simp only [List.cons.injEq, and_true] at hc
    subst hc
    simp only [if_true] at hm
    subst hm
    have each : ∀ i : Nat, ∃ x : Op1, i < len → ∃ vk, SrcIs W 1 vk x.Keep.length (intVs x.Keep) ∧ x.Ok ∧ ∀ j, j < 4 → W.cell? (a.add (i * 4 + j)) = #[Value.int .i64 x.K, .string (bs x.S), .int .i64 x.N, vk][j]? := by
      intro i
      by_cases hi : i < len
      · obtain ⟨cs', h1, h2⟩ := hx i (by omega)
        rw [cellsO] at h1
        obtain ⟨_, _, hcell⟩ := World.cells?_some h1
        obtain ⟨x, vk, hc, hs, ho⟩ := op_cells h2
        refine ⟨x, fun _ => ⟨vk, hs, ho, fun j hj => ?_⟩⟩
        have := hcell j hj
        rw [Go.Deep.add_add] at this
        rw [this, hc]
        simp
      · exact ⟨⟨0, [], 0, []⟩, fun h => absurd h hi⟩
    obtain ⟨f, hf⟩ := Classical.axiomOfChoice each
    have hlen : ((List.range len).map f).length = len := by simp
    refine ⟨some a, len, m, (List.range len).map f, rfl, hlen, by omega, ?_, fun x hx' => ?_⟩
    · rcases Nat.eq_zero_or_pos len with h0 | h0
      · left; rw [h0]; rfl
      · right
        obtain ⟨b, off, spot⟩ := a
        obtain ⟨_, _, _, hc0⟩ := hf 0 h0
        have c0 := (hc0 0 (by omega)).trans (show _ = some _ from rfl)
        have hs : spot = none := by simpa [Addr.add] using World.cell?_spot c0
        subst hs
        refine ⟨b, off, rfl, fun i x hi => ?_⟩
        obtain ⟨hi', rfl⟩ := List.getElem?_eq_some_iff.1 hi
        rw [hlen] at hi'
        simp only [List.getElem_map, List.getElem_range]
        obtain ⟨vk, hs, ho, hc⟩ := hf i hi'
        simp only [Lib.add_plain] at hc
        exact ⟨vk, ⟨hc 0 (by omega), hc 1 (by omega), hc 2 (by omega), hc 3 (by omega)⟩, hs⟩
    · obtain ⟨i, hi, rfl⟩ := List.mem_map.1 hx'
      obtain ⟨_, _, ho, _⟩ := hf i (List.mem_range.1 hi)
      exact ho

set_option maxRecDepth 100000 in
theorem ops_open {base : Nat} {v : Value} {d : DataW H} {p : List MemPlace} (hv : Value.okWide Tryd.prog W .any base 22 v) (h : DataW.Trod enc Tryd.prog W 0 (fun _ => true) true 22 v d p) :
    ∃ a n cap xs, v = .slice a n cap ∧ xs.length = n ∧ n ≤ maxLen ∧ OArgs W a xs := by
  obtain ⟨a, len, cap, rfl⟩ := okWide_slice Tryd.underlying22 hv
  obtain ⟨fuel, hf⟩ := h
  exact ops_of hf
set_option maxRecDepth 100000 in
theorem nums_open {base : Nat} {v : Value} {d : DataW H} {p : List MemPlace} (hv : Value.okWide Tryd.prog W .any base 23 v) (h : DataW.Trod enc Tryd.prog W 0 (fun _ => true) true 23 v d p) :
    ∃ a n cap ks, v = .slice a n cap ∧ ks.length = n ∧ n ≤ maxLen ∧ Nums W W v ks := by
  obtain ⟨a, len, cap, rfl⟩ := okWide_slice Tryd.underlying23 hv
  obtain ⟨fuel, hf⟩ := h
  obtain ⟨a', n, cap', ks, hc, h1, h2, h3, h4⟩ := ints_of hf
  exact ⟨a', n, cap', ks, hc, h1, h2, nums_src h3 h4⟩
theorem texts_of {c : Value} {x : DataW H × List MemPlace} (h : DataW.trod enc Tryd.prog W 0 (fun _ => true) true fuel 32 [c] = some x) : ∃ ts, TextsAt W c ts ∧ ts.length ≤ maxLen := by
  rcases open_strings Tryd.underlying32 Tryd.underlying9 cellsStr h with ⟨hc, _⟩ | ⟨a, len, cap, zs, hc, _, hl, hm, hz, _, hcell, hwf⟩
  · simp only [List.cons.injEq, and_true] at hc
    subst hc
    exact ⟨[], ⟨none, 0, rfl, .inl rfl⟩, Nat.zero_le _⟩
  · simp only [List.cons.injEq, and_true] at hc
    subst hc
    simp only [if_true] at hz
    have hlen : ((zs.take len).map (fun s => s.data.toList)).length = len := by rw [List.length_map, List.length_take]; omega
    refine ⟨(zs.take len).map (fun s => s.data.toList), ⟨some a, cap, by rw [hlen], ?_⟩, by rw [hlen]; omega⟩
    rcases Nat.eq_zero_or_pos len with h0 | h0
    · left; rw [h0]; rfl
    · right
      obtain ⟨b, off, spot⟩ := a
      have c0 := hcell 0 (by omega)
      have hs : spot = none := by simpa [Addr.add] using World.cell?_spot c0
      subst hs
      refine ⟨b, off, rfl, Lib.lt_of_cell c0, fun k hk => ?_⟩
      rw [hlen] at hk
      have := hcell k (by omega)
      rw [Lib.add_plain] at this
      have hk' : k < zs.length := by omega
      rw [this, List.getD_eq_getElem?_getD, List.getD_eq_getElem?_getD, List.getElem?_map, List.getElem?_take_of_lt hk, List.getElem?_eq_getElem hk']
      exact congrArg (fun s => some (Value.string s)) (bs_of zs[k]).symm

set_option maxRecDepth 100000 in
theorem texts_open {base : Nat} {v : Value} {d : DataW H} {p : List MemPlace} (hv : Value.okWide Tryd.prog W .any base 32 v) (h : DataW.Trod enc Tryd.prog W 0 (fun _ => true) true 32 v d p) :
    ∃ ts, TextsAt W v ts ∧ ts.length ≤ maxLen := by
  obtain ⟨a, len, cap, rfl⟩ := okWide_slice Tryd.underlying32 hv
  obtain ⟨fuel, hf⟩ := h
  exact texts_of hf
end
theorem rdOs : Tryd.prog.readableRec 22 = true := by kernel_rfl
theorem rdIs : Tryd.prog.readableRec 23 = true := by kernel_rfl
theorem rdTs : Tryd.prog.readableRec 32 = true := by kernel_rfl
theorem rowOs : 22 < Tryd.prog.types.size := by decide +kernel
theorem rowIs : 23 < Tryd.prog.types.size := by decide +kernel
theorem rowTs : 32 < Tryd.prog.types.size := by decide +kernel
end Go.Proofs.YtjbcgahdiolhhaaDoor.D2
namespace Go.Proofs.YtjbcgahdiolhhaaDoor.D2
open Go
section
variable {P : Program} {ops : Array Oper} {Q : Exit → Act → World → Prop} {md : Region.Mode} {S : World → Prop} {c : Nat}
/-- What is listed has what it waits for listed. -/
def Shut (md : Region.Mode) (ops : Array Oper) (t : Array Bool) : Prop := ∀ j oj, ops[j]? = some oj → t.getD j false = true → ∀ e ∈ oj.after, Region.binds md e = true → t.getD e.on false = true
theorem shut_set {t : Array Bool} {j : Nat} (h : Shut md ops t) (hj : j ∈ Region.ready md ops t) : Shut md ops (t.setIfInBounds j true) := by
  obtain ⟨_, oj, hoj, hall⟩ := mem_ready.1 hj
  intro k ok hk hl e he hb
  by_cases hjk : j = k
  · subst hjk
    rw [hoj] at hk; cases hk
    exact getD_set_true (hall e he hb)
  · rw [getD_set_ne false hjk] at hl
    exact getD_set_true (h k ok hk hl e he hb)
/-- c waits for i, or for what waits for i, .. -/
def needsB (md : Region.Mode) (ops : Array Oper) : Nat → Nat → Nat → Bool
  | 0, _, _ => false
  | f + 1, c, i => Region.waitsFor md ops c i || (List.range ops.size).any fun k => Region.waitsFor md ops c k && needsB md ops f k i
theorem needs_listed {t : Array Bool} {i : Nat} (h : Shut md ops t) : ∀ (f c : Nat), needsB md ops f c i = true → (∀ oc, ops[c]? = some oc → ∀ e ∈ oc.after, Region.binds md e = true → t.getD e.on false = true) → t.getD i false = true
  | 0, _, hn, _ => by simp [needsB] at hn
  | f + 1, c, hn, hc => by
    simp only [needsB, Bool.or_eq_true, List.any_eq_true, Bool.and_eq_true] at hn
    rcases hn with hn | ⟨k, _, hk, hn⟩
    · obtain ⟨oc, hoc, e, he, hb, hon⟩ := Region.waitsFor_spec hn
      rw [← hon]; exact hc oc hoc e he hb
    · obtain ⟨oc, hoc, e, he, hb, hon⟩ := Region.waitsFor_spec hk
      have hkl : t.getD k false = true := by rw [← hon]; exact hc oc hoc e he hb
      exact needs_listed h f k hn (fun ok hok e he hb => h k ok hok hkl e he hb)
/-- Whatever order is picked, and S holds behind each operation as long as c has not come up. -/
def anyTill (P : Program) (md : Region.Mode) (ops : Array Oper) (Q : Exit → Act → World → Prop) (c : Nat) (S : World → Prop) : Nat → Array Bool → Act → World → Prop
  | 0, t, a, w => Region.ready md ops t = [] ∧ Q .normal a w
  | n + 1, t, a, w => (Region.ready md ops t = [] → Q .normal a w) ∧
    ∀ i ∈ Region.ready md ops t, wpOp P ops Q i (fun a' w' => ((t.setIfInBounds i true).getD c false = false → S w') ∧ anyTill P md ops Q c S n (t.setIfInBounds i true) a' w') a w
theorem any_of_till : ∀ (n : Nat) (t : Array Bool) (a : Act) (w : World), anyTill P md ops Q c S n t a w → wpAny P md ops Q n t a w
  | 0, _, _, _, h => h
  | n + 1, _, _, _, h => ⟨h.1, fun i hi => wpOp_mono (fun a' w' h' => any_of_till n _ a' w' h'.2) (h.2 i hi)⟩
theorem till_first {i f : Nat} {b : Bool} {oi : Oper} {v : Value} (hi : ops[i]? = some oi) (hsel : Region.noSelect ops = true) (hb : b = true → needsB md ops f c i = true) (hic : i ≠ c)
    (hQ : ∀ p a w, Q (.panic p) (a.put oi.dst v) w → Q (.panic p) a w) :
    ∀ (n : Nat) (t : Array Bool) (a : Act) (w : World), Shut md ops t →
      (∀ j oj, ops[j]? = some oj → j ≠ i → t.getD j true = false → (∀ e ∈ oj.after, Region.binds md e = true → e.on ≠ i) → oi.apart ops oj = true) →
      i ∈ Region.ready md ops t → YieldsIf P ops (fun w => b = true → S w) oi v a → (t.getD c false = false → S w) →
      anyTill P md ops Q c S n (t.setIfInBounds i true) (a.put oi.dst v) w → anyTill P md ops Q c S (n + 1) t a w := by
  have key : ∀ {t : Array Bool} {w : World}, Shut md ops t → i ∈ Region.ready md ops t → (t.getD c false = false → S w) → b = true → S w := by
    intro t w hs hr hS hbt
    apply hS
    cases hcl : t.getD c false with
    | false => rfl
    | true =>
      have := needs_listed hs f c (hb hbt) (fun oc hoc e he hb => hs c oc hoc hcl e he hb)
      rw [getD_both (mem_ready.1 hr).1] at this
      cases this
  intro n
  induction n with
  | zero =>
    intro t a w hs _ hr hy hS H
    refine ⟨fun h => (by rw [h] at hr; cases hr), fun j hj => ?_⟩
    by_cases hji : j = i
    · subst hji; exact hy.wpOp hi (key hs hr hS) ⟨fun hc => hS (by rw [getD_set_ne false hic] at hc; exact hc), H⟩
    · have := ready_mono hj hji
      rw [H.1] at this
      cases this
  | succ n ih =>
    intro t a w hs hfree hr hy hS H
    refine ⟨fun h => (by rw [h] at hr; cases hr), fun j hj => ?_⟩
    by_cases hji : j = i
    · subst hji; exact hy.wpOp hi (key hs hr hS) ⟨fun hc => hS (by rw [getD_set_ne false hic] at hc; exact hc), H⟩
    · have h1 := H.2 j (ready_mono hj hji)
      obtain ⟨hjun, oj, hoj, hall⟩ := mem_ready.1 hj
      have hnot : ∀ e ∈ oj.after, Region.binds md e = true → e.on ≠ i := fun e he hb heq => by
        have h1 := hall e he hb
        rw [heq, getD_both (mem_ready.1 hr).1] at h1
        cases h1
      have h2 := wpOp_putIf hoj (hfree j oj hoj hji hjun hnot) (fun cs b => Region.noSelect_spec hsel i oi cs b hi) (fun cs b => Region.noSelect_spec hsel j oj cs b hoj) hQ hy h1
      have hfree' : ∀ k ok, ops[k]? = some ok → k ≠ i → (t.setIfInBounds j true).getD k true = false → (∀ e ∈ ok.after, Region.binds md e = true → e.on ≠ i) → oi.apart ops ok = true := fun k ok hk hki hun hno => by
        refine hfree k ok hk hki ?_ hno
        by_cases hjk : j = k
        · subst hjk; exact hjun
        · rw [getD_set_ne true hjk] at hun; exact hun
      refine wpOp_mono (fun a' w' h3 => ?_) h2
      have hS' : (t.setIfInBounds j true).getD c false = false → S w' := fun hc => h3.2.1 (by
        rw [← Array.setIfInBounds_comm _ _ hji, getD_set_ne false hic]; exact hc)
      refine ⟨hS', ih _ a' w' (shut_set hs hj) hfree' (ready_mono hr (Ne.symm hji)) h3.1 hS' ?_⟩
      rw [Array.setIfInBounds_comm _ _ hji]
      exact h3.2.2
/-- A walk's state: what is shut goes on being so. -/
def Till (P : Program) (md : Region.Mode) (ops : Array Oper) (Q : Exit → Act → World → Prop) (c : Nat) (S : World → Prop) (n : Nat) (t : Array Bool) (a : Act) (w : World) : Prop := Shut md ops t → anyTill P md ops Q c S n t a w
/-- No tactic looks into it. -/
def HeldK (p : Prop) : Prop := p
theorem HeldK.out {p : Prop} (h : HeldK p) : p := h
def dstOf (ops : Array Oper) (i : Nat) : Option Tmp := (ops[i]?).bind (·.dst)
/-- Take number i: a load (b = true: in every world of S), or what yields in whatever world (b = false). -/
theorem till_take (i f : Nat) (b : Bool) {v : Value} {n : Nat} {t : Array Bool} {a : Act} {w : World} (hsel : Region.noSelect ops = true) (hb : (!b || needsB md ops f c i) = true) (hic : (i == c) = false)
    (hf : Region.free md ops t i = true) (hr : (Region.ready md ops t).contains i = true) (hQ : ∀ p a w, Q (.panic p) (a.put (dstOf ops i) v) w → Q (.panic p) a w)
    (hw : (ops[i]?).elim False fun oi => Region.wanted oi (yielded ops a.tmps) = true) (hS : S w)
    (hy : (ops[i]?).elim False fun oi => ∀ w, (b = true → S w) → (execOp a.eval oi).run P w = .ok (.value v) w)
    (h : Till P md ops Q c S n (t.setIfInBounds i true) (a.put (dstOf ops i) v) w) : Till P md ops Q c S (n + 1) t a w := by
  intro hs
  cases hi : ops[i]? with
  | none => rw [hi] at hw; exact hw.elim
  | some oi =>
    rw [hi] at hw hy
    simp only [Option.elim] at hw hy
    have hr' : i ∈ Region.ready md ops t := by simpa using hr
    have hd : dstOf ops i = oi.dst := by unfold dstOf; rw [hi]; rfl
    rw [hd] at h hQ
    refine till_first (b := b) (f := f) hi hsel (fun hbt => by rw [hbt] at hb; simpa using hb) (by simpa using hic) hQ n t a w hs (Region.free_spec hi hf) hr' (.inl ⟨hw, hy⟩) (fun _ => hS) (h (shut_set hs hr'))
/-- One alone may come up: what follows is held back ('K'). -/
theorem till_step (i : Nat) {n : Nat} {t : Array Bool} {a : Act} {w : World} (hr : Region.ready md ops t = [i]) (hg : (t.setIfInBounds i true).getD c false = true)
    (h : ∀ K : Act → World → Prop, HeldK (∀ a' w', Till P md ops Q c S n (t.setIfInBounds i true) a' w' → K a' w') →
      (ops[i]?).elim False fun o => if Region.wanted o (yielded ops a.tmps) = true then Oper.wp P o a w K Q else K (a.put o.dst undef) w) : Till P md ops Q c S (n + 1) t a w := by
  intro hs
  refine ⟨fun h0 => (by rw [hr] at h0; cases h0), fun j hj => ?_⟩
  have hj' : j ∈ Region.ready md ops t := hj
  rw [hr] at hj
  have hji : j = i := by simpa using hj
  subst hji
  have h1 := h _ (fun a' w' h2 => (⟨fun h0 => (by rw [hg] at h0; cases h0), h2 (shut_set hs hj')⟩ : ((t.setIfInBounds j true).getD c false = false → S w') ∧ anyTill P md ops Q c S n (t.setIfInBounds j true) a' w'))
  unfold wpOp
  cases ho : ops[j]? with
  | none => rw [ho] at h1; exact h1.elim
  | some o =>
    rw [ho] at h1
    simp only [Option.elim] at h1 ⊢
    split
    · rename_i hw; rw [if_pos hw] at h1; exact .inl h1
    · rename_i hw; rw [if_neg hw] at h1; exact h1
theorem till_end {t : Array Bool} {a : Act} {w : World} (hr : Region.ready md ops t = []) (h : Q .normal a w) : ∀ n, Till P md ops Q c S n t a w
  | 0 => fun _ => ⟨hr, h⟩
  | _ + 1 => fun _ => ⟨fun _ => h, by rw [hr]; simp⟩
theorem region_till {id : Nat} {a : Act} {w : World} (c : Nat) (S : World → Prop) (hm : P.follows .mixedOrders = true)
    (h : Till P .any ops Q c S ops.size (Array.replicate ops.size false) a { w with drawn := w.drawn + 1 }) : (Code.region id ops true).wp P Q a w :=
  wp_region_any hm (any_of_till _ _ _ _ (h (fun j oj hj hl => by rw [getD_replicate_false] at hl; cases hl)))
end
end Go.Proofs.YtjbcgahdiolhhaaDoor.D2
namespace Go.Proofs.YtjbcgahdiolhhaaDoor.D2
open Go
section
variable {P : Program} {ops : Array Oper} {Q : Exit → Act → World → Prop} {md : Region.Mode} {S : World → Prop} {c : Nat}
/-- Take number i, which yields in whatever world, once c has come up. -/
theorem till_late (i : Nat) {v : Value} {n : Nat} {t : Array Bool} {a : Act} {w : World} (hsel : Region.noSelect ops = true) (hic : (i == c) = false)
    (hf : Region.free md ops t i = true) (hr : (Region.ready md ops t).contains i = true) (hQ : ∀ p a w, Q (.panic p) (a.put (dstOf ops i) v) w → Q (.panic p) a w) (hct : t.getD c false = true)
    (hw : (ops[i]?).elim False fun oi => Region.wanted oi (yielded ops a.tmps) = true)
    (hy : (ops[i]?).elim False fun oi => ∀ w, (execOp a.eval oi).run P w = .ok (.value v) w)
    (h : Till P md ops Q c S n (t.setIfInBounds i true) (a.put (dstOf ops i) v) w) : Till P md ops Q c S (n + 1) t a w := by
  intro hs
  cases hi : ops[i]? with
  | none => rw [hi] at hw; exact hw.elim
  | some oi =>
    rw [hi] at hw hy
    simp only [Option.elim] at hw hy
    have hr' : i ∈ Region.ready md ops t := by simpa using hr
    have hd : dstOf ops i = oi.dst := by unfold dstOf; rw [hi]; rfl
    rw [hd] at h hQ
    refine till_first (b := false) (f := 0) hi hsel (fun hbt => by cases hbt) (by simpa using hic) hQ n t a w hs (Region.free_spec hi hf) hr' (.inl ⟨hw, fun w _ => hy w⟩) (fun h0 => by rw [hct] at h0; cases h0) (h (shut_set hs hr'))
/-- One alone may come up, before c: S is shown anew. -/
theorem till_before (i : Nat) {n : Nat} {t : Array Bool} {a : Act} {w : World} (hr : Region.ready md ops t = [i])
    (h : ∀ K : Act → World → Prop, HeldK (∀ a' w', S w' → Till P md ops Q c S n (t.setIfInBounds i true) a' w' → K a' w') →
      (ops[i]?).elim False fun o => if Region.wanted o (yielded ops a.tmps) = true then Oper.wp P o a w K Q else K (a.put o.dst undef) w) : Till P md ops Q c S (n + 1) t a w := by
  intro hs
  refine ⟨fun h0 => (by rw [hr] at h0; cases h0), fun j hj => ?_⟩
  have hj' : j ∈ Region.ready md ops t := hj
  rw [hr] at hj
  have hji : j = i := by simpa using hj
  subst hji
  have h1 := h _ (fun a' w' hS h2 => (⟨fun _ => hS, h2 (shut_set hs hj')⟩ : ((t.setIfInBounds j true).getD c false = false → S w') ∧ anyTill P md ops Q c S n (t.setIfInBounds j true) a' w'))
  unfold wpOp
  cases ho : ops[j]? with
  | none => rw [ho] at h1; exact h1.elim
  | some o =>
    rw [ho] at h1
    simp only [Option.elim] at h1 ⊢
    split
    · rename_i hw; rw [if_pos hw] at h1; exact .inl h1
    · rename_i hw; rw [if_neg hw] at h1; exact h1
end
end Go.Proofs.YtjbcgahdiolhhaaDoor.D2
namespace Go.Proofs.YtjbcgahdiolhhaaDoor.D2
open Go
section
variable {P : Program} {ops : Array Oper} {Q : Exit → Act → World → Prop} {md : Region.Mode} {S : World → Prop} {c : Nat}
/-- Two may come up, before c: S is shown anew behind each. -/
theorem till_split (i j : Nat) {n : Nat} {t : Array Bool} {a : Act} {w : World} (hr : Region.ready md ops t = [i, j])
    (h1 : ∀ K : Act → World → Prop, HeldK (∀ a' w', S w' → Till P md ops Q c S n (t.setIfInBounds i true) a' w' → K a' w') →
      (ops[i]?).elim False fun o => if Region.wanted o (yielded ops a.tmps) = true then Oper.wp P o a w K Q else K (a.put o.dst undef) w)
    (h2 : ∀ K : Act → World → Prop, HeldK (∀ a' w', S w' → Till P md ops Q c S n (t.setIfInBounds j true) a' w' → K a' w') →
      (ops[j]?).elim False fun o => if Region.wanted o (yielded ops a.tmps) = true then Oper.wp P o a w K Q else K (a.put o.dst undef) w) : Till P md ops Q c S (n + 1) t a w := by
  intro hs
  refine ⟨fun h0 => (by rw [hr] at h0; cases h0), fun k hk => ?_⟩
  have hk' : k ∈ Region.ready md ops t := hk
  have key : (∀ K : Act → World → Prop, HeldK (∀ a' w', S w' → Till P md ops Q c S n (t.setIfInBounds k true) a' w' → K a' w') →
      (ops[k]?).elim False fun o => if Region.wanted o (yielded ops a.tmps) = true then Oper.wp P o a w K Q else K (a.put o.dst undef) w) := by
    rw [hr] at hk
    rcases List.mem_cons.1 hk with rfl | hk
    · exact h1
    · obtain rfl := List.mem_singleton.1 hk
      exact h2
  have h3 := key _ (fun a' w' hS h4 => (⟨fun _ => hS, h4 (shut_set hs hk')⟩ : ((t.setIfInBounds k true).getD c false = false → S w') ∧ anyTill P md ops Q c S n (t.setIfInBounds k true) a' w'))
  unfold wpOp
  cases ho : ops[k]? with
  | none => rw [ho] at h3; exact h3.elim
  | some o =>
    rw [ho] at h3
    simp only [Option.elim] at h3 ⊢
    split
    · rename_i hw; rw [if_pos hw] at h3; exact .inl h3
    · rename_i hw; rw [if_neg hw] at h3; exact h3
end
end Go.Proofs.YtjbcgahdiolhhaaDoor.D2
