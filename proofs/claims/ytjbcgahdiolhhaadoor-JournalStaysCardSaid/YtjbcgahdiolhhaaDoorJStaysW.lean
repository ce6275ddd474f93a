/- JournalStays, walked. -/
import Derived.Test.YtjbcgahdiolhhaaDoorJStaysP
namespace Go.Proofs.YtjbcgahdiolhhaaDoor.D2
open Go.RowKit Go.Maps Go.ChangeMaps Go.MapKept
open Dp Jp
attribute [local go_sem ↓] Go.wp_at_zero Go.wp_at_succ

/-- Where a journal is, if there is one. -/
inductive JAt : Option (Nat × Jn) → Value → Prop
  | no : JAt none (.pointer none)
  | yes (b : Nat) (J : Jn) : JAt (some (b, J)) (.pointer (some ⟨b, 0, none⟩))
def jobs (d : Nat) (D : Dk) : Option (Nat × Jn) → List Ob
  | none => [.disk d D]
  | some (b, J) => [.disk d D, .jour b d J]
theorem jobs_take {w0 w : World} {d : Nat} {D : Dk} {jx : Option (Nat × Jn)} (h : OMem w0 w (jobs d D jx)) : OMem w0 w [.disk d D] := by
  cases jx with
  | none => exact h
  | some p => exact h.take 1
theorem jobs_get {d : Nat} {D : Dk} {jx : Option (Nat × Jn)} : (jobs d D jx)[0]? = some (.disk d D) := by cases jx <;> rfl
theorem jobs_set {d : Nat} {D D' : Dk} {jx : Option (Nat × Jn)} : (jobs d D jx).set 0 (.disk d D') = jobs d D' jx := by cases jx <;> rfl
structure StaX (n : Nat) (D : Dk) (jx : Option (Nat × Jn)) : Prop where
  disk : Sta n D
  jour : ∀ b J, jx = some (b, J) → StaJ n D J
theorem StaX.mono {n m : Nat} {D : Dk} {jx : Option (Nat × Jn)} (h : StaX n D jx) (hm : n ≤ m) : StaX m D jx := ⟨h.disk.mono hm, fun b J e => (h.jour b J e).mono hm⟩
theorem few_at {w0 w : World} {a : Option Addr} {xs : List Op1} (h : OArgs w0 a xs) (hl : xs.length ≤ 9223372036854775807) (cap : Nat) (hb : Below w0.heap.size w0 w) {r : Bool} (hr : fewO xs = r) :
    Calls Tryd.prog 8 #[.slice a xs.length cap] w fun e w' => e = .returned (.bool r) ∧ w = w' := by
  rw [← hr]; exact fewO_any a cap xs w hl (h.at_.keep hb)
/-- The strings that came in. -/
structure TArgs (w0 : World) (a : Option Addr) (ts : List (List UInt8)) : Prop where
  at_ : ∀ k x, ts[k]? = some x → ∃ b off, a = some ⟨b, off, none⟩ ∧ w0.cell? ⟨b, off + k, none⟩ = some (.string (bs x))
theorem TArgs.of {w0 : World} {a : Option Addr} {n cap : Nat} {ts : List (List UInt8)} (h : TextsAt w0 (.slice a n cap) ts) : TArgs w0 a ts := by
  obtain ⟨a', c', h1, h2⟩ := texts_at h
  simp only [Value.slice.injEq] at h1
  obtain ⟨rfl, _, _⟩ := h1
  exact ⟨h2⟩
theorem TArgs.get {w0 w : World} {a : Option Addr} {ts : List (List UInt8)} (h : TArgs w0 a ts) (hb : Below w0.heap.size w0 w) {k : Nat} {x : List UInt8} (hx : ts[k]? = some x) : ∃ b off, a = some ⟨b, off, none⟩ ∧ w.cell? ⟨b, off + k, none⟩ = some (.string (bs x)) := by
  obtain ⟨b, off, h1, h2⟩ := h.at_ k x hx
  exact ⟨b, off, h1, below_cell h2 hb⟩
theorem fewT_at {w0 w : World} {v : Value} {ts : List (List UInt8)} (h : TextsAt w0 v ts) (hl : ts.length ≤ 9223372036854775807) (hb : Below w0.heap.size w0 w) {r : Bool} (hr : fewT ts = r) :
    Calls Tryd.prog 21 #[v] w fun e w' => e = .returned (.bool r) ∧ w = w' := by
  rw [← hr]; exact fewT_any v ts w hl (texts_fresh h hb)

theorem same_one {w : World} {v v' : Value} {l : List (List UInt8)} (hm : l.length ≤ 1099511627776) (h : TextsAt w v l) (h' : TextsAt w v' l) :
    Calls Tryd.prog 16 #[v, v'] w fun e w' => e = .returned (.bool true) ∧ Below w.heap.size w w' := by
  have := sameTexts_any v v' l l hm w h h'
  rwa [decide_eq_true rfl] at this
theorem take3 {os : List Ob} {x y z : Ob} (h : os.take 3 = [x, y, z]) : os[0]? = some x ∧ os[2]? = some z ∧ ∀ q, (os ++ [q]).take 3 = [x, y, z] := by
  have h0 : (os.take 3)[0]? = some x := by rw [h]; rfl
  have h2 : (os.take 3)[2]? = some z := by rw [h]; rfl
  rw [List.getElem?_take_of_lt (by omega)] at h0 h2
  have hl : 3 ≤ os.length := by have := (List.getElem?_eq_some_iff.1 h2).1; omega
  exact ⟨h0, h2, fun q => by rw [List.take_append_of_le_length hl]; exact h⟩

section
variable {w : World} {a a1 a2 a3 : Option Addr} {xs : List Op1} {ts : List (List UInt8)} {ks us : List Int}
set_option maxHeartbeats 2000000 in
set_option maxRecDepth 100000 in
theorem jstays_out (cap cap1 c2 c3 : Nat) (ho : OArgs w a xs) (hl : xs.length ≤ 9223372036854775807) (ht : TextsAt w (.slice a1 ts.length cap1) ts) (hlt : ts.length ≤ 9223372036854775807) (hk : ks.length ≤ 9223372036854775807) (hu : us.length ≤ 9223372036854775807)
    (hb : fewO xs = false ∨ fewT ts = false ∨ 50 < ks.length ∨ 50 < us.length) (he : Env w) :
    Calls Tryd.prog 4 #[.slice a xs.length cap, .slice a1 ts.length cap1, .slice a2 ks.length c2, .slice a3 us.length c3] w fun e w' => e = .returned (.bool true) ∧ Below w.heap.size w w' := by
  have HO := Lib.hid ho
  have HT := Lib.hid ht
  obtain ⟨r, hr⟩ : ∃ r, fewO xs = r := ⟨_, rfl⟩
  obtain ⟨q, hq⟩ : ∃ q, fewT ts = q := ⟨_, rfl⟩
  rw [hr, hq] at hb
  have HR := Lib.hid hr
  have HQ := Lib.hid hq
  clear ho ht hr hq
  have hb : r = false ∨ (r = true ∧ q = false) ∨ (r = true ∧ q = true ∧ 50 < ks.length) ∨ (r = true ∧ q = true ∧ ¬ 50 < ks.length ∧ 50 < us.length) := by
    by_cases h50 : 50 < ks.length <;> cases r <;> cases q <;> simp_all
  rcases hb with h | ⟨h, h2⟩ | ⟨h, h2, h3⟩ | ⟨h, h2, h3, h4⟩
  all_goals
    subst h
    try subst h2
    go_enter Tryd.func4, Tryd.ntmps4
    go_wp2_with (go_at_call 7; refine (small_any _ he).mono ?_; rintro e w1 ⟨rfl, b1⟩; refine Hid.out ?_)
    refine Lib.hid ?_
    have B1 := Lib.hid b1
    have F1 := Lib.hid (few_at HO.out hl cap b1 HR.out)
    have F2 := Lib.hid (fewT_at HT.out hlt b1 HQ.out)
    clear b1
    go_wp2_with (first | (go_at_call 8; refine F1.out.mono ?_; rintro e w2 ⟨rfl, rfl⟩) | (go_at_call 21; refine F2.out.mono ?_; rintro e w2 ⟨rfl, rfl⟩))
    go_ret
    exact ⟨rfl, B1.out⟩

set_option maxHeartbeats 16000000 in
set_option maxRecDepth 100000 in
theorem jstays_main (cap cap1 c2 c3 : Nat) (ho : OArgs w a xs) (hfx : fewO xs = true) (ht : TextsAt w (.slice a1 ts.length cap1) ts) (hft : fewT ts = true) (hk : Nums w w (.slice a2 ks.length c2) ks) (hkl : ks.length ≤ 50) (hu : Nums w w (.slice a3 us.length c3) us) (hul : us.length ≤ 50) (he : Env w) :
    Calls Tryd.prog 4 #[.slice a xs.length cap, .slice a1 ts.length cap1, .slice a2 ks.length c2, .slice a3 us.length c3] w fun e w' => e = .returned (.bool true) ∧ Below w.heap.size w w' := by
  obtain ⟨i0, hi, hz0, hz1, hz2⟩ := info_parts string_info
  have HFX := Lib.hid (fewO_true hfx)
  have HFT := Lib.hid (fewT_true hft)
  have hl25 := HFX.out.1
  have ht8 := HFT.out.1
  have HR := Lib.hid hfx
  have HQ := Lib.hid hft
  have HO := Lib.hid ho
  have HT := Lib.hid ht
  have HK := Lib.hid hk
  have HU := Lib.hid hu
  have HKL := Lib.hid hkl
  have HUL := Lib.hid hul
  have HGT := Lib.hid (TArgs.of ht)
  have SE := Lib.hid (Sta.opened sta_new)
  clear hfx hft ho ht hk hu
  obtain ⟨D1, p1, q1, g1, s1, _⟩ := open_quiet good_new quiet_new (f := 0) (by decide)
  have e1 : recs (new.now 0) = [] := rfl
  rw [e1] at p1 s1
  have P1 : Hid (jopen new 0 = (some [], 0, D1)) := Lib.hid p1
  have hs0 : StaX (270 * 0) D1 (some (0, ⟨0, [], false⟩)) := ⟨⟨g1, q1.up, q1.calls, by rw [s1.now]; decide⟩, fun b J e => by cases e; exact ⟨rfl, by decide, by simp, fun _ => s1.now⟩⟩
  have HS0 := Lib.hid hs0
  clear p1 q1 g1 s1 e1 hs0
  go_enter Tryd.func4, Tryd.ntmps4
  go_wp2_with (go_at_call 7; refine (small_any _ he).mono ?_; rintro e w1 ⟨rfl, b1⟩; refine Hid.out ?_)
  refine Lib.hid ?_
  have F1 := Lib.hid (few_at HO.out (by omega) cap b1 HR.out)
  have F2 := Lib.hid (fewT_at HT.out (by omega) b1 HQ.out)
  have M0 := Lib.hid ((OMem.start w).fresh b1)
  clear b1
  go_wp2_with (first | (go_at_call 8; refine F1.out.mono ?_; rintro e w2 ⟨rfl, rfl⟩) | (go_at_call 21; refine F2.out.mono ?_; rintro e w2 ⟨rfl, rfl⟩) | (go_at_call 9; refine (o_new M0.out).mono ?_; rintro e w2 ⟨d, rfl, m⟩; refine Hid.out ?_))
  refine Lib.hid ?_
  have M1 := Lib.hid (show OMem w w2 [.disk d new] from m)
  clear m M0 F1 F2
  go_wp2_with (go_at_call 10; refine (o_open1 (i := 0) M1.out rfl 0 I64.zero he P1.out).mono ?_; rintro e w3 ⟨b, rfl, m⟩; refine Hid.out ?_)
  refine Lib.hid ?_
  have M2 := Lib.hid (show OMem w w3 (jobs d D1 (some (b, ⟨0, [], false⟩))) from m)
  have HS1 : Hid (StaX (270 * 0) D1 (some (b, ⟨0, [], false⟩))) := Lib.hid ⟨HS0.out.disk, fun b' J e => by cases e; exact HS0.out.jour 0 _ rfl⟩
  clear m M1 HS0
  go_wp2
  go_loopw [11, 13] (fun jv iv wr => ∃ (k : Nat) (jx : Option (Nat × Jn)) (D : Dk), k ≤ xs.length ∧ iv = .int .i64 (k : Int) ∧ Hid (JAt jx jv) ∧ Hid (StaX (270 * k) D jx) ∧ Hid (OMem w wr (jobs d D jx))) (fun _ iv _ => xs.length - (intOf iv).toNat)
  case atStart => exact ⟨0, _, _, Nat.zero_le _, rfl, Lib.hid (.yes b _), HS1, M2⟩
  case round =>
    clear HS1 M2 P1
    obtain ⟨k, jx, D, hk, rfl, HJ, HS, HM⟩ := hrel
    by_cases hlt : k < xs.length
    · obtain ⟨x, hx⟩ : ∃ x, xs[k]? = some x := ⟨_, List.getElem?_eq_getElem hlt⟩
      obtain ⟨bo, off, va, vc, rfl, hc, hn, hok⟩ := HO.out.get HM.out.below hx
      have hfx := HFX.out.2 x (List.mem_of_getElem? hx)
      obtain ⟨c0, c1, c2', c3'⟩ := hc
      have HN := Lib.hid hn
      have HOK := Lib.hid hok
      have HF1 := Lib.hid hfx
      clear hx hn hok hfx
      have hk1 : k + 1 ≤ xs.length := hlt
      by_cases k4 : x.K = 4
      · rw [k4] at c0
        have HSC := Lib.hid ((HS.out.disk).crash x.Keep)
        have M3 := Lib.hid (jobs_take HM.out)
        clear HM HS HJ
        go_wp2_with (go_at_call 18; refine (o_crash (i := 0) M3.out rfl _ x.Keep HN.out (by have := HF1.out.2; omega)).mono ?_; rintro e w4 ⟨rfl, m⟩; refine Hid.out ?_)
        refine Lib.hid ?_
        have M4 := Lib.hid (show OMem w w4 [.disk d (D.crash x.Keep)] from m)
        clear m M3
        go_wp2_with (go_at_call 19; refine (o_start (i := 0) M4.out rfl).mono ?_; rintro e w5 ⟨rfl, m⟩; refine Hid.out ?_)
        refine Lib.hid ?_
        have M5 := Lib.hid (show OMem w w5 [.disk d (D.crash x.Keep).start] from m)
        clear m M4
        rcases HSC.out.opened with ⟨n, D', p, s⟩ | ⟨l, D', p, s, sj⟩
        · have P := Lib.hid p
          have S := Lib.hid (show StaX (270 * (k + 1)) D' none from ⟨s.mono (by omega), fun b J e => by cases e⟩)
          clear p s
          go_wp2_with (go_at_call 10; refine (o_open0 (i := 0) M5.out rfl 0 I64.zero he P.out).mono ?_; rintro e w6 ⟨rfl, m⟩; have M6 := Lib.hid m; clear m)
          go_roundw
          case rel => exact ⟨k + 1, none, D', hk1, by go_num, Lib.hid .no, S, M6⟩
          case measure => simp [intOf]; omega
        · have P := Lib.hid p
          have S := Lib.hid (show ∀ b', StaX (270 * (k + 1)) D' (some (b', ⟨0, l, false⟩)) from fun b' => ⟨s.mono (by omega), fun b J e => by cases e; exact sj.mono (by omega)⟩)
          clear p s sj
          go_wp2_with (go_at_call 10; refine (o_open1 (i := 0) M5.out rfl 0 I64.zero he P.out).mono ?_; rintro e w6 ⟨b', rfl, m⟩; have M6 := Lib.hid m; clear m)
          go_roundw
          case rel => exact ⟨k + 1, some (b', ⟨0, l, false⟩), D', hk1, by go_num, Lib.hid (.yes _ _), Lib.hid (S.out b'), M6⟩
          case measure => simp [intOf]; omega
      by_cases k2 : x.K = 2
      · rw [k2] at c0
        have HS2 := Lib.hid (show StaX (270 * (k + 1)) (D.lose x.N) jx from ⟨(HS.out.disk.lose x.N).mono (by omega), fun b J e => ((HS.out.jour b J e).lose x.N).mono (by omega)⟩)
        clear HS
        go_wp2_with (go_at_call 11; refine (o_lose (i := 0) HM.out jobs_get x.N HOK.out.N).mono ?_; rintro e w4 ⟨rfl, m⟩; have M4 := Lib.hid m; clear m)
        go_roundw
        case rel => exact ⟨k + 1, jx, D.lose x.N, hk1, by go_num, HJ, HS2, Lib.hid (by have := M4.out; rwa [jobs_set] at this)⟩
        case measure => simp [intOf]; omega
      by_cases k0 : x.K = 0
      · rw [k0] at c0
        have hj := HJ.out
        cases hj with
        | no =>
          have HS2 := Lib.hid (HS.out.mono (show 270 * k ≤ 270 * (k + 1) by omega))
          clear HS
          go_wp2
          go_roundw
          case rel => exact ⟨k + 1, none, D, hk1, by go_num, HJ, HS2, HM⟩
          case measure => simp [intOf]; omega
        | yes b J =>
          obtain ⟨a1', a2', a3'⟩ := HS.out.disk.appended (HS.out.jour b J rfl) HF1.out.1 (by omega : 270 * k ≤ 1000000)
          have HS2 := Lib.hid (show StaX (270 * (k + 1)) (jappend D J x.S).2.1 (some (b, (jappend D J x.S).2.2)) from ⟨a1'.mono (by omega), fun b J e => by cases e; exact a2'.mono (by omega)⟩)
          have M3 : Hid (OMem w wr [.disk d D, .jour b d J]) := HM
          have HA := Lib.hid (o_append (i := 0) (k := 1) M3.out rfl rfl (by decide) x.S (M3.out.env he))
          clear a1' a2' a3' HS HM
          generalize jappend D J x.S = r at HS2 HA
          go_wp2_with (go_at_call 14; refine HA.out.mono ?_; rintro e w4 ⟨rfl, m⟩; have M4 := Lib.hid m; clear m)
          go_roundw
          case rel => exact ⟨k + 1, _, _, hk1, by go_num, Lib.hid (.yes b _), HS2, M4⟩
          case measure => simp [intOf]; omega
      by_cases k1 : x.K = 1
      · rw [k1] at c0
        have hj := HJ.out
        cases hj with
        | no =>
          have HS2 := Lib.hid (HS.out.mono (show 270 * k ≤ 270 * (k + 1) by omega))
          clear HS
          go_wp2
          go_roundw
          case rel => exact ⟨k + 1, none, D, hk1, by go_num, HJ, HS2, HM⟩
          case measure => simp [intOf]; omega
        | yes b J =>
          obtain ⟨a1', a2', a3', _⟩ := HS.out.disk.jsynced (HS.out.jour b J rfl)
          have HS2 := Lib.hid (show StaX (270 * (k + 1)) (jsync D J).2.1 (some (b, (jsync D J).2.2)) from ⟨a1'.mono (by omega), fun b J e => by cases e; exact a2'.mono (by omega)⟩)
          have M3 : Hid (OMem w wr [.disk d D, .jour b d J]) := HM
          have HA := Lib.hid (o_jsync (i := 0) (k := 1) M3.out rfl rfl (by decide))
          clear a1' a2' a3' HS HM
          generalize jsync D J = r at HS2 HA
          go_wp2_with (go_at_call 17; refine HA.out.mono ?_; rintro e w4 ⟨rfl, m⟩; have M4 := Lib.hid m; clear m)
          go_roundw
          case rel => exact ⟨k + 1, _, _, hk1, by go_num, Lib.hid (.yes b _), HS2, M4⟩
          case measure => simp [intOf]; omega
      have HS2 := Lib.hid (HS.out.mono (show 270 * k ≤ 270 * (k + 1) by omega))
      clear HS
      go_wp2
      go_roundw
      case rel => exact ⟨k + 1, jx, D, hk1, by go_num, HJ, HS2, HM⟩
      case measure => simp [intOf]; omega
    · have HS2 := Lib.hid (HS.out.mono (show 270 * k ≤ 270 * 25 by omega))
      have hj := HJ.out
      clear HS HJ
      cases hj with
      | no =>
        go_wp2
        go_ret
        exact ⟨rfl, HM.out.below⟩
      | yes b J =>
        have M3 : Hid (OMem w wr [.disk d D, .jour b d J]) := HM
        clear HM
        go_wp2_with (go_at_call 13; refine (o_all (k := 1) M3.out rfl).mono ?_; rintro e w4 ⟨vw, rfl, m⟩; refine Hid.out ?_)
        refine Lib.hid ?_
        have M4 := Lib.hid (show OMem w w4 [.disk d D, .jour b d J, .own 9 vw (strVs J.l)] from m)
        clear m M3
        have HS3 : Hid (Sta (6750 + 270 * 0) D ∧ StaJ (6750 + 270 * 0) D J) := Lib.hid ⟨HS2.out.disk, HS2.out.jour b J rfl⟩
        clear HS2
        go_wp2
        go_loopw [14, 15] (fun vv iv wr => ∃ (k : Nat) (J : Jn) (D : Dk), k ≤ ts.length ∧ iv = .int .i64 (k : Int) ∧ Hid (Sta (6750 + 270 * k) D ∧ StaJ (6750 + 270 * k) D J) ∧ Hid (OMem w wr [.disk d D, .jour b d J, .own 9 vv (strVs J.l)])) (fun _ iv _ => ts.length - (intOf iv).toNat)
        case atStart => exact ⟨0, J, D, Nat.zero_le _, rfl, HS3, M4⟩
        case round =>
          clear M4 HS3
          obtain ⟨k, J, D, hk, rfl, HS, HM⟩ := hrel
          have HLL : J.l.length ≤ 10000 := by have := forms_count J.l; have := HS.out.2.size; omega
          by_cases hlt : k < ts.length
          · obtain ⟨x, hx⟩ : ∃ x, ts[k]? = some x := ⟨_, List.getElem?_eq_getElem hlt⟩
            have HXX := Lib.hid hx
            obtain ⟨bt, ot, rfl, hct⟩ := HGT.out.get HM.out.below hx
            have hfx := HFT.out.2 x (List.mem_of_getElem? hx)
            obtain ⟨a1', a2', a3'⟩ := HS.out.1.appended HS.out.2 hfx (by omega : 6750 + 270 * k ≤ 1000000)
            obtain ⟨⟨rn, D2, J2⟩, hr⟩ : ∃ r, jappend D J x = r := ⟨_, rfl⟩
            rw [hr] at a1' a2' a3'
            simp only at a1' a2' a3'
            have HS2 := Lib.hid (show Sta (6750 + 270 * (k + 1)) D2 ∧ StaJ (6750 + 270 * (k + 1)) D2 J2 from ⟨a1'.mono (by omega), a2'.mono (by omega)⟩)
            have HA := Lib.hid (o_append1 (i := 0) (k := 1) HM.out rfl rfl (by decide) x (HM.out.env he) hr)
            have hk1 : k + 1 ≤ ts.length := hlt
            clear a1' a2' HS HM hx hfx hr
            rcases a3' with ⟨rfl, zl⟩ | ⟨rfl, zl⟩
            · have ZL := Lib.hid zl
              clear zl
              go_wp2_with (go_at_call 14; refine HA.out.mono ?_; rintro e w5 ⟨rfl, m⟩; refine Hid.out ?_)
              refine Lib.hid ?_
              have M5 := Lib.hid (show OMem w w5 [.disk d D2, .jour b d J2, .own 9 u14 (strVs J.l)] from m)
              have hown := M5.out.at_row (i := 2) rfl
              rw [strVs_length] at hown
              obtain ⟨bt5, ot5, e5, hct5⟩ := HGT.out.get M5.out.below HXX.out
              simp only [Option.some.injEq, Addr.mk.injEq, and_true] at e5
              obtain ⟨rfl, rfl⟩ := e5
              clear m hct HA
              go_wp2_with (at_builtin; refine Hid.out ?_)
              refine Lib.hid ?_
              refine wpList_append_own_at _ rfl _ _ 32 rfl 0 9 i0 (.string ⟨#[]⟩) 1 16 Tryd.underlying32 hi hz0 hz1 hz2 rfl (by decide) _ _ _ rfl (hown.alloc _) ⟨w5.heap.size, 0, none⟩ 1 1 [.string (bs x)] rfl rfl (cell_one_new _ _ _) ?p2 ?p3 ?p4 (Nat.zero_le _) ?_
              case p2 => intro y hy; simp at hy; subst hy; rfl
              case p3 => unfold maxLen; omega
              case p4 => omega
              intro v' w6 hown6 hgrow _ hat
              have m6 := (M5.out.fresh (below_alloc w5 (.cells #[.string (bs x)] 9))).grow (i := 2) (v' := v') (xs' := strVs (J.l ++ [x])) rfl hgrow (by simpa [strVs] using hown6) hat
              have M6 : Hid (OMem w w6 [.disk d D2, .jour b d J2, .own 9 v' (strVs J2.l)]) := Lib.hid (by rw [ZL.out]; exact m6)
              clear hown hown6 hgrow hat m6 M5
              go_wp2
              go_roundw
              case rel => exact ⟨k + 1, J2, D2, hk1, by go_num, HS2, M6⟩
              case measure => simp [intOf]; omega
            · have ZL := Lib.hid zl
              clear zl
              go_wp2_with (go_at_call 14; refine HA.out.mono ?_; rintro e w5 ⟨rfl, m⟩; have M5 := Lib.hid m; clear m)
              go_roundw
              case rel =>
                refine ⟨k + 1, J2, D2, hk1, by go_num, HS2, Lib.hid ?_⟩
                have := M5.out
                rw [ZL.out]
                exact this
              case measure => simp [intOf]; omega
          · obtain ⟨g1, g2, g3, g4⟩ := HS.out.1.jsynced HS.out.2
            obtain ⟨⟨rn, D2, J2⟩, hjs⟩ : ∃ r, jsync D J = r := ⟨_, rfl⟩
            rw [hjs] at g1 g2 g3 g4
            simp only at g1 g2 g3 g4
            have HA := Lib.hid (o_jsync1 (i := 0) (k := 1) HM.out rfl rfl (by decide) hjs)
            have HRS := Lib.hid HS.out.2.small
            have HLC : Hid (J.l.length ≤ 1099511627776) := Lib.hid (by omega)
            have G3 := Lib.hid g3
            have HQ := Lib.hid (show Sta (6750 + 270 * k) D2 ∧ (rn = 0 → Still D2 0 (forms J.l)) from ⟨g1, g4⟩)
            clear g1 g2 g3 g4 HS HM hjs
            by_cases hr : rn = 0
            · have HQ2 := Lib.hid (show Good (D2.lose 0) ∧ Quiet (D2.lose 0) ∧ Still (D2.lose 0) 0 (forms J.l) from ⟨HQ.out.1.good.of rfl rfl rfl, ⟨HQ.out.1.up, HQ.out.1.calls, rfl⟩, (HQ.out.2 hr).of rfl rfl rfl⟩)
              subst hr
              clear HQ
              go_wp2_with (go_at_call 17; refine HA.out.mono ?_; rintro e w5 ⟨rfl, m⟩; refine Hid.out ?_)
              refine Lib.hid ?_
              have M5 := Lib.hid (show OMem w w5 [.disk d D2, .jour b d J2, .own 9 u14 (strVs J.l)] from m)
              clear m HA
              go_wp2_with (go_at_call 11; refine (o_lose (i := 0) M5.out rfl 0 I64.zero).mono ?_; rintro e w6 ⟨rfl, m⟩; refine Hid.out ?_)
              refine Lib.hid ?_
              have M6 := Lib.hid (show OMem w w6 [.disk d (D2.lose 0), .jour b d J2, .own 9 u14 (strVs J.l)] from m)
              clear m M5
              go_wp2
              go_loopw [11, 17] (fun jv iv wr => ∃ (k : Nat) (os : List Ob) (ji b3 : Nat) (J3 : Jn) (D3 : Dk) (o1 : Ob), k ≤ 2 ∧ iv = .int .i64 (k : Int) ∧ jv = .pointer (some ⟨b3, 0, none⟩) ∧ Hid (os.take 3 = [.disk d D3, o1, .own 9 u14 (strVs J.l)]) ∧ Hid (os[ji]? = some (.jour b3 d J3) ∧ J3.l = J.l) ∧ Hid (Good D3 ∧ Quiet D3 ∧ Still D3 0 (forms J.l)) ∧ Hid (OMem w wr os)) (fun _ iv _ => 2 - (intOf iv).toNat)
              case atStart => exact ⟨0, _, 1, b, J2, D2.lose 0, _, by omega, rfl, rfl, Lib.hid rfl, Lib.hid ⟨rfl, G3.out⟩, HQ2, M6⟩
              case round =>
                clear M6 HQ2
                obtain ⟨k3, os, ji, b3, J3, D3, o1, hk3, rfl, rfl, HO3, HJ3, HQ3, HM3⟩ := hrel
                have HALL := Lib.hid (o_all HM3.out HJ3.out.1)
                by_cases hlt3 : k3 < 2
                · go_wp2_with (go_at_call 13; refine HALL.out.mono ?_; rintro e w7 ⟨v7, rfl, m⟩; refine Hid.out ?_)
                  refine Lib.hid ?_
                  have M7 := Lib.hid m
                  have t1 := m.texts (get_push os _)
                  rw [HJ3.out.2] at t1
                  have SAME := Lib.hid (same_one HLC.out t1 (m.texts (get_app (take3 HO3.out).2.1 _)))
                  clear m t1 HALL HM3
                  go_wp2_with (go_at_call 16; refine SAME.out.mono ?_; rintro e w8 ⟨rfl, b8⟩; refine Hid.out ?_)
                  refine Lib.hid ?_
                  have m9 := (M7.out.fresh b8).take 3
                  rw [(take3 HO3.out).2.2] at m9
                  have M9 := Lib.hid m9
                  clear m9 b8 M7 SAME
                  have hk03 : k3 = 0 ∨ k3 = 1 := by omega
                  rcases hk03 with rfl | rfl
                  · skip
                    go_wp2_with (go_at_call 18; refine (o_crash (i := 0) M9.out rfl _ ks (HK.out.to M9.out.below) (by have := HKL.out; omega)).mono ?_; rintro e w10 ⟨rfl, m⟩; refine Hid.out ?_)
                    refine Lib.hid ?_
                    obtain ⟨D2, p, g, q, st⟩ := stays_round HQ3.out.1 HQ3.out.2.1 HQ3.out.2.2 HRS.out ks
                    have P := Lib.hid p
                    have HQ4 := Lib.hid (show Good D2 ∧ Quiet D2 ∧ Still D2 0 (forms J.l) from ⟨g, q, st⟩)
                    have M10 := Lib.hid (show OMem w w10 [.disk d (D3.crash ks), o1, .own 9 u14 (strVs J.l)] from m)
                    clear m M9 p g q st
                    go_wp2_with (go_at_call 19; refine (o_start (i := 0) M10.out rfl).mono ?_; rintro e w11 ⟨rfl, m⟩; refine Hid.out ?_)
                    refine Lib.hid ?_
                    have M11 := Lib.hid (show OMem w w11 [.disk d (D3.crash ks).start, o1, .own 9 u14 (strVs J.l)] from m)
                    clear m M10
                    go_wp2_with (go_at_call 10; refine (o_open1 (i := 0) M11.out rfl 0 I64.zero he P.out).mono ?_; rintro e w12 ⟨b4, rfl, m⟩; have M12 := Lib.hid m; clear m)
                    go_roundw
                    case rel => exact ⟨1, _, 3, b4, ⟨0, J.l, false⟩, D2, o1, by omega, by go_num, rfl, Lib.hid rfl, Lib.hid ⟨rfl, rfl⟩, HQ4, M12⟩
                    case measure => simp [intOf]
                  · skip
                    go_wp2_with (go_at_call 18; refine (o_crash (i := 0) M9.out rfl _ us (HU.out.to M9.out.below) (by have := HUL.out; omega)).mono ?_; rintro e w10 ⟨rfl, m⟩; refine Hid.out ?_)
                    refine Lib.hid ?_
                    obtain ⟨D2, p, g, q, st⟩ := stays_round HQ3.out.1 HQ3.out.2.1 HQ3.out.2.2 HRS.out us
                    have P := Lib.hid p
                    have HQ4 := Lib.hid (show Good D2 ∧ Quiet D2 ∧ Still D2 0 (forms J.l) from ⟨g, q, st⟩)
                    have M10 := Lib.hid (show OMem w w10 [.disk d (D3.crash us), o1, .own 9 u14 (strVs J.l)] from m)
                    clear m M9 p g q st
                    go_wp2_with (go_at_call 19; refine (o_start (i := 0) M10.out rfl).mono ?_; rintro e w11 ⟨rfl, m⟩; refine Hid.out ?_)
                    refine Lib.hid ?_
                    have M11 := Lib.hid (show OMem w w11 [.disk d (D3.crash us).start, o1, .own 9 u14 (strVs J.l)] from m)
                    clear m M10
                    go_wp2_with (go_at_call 10; refine (o_open1 (i := 0) M11.out rfl 0 I64.zero he P.out).mono ?_; rintro e w12 ⟨b4, rfl, m⟩; have M12 := Lib.hid m; clear m)
                    go_roundw
                    case rel => exact ⟨2, _, 3, b4, ⟨0, J.l, false⟩, D2, o1, by omega, by go_num, rfl, Lib.hid rfl, Lib.hid ⟨rfl, rfl⟩, HQ4, M12⟩
                    case measure => simp [intOf]
                · obtain rfl : k3 = 2 := by omega
                  go_wp2_with (go_at_call 13; refine HALL.out.mono ?_; rintro e w7 ⟨v7, rfl, m⟩; refine Hid.out ?_)
                  refine Lib.hid ?_
                  have M7 := Lib.hid m
                  have t1 := m.texts (get_push os _)
                  rw [HJ3.out.2] at t1
                  have SAME := Lib.hid (same_one HLC.out t1 (m.texts (get_app (take3 HO3.out).2.1 _)))
                  clear m t1 HALL HM3
                  go_wp2_with (go_at_call 16; refine SAME.out.mono ?_; rintro e w8 ⟨rfl, b8⟩; have B8 := Lib.hid b8; clear b8)
                  go_ret
                  exact ⟨rfl, (M7.out.fresh B8.out).below⟩
            · have hr1 : (rn != 0) = true := bne_iff_ne.2 hr
              go_wp2_with (go_at_call 17; refine HA.out.mono ?_; rintro e w5 ⟨rfl, m⟩; refine Hid.out ?_)
              refine Lib.hid ?_
              have M5 := Lib.hid (show OMem w w5 [.disk d D2, .jour b d J2, .own 9 u14 (strVs J.l)] from m)
              clear m HA
              go_wp2_with (go_at_call 13; refine (o_all (k := 1) M5.out rfl).mono ?_; rintro e w6 ⟨v6, rfl, m⟩; refine Hid.out ?_)
              refine Lib.hid ?_
              have M6 := Lib.hid (show OMem w w6 [.disk d D2, .jour b d J2, .own 9 u14 (strVs J.l), .own 9 v6 (strVs J2.l)] from m)
              have t1 := M6.out.texts (i := 3) rfl
              rw [G3.out] at t1
              have SAME := Lib.hid (same_one HLC.out t1 (M6.out.texts (i := 2) rfl))
              clear m t1 M5
              go_wp2_with (go_at_call 16; refine SAME.out.mono ?_; rintro e w8 ⟨rfl, b8⟩; have B8 := Lib.hid b8; clear b8)
              go_ret
              exact ⟨rfl, (M6.out.fresh B8.out).below⟩
theorem jstays_walk (a0 : Option Addr) (n0 cap : Nat) (xs : List Op1) (hn0 : xs.length = n0) (hm0 : n0 ≤ maxLen) (o0 : OArgs w a0 xs) (v1 : Value) (ts : List (List UInt8)) (ht : TextsAt w v1 ts) (hl1 : ts.length ≤ 9223372036854775807)
    (a2 : Option Addr) (n2 c2 : Nat) (ks : List Int) (hn2 : ks.length = n2) (hm2 : n2 ≤ maxLen) (o2 : Nums w w (.slice a2 n2 c2) ks) (a3 : Option Addr) (n3 c3 : Nat) (us : List Int) (hn3 : us.length = n3) (hm3 : n3 ≤ maxLen) (o3 : Nums w w (.slice a3 n3 c3) us) (he : Env w) :
    Calls Tryd.prog 4 #[.slice a0 n0 cap, v1, .slice a2 n2 c2, .slice a3 n3 c3] w fun e w' => e = .returned (.bool true) ∧ Below w.heap.size w w' := by
  subst hn0 hn2 hn3
  obtain ⟨a1, cap1, rfl, hg⟩ := texts_at ht
  clear hg
  unfold maxLen at hm0 hm2 hm3
  by_cases hb : fewO xs = false ∨ fewT ts = false ∨ 50 < ks.length ∨ 50 < us.length
  · exact jstays_out cap cap1 c2 c3 o0 (by omega) ht hl1 (by omega) (by omega) hb he
  · have h1 : fewO xs = true := by cases h : fewO xs with | true => rfl | false => exact absurd (.inl h) hb
    have h2 : fewT ts = true := by cases h : fewT ts with | true => rfl | false => exact absurd (.inr (.inl h)) hb
    exact jstays_main cap cap1 c2 c3 o0 h1 ht h2 o2 (by omega) o3 (by omega) he
end
end Go.Proofs.YtjbcgahdiolhhaaDoor.D2
