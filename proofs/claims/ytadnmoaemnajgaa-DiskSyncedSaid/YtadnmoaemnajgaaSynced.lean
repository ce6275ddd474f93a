/- DiskSynced. -/
import Derived.Test.YtadnmoaemnajgaaReadsW
namespace Go.Proofs.Ytadnmoaemnajgaa
open Go.RowKit Go.Maps Go.ChangeMaps Go.MapKept
open Dp
attribute [local go_sem ↓] Go.wp_at_zero Go.wp_at_succ

section
variable {w : World} {a c : Option Addr} {xs ys : List Act1}
set_option maxHeartbeats 1000000 in
set_option maxRecDepth 100000 in
theorem synced_out (cap capc : Nat) (f : Int) (va : Option Addr) (vc : Nat) (ks : List Int) (ha : Args w a xs) (hl : xs.length ≤ 9223372036854775807) (hc : Args w c ys) (hlc : ys.length ≤ 9223372036854775807) (hk : ks.length ≤ 9223372036854775807)
    (hb : fewB xs = false ∨ fewB ys = false ∨ 60 < ks.length) :
    Calls Try.prog 5 #[.slice a xs.length cap, .int .i64 f, .slice c ys.length capc, .slice va ks.length vc] w fun e w' => e = .returned (.bool true) ∧ Below w.heap.size w w' := by
  have HA := Lib.hid ha
  have HC := Lib.hid hc
  obtain ⟨r, hr⟩ : ∃ r, fewB xs = r := ⟨_, rfl⟩
  obtain ⟨q, hq⟩ : ∃ q, fewB ys = q := ⟨_, rfl⟩
  rw [hr, hq] at hb
  have HR := Lib.hid hr
  have HQ := Lib.hid hq
  clear ha hc hr hq
  have hb : r = false ∨ (r = true ∧ q = false) ∨ (r = true ∧ q = true ∧ 60 < ks.length) := by
    cases r <;> cases q <;> simp at hb ⊢
    exact hb
  rcases hb with h | ⟨h, h2⟩ | ⟨h, h2, h3⟩
  all_goals
    subst h
    try subst h2
    go_enter Try.func5, Try.ntmps5
    go_wp2_with (go_at_call 8; refine (small_any _).mono ?_; rintro e w1 ⟨rfl, b1⟩; refine Hid.out ?_)
    refine Lib.hid ?_
    have B1 := Lib.hid b1
    have F1 := Lib.hid (few_at HA.out hl cap b1 HR.out)
    have F2 := Lib.hid (few_at HC.out hlc capc b1 HQ.out)
    clear b1
    go_wp2_with (first | (go_at_call_of 9 (Value.slice a xs.length cap); refine F1.out.mono ?_; rintro e w2 ⟨rfl, rfl⟩) | (go_at_call_of 9 (Value.slice c ys.length capc); refine F2.out.mono ?_; rintro e w2 ⟨rfl, rfl⟩))
    go_ret
    exact ⟨rfl, B1.out⟩

set_option maxHeartbeats 1000000 in
set_option maxRecDepth 100000 in
theorem synced_fails (cap capc : Nat) (f : Int) (hf : I64 f) (va : Option Addr) (vc : Nat) (ks : List Int) (ha : Args w a xs) (hl : xs.length ≤ 9223372036854775807) (hc : Args w c ys) (hlc : ys.length ≤ 9223372036854775807)
    (hfx : fewB xs = true) (hfy : fewB ys = true) (hk : ks.length ≤ 60) (hne : ((play new xs).sync f).1 ≠ 0) :
    Calls Try.prog 5 #[.slice a xs.length cap, .int .i64 f, .slice c ys.length capc, .slice va ks.length vc] w fun e w' => e = .returned (.bool true) ∧ Below w.heap.size w w' := by
  have HA := Lib.hid ha
  have HC := Lib.hid hc
  have HR := Lib.hid hfx
  have HQ := Lib.hid hfy
  have HF := Lib.hid hf
  have hpl := fun (w1 : World) (b1 : Below w.heap.size w w1) => played_any a cap xs w1 ((Mem.start w).fresh b1) ha (fewB_true hfx)
  obtain ⟨D, hD⟩ : ∃ D, play new xs = D := ⟨_, rfl⟩
  rw [hD] at hpl hne
  have HP := Lib.hid hpl
  obtain ⟨r, hr⟩ : ∃ r, (D.sync f).1 = r := ⟨_, rfl⟩
  rw [hr] at hne
  have hr0 : (r == 0) = false := by simpa using hne
  obtain ⟨s0, e0, hs0⟩ : ∃ s e, D.read f 0 16777216 = (s, e) := ⟨_, _, rfl⟩
  have HS0 := Lib.hid hs0
  have HRR := Lib.hid hr
  clear ha hc hfx hfy hf hpl hD hr hs0
  go_enter Try.func5, Try.ntmps5
  go_wp2_with (go_at_call 8; refine (small_any _).mono ?_; rintro e w1 ⟨rfl, b1⟩; refine Hid.out ?_)
  refine Lib.hid ?_
  have B1 := Lib.hid b1
  have F1 := Lib.hid (few_at HA.out hl cap b1 HR.out)
  have F2 := Lib.hid (few_at HC.out hlc capc b1 HQ.out)
  clear b1
  go_wp2_with (first | (go_at_call_of 9 (Value.slice a xs.length cap); refine F1.out.mono ?_; rintro e w2 ⟨rfl, rfl⟩) | (go_at_call_of 9 (Value.slice c ys.length capc); refine F2.out.mono ?_; rintro e w2 ⟨rfl, rfl⟩) | (go_at_call 22; refine (HP.out _ B1.out).mono ?_; rintro e w3 ⟨b, rfl, m⟩; refine Hid.out ?_))
  refine Lib.hid ?_
  have M3 := Lib.hid (show Mem w w3 [(b, D)] from m)
  have HRD := Lib.hid (mem_read1 (i := 0) M3.out rfl f 0 16777216 HF.out I64.zero ⟨by decide, by decide⟩ HS0.out _ rfl)
  clear m B1 F1 F2
  go_wp2_with (go_at_call 20; refine HRD.out.mono ?_; rintro e w4 ⟨rfl, m4⟩; refine Hid.out ?_)
  refine Lib.hid ?_
  have hsy := mem_sync1 (i := 0) m4 rfl f HF.out (Prod.ext HRR.out rfl)
  have HSY := Lib.hid hsy
  clear m4 M3 hsy
  go_wp2_with (go_at_call 19; refine HSY.out.mono ?_; rintro e w5 ⟨rfl, m5⟩; refine Hid.out ?_)
  refine Lib.hid ?_
  have M5 := Lib.hid m5
  clear m5
  go_wp2
  go_ret
  exact ⟨rfl, M5.out.below⟩


set_option maxHeartbeats 2000000 in
set_option maxRecDepth 100000 in
theorem synced_main (cap capc : Nat) (f : Int) (hf : I64 f) (va : Option Addr) (vc : Nat) (ks : List Int) (ha : Args w a xs) (hl : xs.length ≤ 9223372036854775807) (hc : Args w c ys) (hlc : ys.length ≤ 9223372036854775807)
    (hfx : fewB xs = true) (hfy : fewB ys = true) (hk : ks.length ≤ 60) (hkk : Nums w w (.slice va ks.length vc) ks) (he : ((play new xs).sync f).1 = 0) :
    Calls Try.prog 5 #[.slice a xs.length cap, .int .i64 f, .slice c ys.length capc, .slice va ks.length vc] w fun e w' => e = .returned (.bool true) ∧ Below w.heap.size w w' := by
  have HA := Lib.hid ha
  have HC := Lib.hid hc
  have HR := Lib.hid hfx
  have HQ := Lib.hid hfy
  have HF := Lib.hid hf
  have HK := Lib.hid hkk
  have hly := (fewB_true hfy).1
  have hpl := fun (w1 : World) (b1 : Below w.heap.size w w1) => played_any a cap xs w1 ((Mem.start w).fresh b1) ha (fewB_true hfx)
  have hgd := good_play good_new xs
  obtain ⟨D, hD⟩ : ∃ D, play new xs = D := ⟨_, rfl⟩
  rw [hD] at hpl he hgd
  have HP := Lib.hid hpl
  obtain ⟨hif, hd2, hd, hst⟩ := sync_ok hgd he
  have h16 := isFile_true hif
  obtain ⟨D2, hD2⟩ : ∃ D2, (D.sync f).2 = D2 := ⟨_, rfl⟩
  rw [hD2] at hd2 hst
  have HSYN := Lib.hid (show D.sync f = (0, D2) from Prod.ext he hD2)
  have HIF := Lib.hid hif
  have HD := Lib.hid hd
  have HD2 := Lib.hid hd2
  obtain ⟨t, ht⟩ : ∃ t, D.now f.toNat = t := ⟨_, rfl⟩
  rw [ht] at hst
  have HST := Lib.hid hst
  have HT := Lib.hid ht
  clear ha hc hfx hfy hf hkk hpl hD hD2 he hgd hif hd2 hd hst ht
  go_enter Try.func5, Try.ntmps5
  go_wp2_with (go_at_call 8; refine (small_any _).mono ?_; rintro e w1 ⟨rfl, b1⟩; refine Hid.out ?_)
  refine Lib.hid ?_
  have B1 := Lib.hid b1
  have F1 := Lib.hid (few_at HA.out hl cap b1 HR.out)
  have F2 := Lib.hid (few_at HC.out hlc capc b1 HQ.out)
  clear b1
  go_wp2_with (first | (go_at_call_of 9 (Value.slice a xs.length cap); refine F1.out.mono ?_; rintro e w2 ⟨rfl, rfl⟩) | (go_at_call_of 9 (Value.slice c ys.length capc); refine F2.out.mono ?_; rintro e w2 ⟨rfl, rfl⟩) | (go_at_call 22; refine (HP.out _ B1.out).mono ?_; rintro e w3 ⟨b, rfl, m⟩; refine Hid.out ?_))
  refine Lib.hid ?_
  have M3 := Lib.hid (show Mem w w3 [(b, D)] from m)
  have hlen := (Mem.good M3.out (i := 0) rfl).2.now f.toNat
  have hr0 := read_all HD.out HIF.out (n := 16777216) (by omega)
  rw [HT.out] at hr0 hlen
  have hr2 := read_all HD2.out HIF.out (n := 16777216) (by rw [HST.out.now]; omega)
  rw [HST.out.now] at hr2
  have HR2 := Lib.hid hr2
  have HRD := Lib.hid (mem_read1 (i := 0) M3.out rfl f 0 16777216 HF.out I64.zero ⟨by decide, by decide⟩ hr0 _ rfl)
  clear m B1 F1 F2 hr0 hr2
  go_wp2_with (go_at_call 20; refine HRD.out.mono ?_; rintro e w4 ⟨rfl, m4⟩; refine Hid.out ?_)
  refine Lib.hid ?_
  have HSY := Lib.hid (mem_sync1 (i := 0) m4 rfl f HF.out HSYN.out)
  clear m4 M3 HRD
  go_wp2_with (go_at_call 19; refine HSY.out.mono ?_; rintro e w5 ⟨rfl, m5⟩; refine Hid.out ?_)
  refine Lib.hid ?_
  have M5 := Lib.hid (show Mem w w5 [(b, D2)] from m5)
  have HRD := Lib.hid (mem_read1 (i := 0) M5.out rfl f 0 16777216 HF.out I64.zero ⟨by decide, by decide⟩ HR2.out _ rfl)
  clear m5 HSY
  go_wp2_with (go_at_call 20; refine HRD.out.mono ?_; rintro e w6 ⟨rfl, m6⟩)
  have M6 := Lib.hid (show Mem w w6 [(b, D2)] from m6)
  clear m6 M5 HRD
  go_loopw [15, 16] (fun i _ wr => ∃ k : Nat, k ≤ ys.length ∧ i = .int .i64 (k : Int) ∧ Hid (∃ Dk', Mem w wr [(b, Dk')] ∧ Still Dk' f.toNat t)) (fun i _ _ => ys.length - (intOf i).toNat)
  case atStart => exact ⟨0, Nat.zero_le _, rfl, Lib.hid ⟨D2, M6.out, HST.out⟩⟩
  case round =>
    obtain ⟨k, hk', rfl, HI⟩ := hrel
    obtain ⟨Dk', hm, hst⟩ := HI.out
    have MK := Lib.hid hm
    have SK := Lib.hid hst
    clear hm hst HI
    by_cases hlt : k < ys.length
    · obtain ⟨x, hx⟩ : ∃ x, ys[k]? = some x := ⟨_, List.getElem?_eq_getElem hlt⟩
      obtain ⟨bb, off, xa, xc, rfl, hcc, hn, ho⟩ := HC.out.get MK.out.below hx
      obtain ⟨c0, c1, c2, c3, c4⟩ := hcc
      have HX := Lib.hid hx
      have HN := Lib.hid hn
      have HO := Lib.hid ho
      have hdo := mem_do (i := 0) (b := b) (D := Dk') MK.out rfl x HO.out ((fewB_true HQ.out).2 x (List.mem_of_getElem? HX.out)) xa xc HN.out
      have HDO := Lib.hid hdo
      have h7 := i64_and7 x.K
      have HH : (x.K % 8 < 4 ∧ x.F ≠ f) ∨ x.K % 8 = 4 → Hid (Still (Dk.act Dk' x).2 f.toNat t) := fun h => Lib.hid (still_act SK.out (by omega) (by rw [show ((f.toNat : Nat) : Int) = f by omega]; exact h))
      clear hx hn ho hdo
      rw [← h7] at HH
      have H7 := Lib.hid h7
      clear h7
      by_cases h4 : bits .and .i64 x.K 7 < 4
      · by_cases h5 : x.F = f
        · have h5' : (x.F == f) = true := by simpa using h5
          have h6 : (bits .and .i64 x.K 7 == 4) = false := by rw [beq_eq_false_iff_ne]; omega
          clear h5
          go_wp2
          go_roundw
          case rel => exact ⟨k + 1, by omega, by go_num, Lib.hid ⟨Dk', MK.out, SK.out⟩⟩
          case measure => simp [intOf]; omega
        · have h5' : (x.F == f) = false := by simpa using h5
          have HS := HH (.inl ⟨h4, h5⟩)
          go_wp2_with (go_at_call 12; refine HDO.out.mono ?_; rintro e w7 ⟨rfl, m7⟩; have M7 := Lib.hid (show Mem w w7 [(b, (Dk.act Dk' x).2)] from m7); clear m7)
          go_roundw
          case rel => exact ⟨k + 1, by omega, by go_num, Lib.hid ⟨_, M7.out, HS.out⟩⟩
          case measure => simp [intOf]; omega
      · by_cases h6 : bits .and .i64 x.K 7 = 4
        · have h6' : (bits .and .i64 x.K 7 == 4) = true := by simpa using h6
          have HS := HH (.inr h6)
          go_wp2_with (go_at_call 12; refine HDO.out.mono ?_; rintro e w7 ⟨rfl, m7⟩; have M7 := Lib.hid (show Mem w w7 [(b, (Dk.act Dk' x).2)] from m7); clear m7)
          go_roundw
          case rel => exact ⟨k + 1, by omega, by go_num, Lib.hid ⟨_, M7.out, HS.out⟩⟩
          case measure => simp [intOf]; omega
        · have h6' : (bits .and .i64 x.K 7 == 4) = false := by simpa using h6
          go_wp2
          go_roundw
          case rel => exact ⟨k + 1, by omega, by go_num, Lib.hid ⟨Dk', MK.out, SK.out⟩⟩
          case measure => simp [intOf]; omega
    · have HCR := Lib.hid (mem_crash (i := 0) MK.out rfl _ ks (HK.out.to MK.out.below) (by omega))
      go_wp2_with (go_at_call 25; refine HCR.out.mono ?_; rintro e w7 ⟨rfl, m7⟩; refine Hid.out ?_)
      refine Lib.hid ?_
      have HSA := Lib.hid (mem_start (i := 0) (show Mem w w7 [(b, Dk'.crash ks)] from m7) rfl)
      clear m7
      go_wp2_with (go_at_call 26; refine HSA.out.mono ?_; rintro e w8 ⟨rfl, m8⟩; refine Hid.out ?_)
      refine Lib.hid ?_
      have hst := still_start (still_crash SK.out (by omega) ks)
      have hr3 := read_all (D := (Dk'.crash ks).start) rfl HIF.out (n := 16777216) (by rw [hst.now]; omega)
      rw [hst.now] at hr3
      have HRD := Lib.hid (mem_read1 (i := 0) (show Mem w w8 [(b, (Dk'.crash ks).start)] from m8) rfl f 0 16777216 HF.out I64.zero ⟨by decide, by decide⟩ hr3 _ rfl)
      clear m8 hst hr3
      go_wp2_with (go_at_call 20; refine HRD.out.mono ?_; rintro e w9 ⟨rfl, m9⟩; refine Hid.out ?_)
      refine Lib.hid ?_
      have M9 := Lib.hid m9
      clear m9
      go_wp2
      go_ret
      exact ⟨ret_bool (by simp), M9.out.below⟩

theorem synced_walk (cap capc : Nat) (f : Int) (hf : I64 f) (va : Option Addr) (vc : Nat) (ks : List Int) (ha : Args w a xs) (hl : xs.length ≤ 9223372036854775807) (hc : Args w c ys) (hlc : ys.length ≤ 9223372036854775807) (hlk : ks.length ≤ 9223372036854775807) (hkk : Nums w w (.slice va ks.length vc) ks) :
    Calls Try.prog 5 #[.slice a xs.length cap, .int .i64 f, .slice c ys.length capc, .slice va ks.length vc] w fun e w' => e = .returned (.bool true) ∧ Below w.heap.size w w' := by
  cases hfx : fewB xs with
  | false => exact synced_out cap capc f va vc ks ha hl hc hlc hlk (.inl hfx)
  | true =>
    cases hfy : fewB ys with
    | false => exact synced_out cap capc f va vc ks ha hl hc hlc hlk (.inr (.inl hfy))
    | true =>
      by_cases hk : ks.length ≤ 60
      · by_cases he : ((play new xs).sync f).1 = 0
        · exact synced_main cap capc f hf va vc ks ha hl hc hlc hfx hfy hk hkk he
        · exact synced_fails cap capc f hf va vc ks ha hl hc hlc hfx hfy hk he
      · exact synced_out cap capc f va vc ks ha hl hc hlc hlk (.inr (.inr (by omega)))
end
end Go.Proofs.Ytadnmoaemnajgaa
