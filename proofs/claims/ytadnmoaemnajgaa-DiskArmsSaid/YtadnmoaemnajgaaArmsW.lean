/- DiskArms. -/
import Derived.Test.YtadnmoaemnajgaaSame
import Derived.Test.YtadnmoaemnajgaaTwin
namespace Go.Proofs.Ytadnmoaemnajgaa
open Go.RowKit Go.Maps Go.ChangeMaps Go.MapKept
open Dp
attribute [local go_sem ↓] Go.wp_at_zero Go.wp_at_succ

theorem mem_do1 {w0 w : World} {ds : List (Nat × Dk)} {i b : Nat} {D D' : Dk} (h : Mem w0 w ds) (hi : ds[i]? = some (b, D)) (x : Act1) (ho : x.Ok) (hf : Few1 x) (va : Option Addr) (vc : Nat) (hs : Nums w0 w (.slice va x.Keep.length vc) x.Keep) {r : Int} (hr : Dk.act D x = (r, D')) :
    Calls Try.prog 12 #[.pointer (some ⟨b, 0, none⟩), .agg #[.int .i64 x.K, .int .i64 x.F, .int .i64 x.N, .string (bs x.S), .slice va x.Keep.length vc]] w (MPost w0 ds i b (.int .i64 r) D') := by
  have := mem_do h hi x ho hf va vc hs
  rwa [hr] at this

/-- How both disks stand, after so many calls that count. -/
def Twins (n cnt : Nat) (ks : List Int) (D C : Dk) : Prop := (cnt < n ∧ Calm C ∧ D = C.tw (n - cnt) ks) ∨ (n ≤ cnt ∧ D.down = true ∧ C.down = true ∧ D.now = C.now)
theorem Twins.same {n cnt : Nat} {ks : List Int} {D C : Dk} (h : Twins n cnt ks D C) : D.down = C.down ∧ D.now = C.now := by
  rcases h with ⟨_, _, rfl⟩ | ⟨_, h1, h2, h3⟩
  · exact ⟨rfl, rfl⟩
  · exact ⟨h1.trans h2.symm, h3⟩

section
variable {w : World} {a : Option Addr} {xs : List Act1}
set_option maxHeartbeats 1000000 in
set_option maxRecDepth 100000 in
theorem arms_out (cap : Nat) (n : Int) (hn : I64 n) (va : Option Addr) (vc : Nat) (ks : List Int) (ha : Args w a xs) (hl : xs.length ≤ 9223372036854775807) (hk : ks.length ≤ 9223372036854775807)
    (hb : fewB xs = false ∨ 60 < ks.length ∨ n < 1 ∨ 60 < n) :
    Calls Try.prog 6 #[.slice a xs.length cap, .int .i64 n, .slice va ks.length vc] w fun e w' => e = .returned (.bool true) ∧ Below w.heap.size w w' := by
  have HA := Lib.hid ha
  have n1 := hn.1
  have n2 := hn.2
  obtain ⟨r, hr⟩ : ∃ r, fewB xs = r := ⟨_, rfl⟩
  rw [hr] at hb
  have HR := Lib.hid hr
  clear ha hr hn
  have hb : r = false ∨ (r = true ∧ 60 < ks.length) ∨ (r = true ∧ ks.length ≤ 60 ∧ n < 1) ∨ (r = true ∧ ks.length ≤ 60 ∧ 1 ≤ n ∧ 60 < n) := by
    cases r with
    | false => exact .inl rfl
    | true =>
      by_cases h1 : 60 < ks.length
      · exact .inr (.inl ⟨rfl, h1⟩)
      · by_cases h2 : n < 1
        · exact .inr (.inr (.inl ⟨rfl, by omega, h2⟩))
        · rcases hb with h | h | h | h
          · cases h
          · omega
          · omega
          · exact .inr (.inr (.inr ⟨rfl, by omega, by omega, h⟩))
  rcases hb with h | ⟨h, h3⟩ | ⟨h, h3, h4⟩ | ⟨h, h3, h4, h5⟩ <;> subst h
  all_goals
    go_enter Try.func6, Try.ntmps6
    go_wp2_with (go_at_call 8; refine (small_any _).mono ?_; rintro e w1 ⟨rfl, b1⟩; refine Hid.out ?_)
    refine Lib.hid ?_
    have B1 := Lib.hid b1
    have F1 := Lib.hid (few_at HA.out hl cap b1 HR.out)
    clear b1
    go_wp2_with (go_at_call 9; refine F1.out.mono ?_; rintro e w2 ⟨rfl, rfl⟩)
    go_ret
    exact ⟨rfl, B1.out⟩

set_option maxHeartbeats 4000000 in
set_option maxRecDepth 100000 in
theorem arms_main (cap : Nat) (n : Nat) (va : Option Addr) (vc : Nat) (ks : List Int) (ha : Args w a xs) (hl : xs.length ≤ 9223372036854775807) (hk : ks.length ≤ 60) (hkk : Nums w w (.slice va ks.length vc) ks) (hfew : fewB xs = true) (h1 : 1 ≤ n) (h2 : n ≤ 60) :
    Calls Try.prog 6 #[.slice a xs.length cap, .int .i64 (n : Int), .slice va ks.length vc] w fun e w' => e = .returned (.bool true) ∧ Below w.heap.size w w' := by
  have HA := Lib.hid ha
  have HR := Lib.hid hfew
  have HK := Lib.hid hkk
  have hlx := (fewB_true hfew).1
  clear ha hfew hkk
  go_enter Try.func6, Try.ntmps6
  go_wp2_with (go_at_call 8; refine (small_any _).mono ?_; rintro e w1 ⟨rfl, b1⟩; refine Hid.out ?_)
  refine Lib.hid ?_
  have F1 := Lib.hid (few_at HA.out hl cap b1 HR.out)
  have HN := Lib.hid (mem_new ((Mem.start w).fresh b1))
  clear b1
  go_wp2_with (first | (go_at_call 9; refine F1.out.mono ?_; rintro e w2 ⟨rfl, rfl⟩) | (go_at_call 10; refine HN.out.mono ?_; rintro e w3 ⟨b, rfl, m3⟩; refine Hid.out ?_))
  refine Lib.hid ?_
  have HN2 := Lib.hid (mem_new (show Mem w w3 [(b, new)] from m3))
  clear m3 HN F1
  go_wp2_with (go_at_call 10; refine HN2.out.mono ?_; rintro e w4 ⟨c, rfl, m4⟩; refine Hid.out ?_)
  refine Lib.hid ?_
  have M4 := Lib.hid (show Mem w w4 [(b, new), (c, new)] from m4)
  have HAR := Lib.hid (mem_arm (i := 0) M4.out rfl (n : Int) ⟨by omega, by omega⟩ _ ks (HK.out.to M4.out.below) (by omega))
  clear m4 HN2
  go_wp2_with (go_at_call 27; refine HAR.out.mono ?_; rintro e w5 ⟨rfl, m5⟩)
  have M5 := Lib.hid (show Mem w w5 [(b, new.arm (n : Int) ks), (c, new)] from m5)
  clear m5 M4 HAR
  go_loopw [10, 11] (fun cn i wr => ∃ (j cnt : Nat), j ≤ xs.length ∧ cnt ≤ j ∧ cn = .int .i64 (cnt : Int) ∧ i = .int .i64 (j : Int) ∧ Hid (∃ D C, Mem w wr [(b, D), (c, C)] ∧ Twins n cnt ks D C)) (fun _ i _ => xs.length - (intOf i).toNat)
  case atStart => exact ⟨0, 0, Nat.zero_le _, Nat.le_refl _, rfl, rfl, Lib.hid ⟨_, _, M5.out, .inl ⟨by omega, ⟨rfl, rfl⟩, rfl⟩⟩⟩
  case round =>
    obtain ⟨j, cnt, hj, hcj, rfl, rfl, HI⟩ := hrel
    obtain ⟨D, C, hm, htw⟩ := HI.out
    have MK := Lib.hid hm
    clear hm HI
    by_cases hlt : j < xs.length
    · obtain ⟨x, hx⟩ : ∃ x, xs[j]? = some x := ⟨_, List.getElem?_eq_getElem hlt⟩
      obtain ⟨bb, off, xa, xc, rfl, hcc, hnn, ho⟩ := HA.out.get MK.out.below hx
      obtain ⟨c0, c1, c2, c3, c4⟩ := hcc
      have HX := Lib.hid hx
      have HF := Lib.hid ((fewB_true HR.out).2 x (List.mem_of_getElem? hx))
      have HO := Lib.hid ho
      have HNN := Lib.hid hnn
      have H7 := Lib.hid (i64_and7 x.K)
      have h70 : 0 ≤ bits .and .i64 x.K 7 := by rw [H7.out]; omega
      clear hx ho hnn
      by_cases h4 : bits .and .i64 x.K 7 < 4
      · have h4m := h4
        rw [H7.out] at h4m
        have h4' : (bits .and .i64 x.K 7 == 4) = false := by rw [beq_eq_false_iff_ne]; omega
        rcases htw with ⟨hcn, hcm, rfl⟩ | ⟨hcn, hdd, hcd, hnw⟩
        · by_cases hm2 : cnt + 1 < n
          · have htg := twin_go hcm h4m (m := n - cnt) (by omega) ks
            obtain ⟨r, hr⟩ : ∃ r, (Dk.act C x).1 = r := ⟨_, rfl⟩
            rw [hr] at htg
            have HDO := Lib.hid (mem_do1 (i := 0) MK.out rfl x HO.out HF.out xa xc HNN.out htg)
            have HRR := Lib.hid hr
            have HCM := Lib.hid (calm_act hcm (x := x) (by omega))
            have hrr : (r != r) = false := by simp
            have hm3 : (cnt : Int) + 1 < (n : Int) := by omega
            clear htg hr hcm h4m hcn
            go_wp2_with (go_at_call 12; refine HDO.out.mono ?_; rintro e w6 ⟨rfl, m6⟩; refine Hid.out ?_)
            refine Lib.hid ?_
            have M6 := Lib.hid (show Mem w w6 [(b, (Dk.act C x).2.tw (n - cnt - 1) ks), (c, C)] from m6)
            clear m6 HDO c0 c1 c2 c3 c4
            obtain ⟨_, _, ya, yc, hae, hcc, hnn2, _⟩ := HA.out.get M6.out.below HX.out
            cases hae
            obtain ⟨c0, c1, c2, c3, c4⟩ := hcc
            have HDO := Lib.hid (mem_do1 (i := 1) M6.out rfl x HO.out HF.out ya yc hnn2 (show Dk.act C x = (r, (Dk.act C x).2) from Prod.ext HRR.out rfl))
            clear hnn2
            go_wp2_with (go_at_call 12; refine HDO.out.mono ?_; rintro e w7 ⟨rfl, m7⟩; have M7 := Lib.hid (show Mem w w7 [(b, (Dk.act C x).2.tw (n - cnt - 1) ks), (c, (Dk.act C x).2)] from m7); clear m7)
            go_roundw
            case rel => exact ⟨j + 1, cnt + 1, by omega, by omega, by go_num, by go_num, Lib.hid ⟨_, _, M7.out, .inl ⟨hm2, HCM.out, by rw [show n - (cnt + 1) = n - cnt - 1 by omega]⟩⟩⟩
            case measure => simp [intOf]; omega
          · by_cases h2k : bits .and .i64 x.K 7 < 2
            · obtain ⟨hi1, hi2, hi3, hi4⟩ := twin_hit hcm h4m ks
              rw [show n - cnt = 1 by omega] at MK
              obtain ⟨D2, hD2⟩ : ∃ D2, (Dk.act (C.tw 1 ks) x).2 = D2 := ⟨_, rfl⟩
              rw [hD2] at hi2 hi3
              rw [if_pos (show x.K % 8 < 2 by rw [← H7.out]; exact h2k)] at hi3 hi4
              have HDO := Lib.hid (mem_do1 (i := 0) MK.out rfl x HO.out HF.out xa xc HNN.out (show Dk.act (C.tw 1 ks) x = (8, D2) from Prod.ext hi1 hD2))
              have hm3 : ¬ (cnt : Int) + 1 < (n : Int) := by omega
              have hm4 : ((cnt : Int) + 1 == (n : Int)) = true := by rw [beq_iff_eq]; omega
              have HI2 := Lib.hid hi2
              have HI3 := Lib.hid hi3
              have HI4 := Lib.hid hi4
              clear hi1 hi2 hi3 hi4 hD2 hcm h4m hcn
              go_wp2_with (go_at_call 12; refine HDO.out.mono ?_; rintro e w6 ⟨rfl, m6⟩; refine Hid.out ?_)
              refine Lib.hid ?_
              have M6 := Lib.hid (show Mem w w6 [(b, D2), (c, C)] from m6)
              clear m6 HDO c0 c1 c2 c3 c4
              obtain ⟨_, _, ya, yc, hae, hcc, hnn2, _⟩ := HA.out.get M6.out.below HX.out
              cases hae
              obtain ⟨c0, c1, c2, c3, c4⟩ := hcc
              have HDO := Lib.hid (mem_do1 (i := 1) M6.out rfl x HO.out HF.out ya yc hnn2 (show Dk.act C x = ((Dk.act C x).1, (Dk.act C x).2) from rfl))
              clear hnn2
              go_wp2_with (go_at_call 12; refine HDO.out.mono ?_; rintro e w7 ⟨rfl, m7⟩; refine Hid.out ?_)
              refine Lib.hid ?_
              have M7 := Lib.hid (show Mem w w7 [(b, D2), (c, (Dk.act C x).2)] from m7)
              clear m7 HDO
              have HCR := Lib.hid (mem_crash (i := 1) M7.out rfl _ ks (HK.out.to M7.out.below) (by omega))
              go_wp2_with (go_at_call 25; refine HCR.out.mono ?_; rintro e w8 ⟨rfl, m8⟩; refine Hid.out ?_)
              refine Lib.hid ?_
              have M8 := Lib.hid (show Mem w w8 [(b, D2), (c, ((Dk.act C x).2).crash ks)] from m8)
              have HDW := Lib.hid (mem_down1 (i := 0) M8.out rfl HI2.out)
              clear m8
              go_wp2_with (go_at_call 14; refine HDW.out.mono ?_; rintro e w9 ⟨rfl, rfl⟩)
              go_roundw
              case rel => exact ⟨j + 1, cnt + 1, by omega, by omega, by go_num, by go_num, Lib.hid ⟨_, _, M8.out, .inr ⟨by omega, HI2.out, HI4.out, HI3.out⟩⟩⟩
              case measure => simp [intOf]; omega
            · obtain ⟨hi1, hi2, hi3, hi4⟩ := twin_hit hcm h4m ks
              rw [show n - cnt = 1 by omega] at MK
              obtain ⟨D2, hD2⟩ : ∃ D2, (Dk.act (C.tw 1 ks) x).2 = D2 := ⟨_, rfl⟩
              rw [hD2] at hi2 hi3
              rw [if_neg (show ¬ x.K % 8 < 2 by rw [← H7.out]; omega)] at hi3 hi4
              have HDO := Lib.hid (mem_do1 (i := 0) MK.out rfl x HO.out HF.out xa xc HNN.out (show Dk.act (C.tw 1 ks) x = (8, D2) from Prod.ext hi1 hD2))
              have hm3 : ¬ (cnt : Int) + 1 < (n : Int) := by omega
              have hm4 : ((cnt : Int) + 1 == (n : Int)) = true := by rw [beq_iff_eq]; omega
              have HI2 := Lib.hid hi2
              have HI3 := Lib.hid hi3
              have HI4 := Lib.hid hi4
              clear hi1 hi2 hi3 hi4 hD2 hcm h4m hcn
              go_wp2_with (go_at_call 12; refine HDO.out.mono ?_; rintro e w6 ⟨rfl, m6⟩; refine Hid.out ?_)
              refine Lib.hid ?_
              have M6 := Lib.hid (show Mem w w6 [(b, D2), (c, C)] from m6)
              clear m6 HDO c0 c1 c2 c3 c4
              obtain ⟨_, _, ya, yc, hae, hcc, hnn2, _⟩ := HA.out.get M6.out.below HX.out
              cases hae
              obtain ⟨c0, c1, c2, c3, c4⟩ := hcc
              clear hnn2
              have HCR := Lib.hid (mem_crash (i := 1) M6.out rfl _ ks (HK.out.to M6.out.below) (by omega))
              go_wp2_with (go_at_call 25; refine HCR.out.mono ?_; rintro e w8 ⟨rfl, m8⟩; refine Hid.out ?_)
              refine Lib.hid ?_
              have M8 := Lib.hid (show Mem w w8 [(b, D2), (c, (C).crash ks)] from m8)
              have HDW := Lib.hid (mem_down1 (i := 0) M8.out rfl HI2.out)
              clear m8
              go_wp2_with (go_at_call 14; refine HDW.out.mono ?_; rintro e w9 ⟨rfl, rfl⟩)
              go_roundw
              case rel => exact ⟨j + 1, cnt + 1, by omega, by omega, by go_num, by go_num, Lib.hid ⟨_, _, M8.out, .inr ⟨by omega, HI2.out, HI4.out, HI3.out⟩⟩⟩
              case measure => simp [intOf]; omega
        · obtain ⟨hi1, hi2, hi3⟩ := down_act hdd (x := x) (by omega)
          obtain ⟨D2, hD2⟩ : ∃ D2, (Dk.act D x).2 = D2 := ⟨_, rfl⟩
          rw [hD2] at hi1 hi2
          have HDO := Lib.hid (mem_do1 (i := 0) MK.out rfl x HO.out HF.out xa xc HNN.out (show Dk.act D x = (8, D2) from Prod.ext (hi3 h4m) hD2))
          have hm3 : ¬ (cnt : Int) + 1 < (n : Int) := by omega
          have hm4 : ((cnt : Int) + 1 == (n : Int)) = false := by rw [beq_eq_false_iff_ne]; omega
          have HI1 := Lib.hid hi1
          have HI2 := Lib.hid (hi2.trans hnw)
          have HCD := Lib.hid hcd
          clear hi1 hi2 hi3 hD2 hdd hcd hnw h4m
          go_wp2_with (go_at_call 12; refine HDO.out.mono ?_; rintro e w6 ⟨rfl, m6⟩; refine Hid.out ?_)
          refine Lib.hid ?_
          have M6 := Lib.hid (show Mem w w6 [(b, D2), (c, C)] from m6)
          clear m6 HDO c0 c1 c2 c3 c4
          obtain ⟨_, _, ya, yc, hae, hcc, hnn2, _⟩ := HA.out.get M6.out.below HX.out
          cases hae
          obtain ⟨c0, c1, c2, c3, c4⟩ := hcc
          have HDW := Lib.hid (mem_down1 (i := 0) M6.out rfl HI1.out)
          clear hnn2
          go_wp2_with (go_at_call 14; refine HDW.out.mono ?_; rintro e w9 ⟨rfl, rfl⟩)
          go_roundw
          case rel => exact ⟨j + 1, cnt + 1, by omega, by omega, by go_num, by go_num, Lib.hid ⟨_, _, M6.out, .inr ⟨by omega, HI1.out, HCD.out, HI2.out⟩⟩⟩
          case measure => simp [intOf]; omega
      · by_cases h5 : bits .and .i64 x.K 7 = 4
        · have h5' : (bits .and .i64 x.K 7 == 4) = true := by simpa using h5
          have h5m := h5
          rw [H7.out] at h5m
          rcases htw with ⟨hcn, hcm, rfl⟩ | ⟨hcn, hdd, hcd, hnw⟩
          · have htg := twin_lose (C := C) h5m (n - cnt) ks
            have hr : (Dk.act C x).1 = 0 := by rw [act_four h5m]
            rw [hr] at htg
            have HDO := Lib.hid (mem_do1 (i := 0) MK.out rfl x HO.out HF.out xa xc HNN.out htg)
            have HRR := Lib.hid hr
            have HCM := Lib.hid (calm_act hcm (x := x) (by omega))
            have hm3 : (cnt : Int) < (n : Int) := by omega
            clear htg hr hcm h5m
            go_wp2_with (go_at_call 12; refine HDO.out.mono ?_; rintro e w6 ⟨rfl, m6⟩; refine Hid.out ?_)
            refine Lib.hid ?_
            have M6 := Lib.hid (show Mem w w6 [(b, (Dk.act C x).2.tw (n - cnt) ks), (c, C)] from m6)
            clear m6 HDO c0 c1 c2 c3 c4
            obtain ⟨_, _, ya, yc, hae, hcc, hnn2, _⟩ := HA.out.get M6.out.below HX.out
            cases hae
            obtain ⟨c0, c1, c2, c3, c4⟩ := hcc
            have HDO := Lib.hid (mem_do1 (i := 1) M6.out rfl x HO.out HF.out ya yc hnn2 (show Dk.act C x = (0, (Dk.act C x).2) from Prod.ext HRR.out rfl))
            clear hnn2
            go_wp2_with (go_at_call 12; refine HDO.out.mono ?_; rintro e w7 ⟨rfl, m7⟩; have M7 := Lib.hid (show Mem w w7 [(b, (Dk.act C x).2.tw (n - cnt) ks), (c, (Dk.act C x).2)] from m7); clear m7)
            go_roundw
            case rel => exact ⟨j + 1, cnt, by omega, by omega, by go_num, by go_num, Lib.hid ⟨_, _, M7.out, .inl ⟨hcn, HCM.out, rfl⟩⟩⟩
            case measure => simp [intOf]; omega
          · by_cases heq : cnt = n
            · obtain ⟨hi1, hi2, _⟩ := down_act hdd (x := x) (by omega)
              obtain ⟨D2, hD2⟩ : ∃ D2, (Dk.act D x).2 = D2 := ⟨_, rfl⟩
              rw [hD2] at hi1 hi2
              have hr : (Dk.act D x).1 = 0 := by rw [act_four h5m]
              have HDO := Lib.hid (mem_do1 (i := 0) MK.out rfl x HO.out HF.out xa xc HNN.out (show Dk.act D x = (0, D2) from Prod.ext hr hD2))
              have hm3 : ¬ (cnt : Int) < (n : Int) := by omega
              have hm4 : ((cnt : Int) == (n : Int)) = true := by rw [beq_iff_eq]; omega
              have HI1 := Lib.hid hi1
              have HI2 := Lib.hid (hi2.trans hnw)
              have HCD := Lib.hid hcd
              clear hi1 hi2 hr hD2 hdd hcd hnw h5m
              go_wp2_with (go_at_call 12; refine HDO.out.mono ?_; rintro e w6 ⟨rfl, m6⟩; refine Hid.out ?_)
              refine Lib.hid ?_
              have M6 := Lib.hid (show Mem w w6 [(b, D2), (c, C)] from m6)
              clear m6 HDO c0 c1 c2 c3 c4
              obtain ⟨_, _, ya, yc, hae, hcc, hnn2, _⟩ := HA.out.get M6.out.below HX.out
              cases hae
              obtain ⟨c0, c1, c2, c3, c4⟩ := hcc
              have HDW := Lib.hid (mem_down1 (i := 0) M6.out rfl HI1.out)
              clear hnn2
              go_wp2_with (go_at_call 14; refine HDW.out.mono ?_; rintro e w9 ⟨rfl, rfl⟩)
              go_roundw
              case rel => exact ⟨j + 1, cnt, by omega, by omega, by go_num, by go_num, Lib.hid ⟨_, _, M6.out, .inr ⟨by omega, HI1.out, HCD.out, HI2.out⟩⟩⟩
              case measure => simp [intOf]; omega
            · obtain ⟨hi1, hi2, _⟩ := down_act hdd (x := x) (by omega)
              obtain ⟨D2, hD2⟩ : ∃ D2, (Dk.act D x).2 = D2 := ⟨_, rfl⟩
              rw [hD2] at hi1 hi2
              have hr : (Dk.act D x).1 = 0 := by rw [act_four h5m]
              have HDO := Lib.hid (mem_do1 (i := 0) MK.out rfl x HO.out HF.out xa xc HNN.out (show Dk.act D x = (0, D2) from Prod.ext hr hD2))
              have hm3 : ¬ (cnt : Int) < (n : Int) := by omega
              have hm4 : ((cnt : Int) == (n : Int)) = false := by rw [beq_eq_false_iff_ne]; omega
              have HI1 := Lib.hid hi1
              have HI2 := Lib.hid (hi2.trans hnw)
              have HCD := Lib.hid hcd
              clear hi1 hi2 hr hD2 hdd hcd hnw h5m
              go_wp2_with (go_at_call 12; refine HDO.out.mono ?_; rintro e w6 ⟨rfl, m6⟩; refine Hid.out ?_)
              refine Lib.hid ?_
              have M6 := Lib.hid (show Mem w w6 [(b, D2), (c, C)] from m6)
              clear m6 HDO c0 c1 c2 c3 c4
              obtain ⟨_, _, ya, yc, hae, hcc, hnn2, _⟩ := HA.out.get M6.out.below HX.out
              cases hae
              obtain ⟨c0, c1, c2, c3, c4⟩ := hcc
              have HDW := Lib.hid (mem_down1 (i := 0) M6.out rfl HI1.out)
              clear hnn2
              go_wp2_with (go_at_call 14; refine HDW.out.mono ?_; rintro e w9 ⟨rfl, rfl⟩)
              go_roundw
              case rel => exact ⟨j + 1, cnt, by omega, by omega, by go_num, by go_num, Lib.hid ⟨_, _, M6.out, .inr ⟨by omega, HI1.out, HCD.out, HI2.out⟩⟩⟩
              case measure => simp [intOf]; omega
        · go_wp2
          go_ret
          exact ⟨rfl, MK.out.below⟩
    · obtain ⟨hs1, hs2⟩ := htw.same
      have HS1 := Lib.hid (same_any _ MK.out (i := 0) (j := 1) rfl rfl hs1 hs2 HA.out hl cap)
      have HS2 := Lib.hid hs2
      clear htw hs1 hs2
      go_wp2_with (go_at_call 28; refine HS1.out.mono ?_; rintro e w6 ⟨rfl, m6⟩; refine Hid.out ?_)
      refine Lib.hid ?_
      have HST := Lib.hid (mem_start (i := 0) m6 rfl)
      clear m6
      go_wp2_with (go_at_call 26; refine HST.out.mono ?_; rintro e w7 ⟨rfl, m7⟩; refine Hid.out ?_)
      refine Lib.hid ?_
      have HST := Lib.hid (mem_start (i := 1) (show Mem w w7 [(b, D.start), (c, C)] from m7) rfl)
      clear m7
      go_wp2_with (go_at_call 26; refine HST.out.mono ?_; rintro e w8 ⟨rfl, m8⟩; refine Hid.out ?_)
      refine Lib.hid ?_
      have HS3 := Lib.hid (same_any _ (show Mem w w8 [(b, D.start), (c, C.start)] from m8) (i := 0) (j := 1) rfl rfl rfl HS2.out HA.out hl cap)
      clear m8
      go_wp2_with (go_at_call 28; refine HS3.out.mono ?_; rintro e w9 ⟨rfl, m9⟩; have M9 := Lib.hid m9; clear m9)
      go_ret
      exact ⟨rfl, M9.out.below⟩

theorem arms_walk (cap : Nat) (n : Int) (hn : I64 n) (va : Option Addr) (vc : Nat) (ks : List Int) (ha : Args w a xs) (hl : xs.length ≤ 9223372036854775807) (hlk : ks.length ≤ 9223372036854775807) (hkk : Nums w w (.slice va ks.length vc) ks) :
    Calls Try.prog 6 #[.slice a xs.length cap, .int .i64 n, .slice va ks.length vc] w fun e w' => e = .returned (.bool true) ∧ Below w.heap.size w w' := by
  cases hfew : fewB xs with
  | false => exact arms_out cap n hn va vc ks ha hl hlk (.inl hfew)
  | true =>
    by_cases hk : ks.length ≤ 60
    · by_cases h1 : n < 1
      · exact arms_out cap n hn va vc ks ha hl hlk (.inr (.inr (.inl h1)))
      · by_cases h2 : 60 < n
        · exact arms_out cap n hn va vc ks ha hl hlk (.inr (.inr (.inr h2)))
        · obtain ⟨m, rfl⟩ : ∃ m : Nat, n = (m : Int) := ⟨n.toNat, by omega⟩
          exact arms_main cap m va vc ks ha hl hk hkk hfew (by omega) (by omega)
    · exact arms_out cap n hn va vc ks ha hl hlk (.inr (.inl (by omega)))
end
end Go.Proofs.Ytadnmoaemnajgaa
