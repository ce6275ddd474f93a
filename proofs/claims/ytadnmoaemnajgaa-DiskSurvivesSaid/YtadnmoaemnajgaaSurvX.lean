/- DiskSurvives, where the machine is up. -/
import Derived.Test.YtadnmoaemnajgaaSurvW
namespace Go.Proofs.Ytadnmoaemnajgaa
open Go.RowKit Go.Maps Go.ChangeMaps Go.MapKept
open Dp
attribute [local go_sem ↓] Go.wp_at_zero Go.wp_at_succ

theorem hp_drewN (w : World) (n : Nat) : Hp w (w.drewN n) := ⟨rfl, rfl, rfl, rfl⟩
theorem after_arg1 {w0 : World} {ds : List (Nat × Dk)} {i b : Nat} {D : Dk} {w : World} (hm : Mem w0 w ds) (hi : ds[i]? = some (b, D)) (hk : D.keep.length ≤ 60) (f : Int) (hf : I64 f) (va : Option Addr) (vc : Nat) (ks : List Int) (hl : ks.length ≤ 140737488355327) (hs : Nums w0 w (.slice va ks.length vc) ks)
    {s : List UInt8} (hr : afterL D ks f = (s, 0)) :
    Calls Try.prog 23 #[.pointer (some ⟨b, 0, none⟩), .int .i64 f, .slice va ks.length vc] w fun e w' => e = .returned (.tuple #[.string (bs s), .bool true]) ∧ Mem w0 w' ds := by
  have := after_arg w hm hi hk f hf va vc ks hl hs
  rw [hr] at this
  exact this
theorem after_new1 {w0 : World} {ds : List (Nat × Dk)} {i b : Nat} {D : Dk} {w : World} (hm : Mem w0 w ds) (hi : ds[i]? = some (b, D)) (hk : D.keep.length ≤ 60) (f : Int) (hf : I64 f) (ks : List Int) (hl : ks.length ≤ 140737488355327)
    {s : List UInt8} (hr : afterL D ks f = (s, 0)) :
    Calls Try.prog 23 #[.pointer (some ⟨b, 0, none⟩), .int .i64 f, .slice (some ⟨w.heap.size, 0, none⟩) ks.length ks.length] (w.alloc (.cells (intVs ks).toArray 3)) fun e w' => e = .returned (.tuple #[.string (bs s), .bool true]) ∧ Mem w0 w' ds := by
  have := after_new w hm hi hk f hf ks hl
  rw [hr] at this
  exact this

theorem byteAt_quiet {s : List UInt8} {n : Nat} (hs : s.length ≤ 100000) {c : UInt8} (hc : s.getD n 0 = c) (hn : n ≤ 10000000 := by omega) (w : World) (m : Nat) :
    Calls Try.prog 24 #[.string (bs s), .int .i64 (n : Int)] (w.drewN m) fun e w'' => e = .returned (.int .u8 (c.toNat : Int)) ∧ ∃ m, w'' = w.drewN m :=
  (byteAt_any s (n : Int) (w.drewN m) (by omega) ⟨by omega, by omega⟩ (by omega)).mono fun e w' ⟨he, hw⟩ => ⟨by rw [he, show ((n : Int)).toNat = n from rfl, hc], m, hw.symm⟩

/-- What the crashes leave. -/
structure Survived (t u s : List UInt8) : Prop where
  us : u.length ≤ s.length
  st : s.length ≤ t.length
  sec : ∀ n : Nat, (∀ i, 64 * n ≤ i → i < 64 * n + 64 → i < s.length → s.getD i 0 = t.getD i 0) ∨ (∀ i, 64 * n ≤ i → i < 64 * n + 64 → i < s.length → s.getD i 0 = u.getD i 0)
theorem survived {D : Dk} (h : Good D) (hd : D.down = false) (ks : List Int) {f : Int} (hf : isFile f = true) (hl : (D.now f.toNat).length ≤ 100000) :
    ∃ u s, afterL D [] f = (u, 0) ∧ afterL D [1] f = (D.now f.toNat, 0) ∧ afterL D ks f = (s, 0) ∧ Survived (D.now f.toNat) u s := by
  have h16 : f.toNat < 16 := by have := isFile_true hf; omega
  have hr : ∀ ks, ((D.crash ks).now f.toNat).length ≤ 16777216 → afterL D ks f = ((D.crash ks).now f.toNat, 0) := fun ks hl => by
    unfold afterL
    exact read_all (D := (D.crash ks).start) rfl hf (by show (((D.crash ks).now f.toNat).length : Int) ≤ _; omega)
  have l0 := crash_len h hd [] h16
  have l1 := crash_len h hd ks h16
  have e0 := crash_none hd h16
  have e1 := crash_all h hd h16
  refine ⟨D.dur f.toNat, (D.crash ks).now f.toNat, ?_, ?_, hr ks (by omega), ⟨l1.1, l1.2, fun n => ?_⟩⟩
  · rw [hr [] (by omega), e0]
  · rw [hr [1] (by rw [e1]; omega), e1]
  · exact crash_sector h hd ks h16 n

section
variable {w : World} {a : Option Addr} {xs : List Act1}
set_option maxHeartbeats 2000000 in
set_option maxRecDepth 100000 in
theorem survives_up (cap : Nat) (f : Int) (hf : I64 f) (va : Option Addr) (vc : Nat) (ks : List Int) (ha : Args w a xs) (hl : xs.length ≤ 9223372036854775807) (hk : ks.length ≤ 60) (hkk : Nums w w (.slice va ks.length vc) ks) (hfew : fewB xs = true)
    (hdn : (play new xs).down = false) (h7 : 0 ≤ f) (h8 : f ≤ 15) (hsz : (play new xs).size f ≤ 100000) :
    Calls Try.prog 4 #[.slice a xs.length cap, .int .i64 f, .slice va ks.length vc] w fun e w' => e = .returned (.bool true) ∧ Below w.heap.size w w' := by
  have HA := Lib.hid ha
  have HR := Lib.hid hfew
  have HF := Lib.hid hf
  have HK := Lib.hid hkk
  have hpl := fun (w1 : World) (b1 : Below w.heap.size w w1) => played_any a cap xs w1 ((Mem.start w).fresh b1) ha (fewB_true hfew)
  have hgd := good_play good_new xs
  have hkp := play_keep (D := new) (n := 60) (Nat.zero_le _) (fun x hx => ((fewB_true hfew).2 x hx).2.1)
  obtain ⟨D, hD⟩ : ∃ D, play new xs = D := ⟨_, rfl⟩
  rw [hD] at hpl hdn hgd hsz hkp
  have HP := Lib.hid hpl
  have hif := isFile_of (f := f) (by omega) (by omega)
  obtain ⟨t, ht⟩ : ∃ t, D.now f.toNat = t := ⟨_, rfl⟩
  have hs2 : D.size f = t.length := by unfold Dk.size; rw [hif, if_pos rfl, ht]
  rw [hs2] at hsz
  obtain ⟨u, s, r0, r1, r2, hsv⟩ := survived hgd hdn ks hif (by rw [ht]; exact hsz)
  have hrd := read_all hdn hif (n := 16777216) (by rw [ht]; omega)
  rw [ht] at r1 hsv hrd
  have HDN := Lib.hid hdn
  have HZ := Lib.hid hs2
  have R0 := Lib.hid r0
  have R1 := Lib.hid r1
  have R2 := Lib.hid r2
  have HSEC := Lib.hid hsv.sec
  have HRD := Lib.hid hrd
  have hus := hsv.us
  have hst := hsv.st
  clear ha hfew hpl hf hD hdn hkk hgd hif ht hs2 r0 r1 r2 hsv hrd
  have hzt := bs_size t
  have hzu := bs_size u
  have hzs := bs_size s
  go_enter Try.func4, Try.ntmps4
  go_wp2_with (go_at_call 8; refine (small_any _).mono ?_; rintro e w1 ⟨rfl, b1⟩; refine Hid.out ?_)
  refine Lib.hid ?_
  have B1 := Lib.hid b1
  have F1 := Lib.hid (few_at HA.out hl cap b1 HR.out)
  clear b1
  go_wp2_with (first | (go_at_call 9; refine F1.out.mono ?_; rintro e w2 ⟨rfl, rfl⟩) | (go_at_call 22; refine (HP.out _ B1.out).mono ?_; rintro e w3 ⟨b, rfl, m⟩; refine Hid.out ?_))
  refine Lib.hid ?_
  have M3 := Lib.hid (show Mem w w3 [(b, D)] from m)
  have HDW := Lib.hid (mem_down1 (i := 0) M3.out rfl HDN.out)
  have HSZ := Lib.hid (mem_size1 (i := 0) M3.out rfl f HF.out HZ.out)
  have HRE := Lib.hid (mem_read1 (i := 0) M3.out rfl f 0 16777216 HF.out I64.zero ⟨by decide, by decide⟩ HRD.out _ rfl)
  clear m B1 F1
  go_wp2_with (first | (go_at_call 14; refine HDW.out.mono ?_; rintro e w4 ⟨rfl, rfl⟩) | (go_at_call 16; refine HSZ.out.mono ?_; rintro e w5 ⟨rfl, rfl⟩) | (go_at_call 20; refine HRE.out.mono ?_; rintro e w6 ⟨rfl, m6⟩; refine Hid.out ?_))
  refine Lib.hid ?_
  have M6 := Lib.hid (show Mem w w6 [(b, D)] from m6)
  have HAF := Lib.hid (after_arg1 (i := 0) M6.out rfl hkp f HF.out _ _ [] (by decide) (Nums.nil _ _) R0.out)
  clear m6 HRE HDW HSZ M3
  go_wp2_with (go_at_call 23; refine HAF.out.mono ?_; rintro e w7 ⟨rfl, m7⟩; refine Hid.out ?_)
  refine Lib.hid ?_
  have M7 := Lib.hid (show Mem w w7 [(b, D)] from m7)
  have HAF := Lib.hid (after_new1 (i := 0) M7.out rfl hkp f HF.out [1] (by decide) R1.out)
  clear m7 M6
  go_wp2_with (go_at_call 23; refine HAF.out.mono ?_; rintro e w8 ⟨rfl, m8⟩; refine Hid.out ?_)
  refine Lib.hid ?_
  have M8 := Lib.hid (show Mem w w8 [(b, D)] from m8)
  have HAF := Lib.hid (after_arg1 (i := 0) M8.out rfl hkp f HF.out va vc ks (by omega) (HK.out.to M8.out.below) R2.out)
  have hq := str_eq (l := t) rfl
  clear m8 M7
  go_wp2_with (go_at_call 23; refine HAF.out.mono ?_; rintro e w9 ⟨rfl, m9⟩)
  have M9 := Lib.hid (show Mem w w9 [(b, D)] from m9)
  simp only [decide_eq_false (show ¬ s.length < u.length by omega), decide_eq_false (show ¬ t.length < s.length by omega), Bool.or_self]
  have HUS := Lib.hid hus
  have HST := Lib.hid hst
  clear m9 M8 HAF hus hst
  go_loopw [17] (fun i wr => ∃ n : Nat, n ≤ 100000 ∧ i = .int .i64 (n : Int) ∧ Hid (Mem w wr [(b, D)])) (fun i _ => s.length + 1 - 64 * (intOf i).toNat)
  case atStart => exact ⟨0, Nat.zero_le _, rfl, M9⟩
  case round =>
    obtain ⟨n, hn, rfl, MN⟩ := hrel
    by_cases hlt : 64 * n < s.length
-- LOOPS
    · rcases HSEC.out n with hs | hs
      · have HS := Lib.hid hs
        have HLT := Lib.hid hlt
        clear hs
        go_wp2
        simp only [decide_eq_true (show 64 * (n : Int) < (s.length : Int) by omega)]
        clear hlt
        go_loopw [18, 19, 20] (fun p q i w2 => ∃ (k : Nat) (z : Bool), 64 * n ≤ k ∧ k ≤ 64 * n + 64 ∧ p = .bool true ∧ q = .bool z ∧ i = .int .i64 (k : Int) ∧ Hid (Mem w w2 [(b, D)])) (fun _ _ i _ => 64 * n + 65 - (intOf i).toNat)
        case atStart => exact ⟨64 * n, true, Nat.le_refl _, by omega, rfl, rfl, by go_num, MN⟩
        case round =>
          obtain ⟨k, z, hk1, hk2, rfl, rfl, rfl, MK⟩ := hrel
          by_cases h1 : k < 64 * n + 64
          · by_cases h2 : k < s.length
            · have hst := HST.out
              have hus := HUS.out
              have hks : k < (bs s).size := by omega
              have hkt : k < (bs t).size := by omega
              obtain ⟨cs, hcs, hcs2⟩ : ∃ c, (bs s)[k]'hks = c ∧ s.getD k 0 = c := ⟨_, bs_get _ _ hks _ (List.getElem?_eq_getElem h2), by rw [List.getD_eq_getElem?_getD, List.getElem?_eq_getElem h2]; rfl⟩
              obtain ⟨ct, hct, hct2⟩ : ∃ c, (bs t)[k]'hkt = c ∧ t.getD k 0 = c := ⟨_, bs_get _ _ hkt _ (List.getElem?_eq_getElem (by omega)), by rw [List.getD_eq_getElem?_getD, List.getElem?_eq_getElem (show k < t.length by omega)]; rfl⟩
              obtain ⟨cu, hcu⟩ : ∃ c, u.getD k 0 = c := ⟨_, rfl⟩
              have hsec := HS.out k hk1 h1 h2
              rw [hcs2, hct2] at hsec
              have hba := byteAt_quiet (s := u) (n := k) (by omega) hcu
              have HBA := Lib.hid hba
              clear hcs2 hct2 hcu hba hst hus
              subst hsec
              cases z
              · go_wp2
                go_quiet (fail)
                have MK2 := Lib.hid (MK.out.hp (hp_drewN wr nq))
                go_wp2
                generalize wr.drewN nq = wo at MK2 ⊢
                go_quiet (fail)
                go_wp2
                go_roundw
                case rel => exact ⟨k + 1, _, by omega, by omega, by simp, rfl, by go_num, Lib.hid (MK2.out.hp ⟨rfl, rfl, rfl, rfl⟩)⟩
                case measure => simp [intOf]; omega
              · go_wp2
                go_quiet (fail)
                have MK2 := Lib.hid (MK.out.hp (hp_drewN wr nq))
                go_wp2
                generalize wr.drewN nq = wo at MK2 ⊢
                go_quiet (first | (go_at_call 24; exact HBA.out _ _))
                go_wp2
                go_roundw
                case rel => exact ⟨k + 1, _, by omega, by omega, by simp, rfl, by go_num, Lib.hid (MK2.out.hp ⟨rfl, rfl, rfl, rfl⟩)⟩
                case measure => simp [intOf]; omega
            · go_wp2
              go_roundw
              case rel => exact ⟨n + 1, by have := HLT.out; have := HST.out; omega, by go_num, MK⟩
              case measure => have := HLT.out; simp [intOf]; omega
          · go_wp2
            go_roundw
            case rel => exact ⟨n + 1, by have := HLT.out; have := HST.out; omega, by go_num, MK⟩
            case measure => have := HLT.out; simp [intOf]; omega
      · have HS := Lib.hid hs
        have HLT := Lib.hid hlt
        clear hs
        go_wp2
        simp only [decide_eq_true (show 64 * (n : Int) < (s.length : Int) by omega)]
        clear hlt
        go_loopw [18, 19, 20] (fun p q i w2 => ∃ (k : Nat) (z : Bool), 64 * n ≤ k ∧ k ≤ 64 * n + 64 ∧ p = .bool z ∧ q = .bool true ∧ i = .int .i64 (k : Int) ∧ Hid (Mem w w2 [(b, D)])) (fun _ _ i _ => 64 * n + 65 - (intOf i).toNat)
        case atStart => exact ⟨64 * n, true, Nat.le_refl _, by omega, rfl, rfl, by go_num, MN⟩
        case round =>
          obtain ⟨k, z, hk1, hk2, rfl, rfl, rfl, MK⟩ := hrel
          by_cases h1 : k < 64 * n + 64
          · by_cases h2 : k < s.length
            · have hst := HST.out
              have hus := HUS.out
              have hks : k < (bs s).size := by omega
              have hkt : k < (bs t).size := by omega
              obtain ⟨cs, hcs, hcs2⟩ : ∃ c, (bs s)[k]'hks = c ∧ s.getD k 0 = c := ⟨_, bs_get _ _ hks _ (List.getElem?_eq_getElem h2), by rw [List.getD_eq_getElem?_getD, List.getElem?_eq_getElem h2]; rfl⟩
              obtain ⟨ct, hct, hct2⟩ : ∃ c, (bs t)[k]'hkt = c ∧ t.getD k 0 = c := ⟨_, bs_get _ _ hkt _ (List.getElem?_eq_getElem (by omega)), by rw [List.getD_eq_getElem?_getD, List.getElem?_eq_getElem (show k < t.length by omega)]; rfl⟩
              obtain ⟨cu, hcu⟩ : ∃ c, u.getD k 0 = c := ⟨_, rfl⟩
              have hsec := HS.out k hk1 h1 h2
              rw [hcs2, hcu] at hsec
              have hba := byteAt_quiet (s := u) (n := k) (by omega) hcu
              have HBA := Lib.hid hba
              clear hcs2 hct2 hcu hba hst hus
              subst hsec
              cases z
              · go_wp2
                go_quiet (fail)
                have MK2 := Lib.hid (MK.out.hp (hp_drewN wr nq))
                go_wp2
                generalize wr.drewN nq = wo at MK2 ⊢
                go_quiet (first | (go_at_call 24; exact HBA.out _ _))
                go_wp2
                go_roundw
                case rel => exact ⟨k + 1, _, by omega, by omega, rfl, by simp, by go_num, Lib.hid (MK2.out.hp ⟨rfl, rfl, rfl, rfl⟩)⟩
                case measure => simp [intOf]; omega
              · go_wp2
                go_quiet (fail)
                have MK2 := Lib.hid (MK.out.hp (hp_drewN wr nq))
                go_wp2
                generalize wr.drewN nq = wo at MK2 ⊢
                go_quiet (first | (go_at_call 24; exact HBA.out _ _))
                go_wp2
                go_roundw
                case rel => exact ⟨k + 1, _, by omega, by omega, rfl, by simp, by go_num, Lib.hid (MK2.out.hp ⟨rfl, rfl, rfl, rfl⟩)⟩
                case measure => simp [intOf]; omega
            · cases z
              · go_wp2
                go_roundw
                case rel => exact ⟨n + 1, by have := HLT.out; have := HST.out; omega, by go_num, MK⟩
                case measure => have := HLT.out; simp [intOf]; omega
              · go_wp2
                go_roundw
                case rel => exact ⟨n + 1, by have := HLT.out; have := HST.out; omega, by go_num, MK⟩
                case measure => have := HLT.out; simp [intOf]; omega
          · cases z
            · go_wp2
              go_roundw
              case rel => exact ⟨n + 1, by have := HLT.out; have := HST.out; omega, by go_num, MK⟩
              case measure => have := HLT.out; simp [intOf]; omega
            · go_wp2
              go_roundw
              case rel => exact ⟨n + 1, by have := HLT.out; have := HST.out; omega, by go_num, MK⟩
              case measure => have := HLT.out; simp [intOf]; omega
    · go_wp2
      go_ret
      exact ⟨rfl, MN.out.below⟩

theorem survives_walk (cap : Nat) (f : Int) (hf : I64 f) (va : Option Addr) (vc : Nat) (ks : List Int) (ha : Args w a xs) (hl : xs.length ≤ 9223372036854775807) (hlk : ks.length ≤ 9223372036854775807) (hkk : Nums w w (.slice va ks.length vc) ks) :
    Calls Try.prog 4 #[.slice a xs.length cap, .int .i64 f, .slice va ks.length vc] w fun e w' => e = .returned (.bool true) ∧ Below w.heap.size w w' := by
  cases hfew : fewB xs with
  | false => exact survives_out cap f va vc ks ha hl hlk (.inl hfew)
  | true =>
    by_cases hk : ks.length ≤ 60
    · cases hd : (play new xs).down with
      | true => exact survives_skip cap f hf va vc ks ha hl hk hfew (.inl hd)
      | false =>
        by_cases h1 : f < 0
        · exact survives_skip cap f hf va vc ks ha hl hk hfew (.inr (.inl h1))
        · by_cases h2 : 15 < f
          · exact survives_skip cap f hf va vc ks ha hl hk hfew (.inr (.inr (.inl h2)))
          · by_cases h3 : (play new xs).size f ≤ 100000
            · exact survives_up cap f hf va vc ks ha hl hk hkk hfew hd (by omega) (by omega) h3
            · exact survives_skip cap f hf va vc ks ha hl hk hfew (.inr (.inr (.inr (by omega))))
    · exact survives_out cap f va vc ks ha hl hlk (.inr (by omega))
end
end Go.Proofs.Ytadnmoaemnajgaa
