/- The walk of NamesIdeal. -/
import Derived.Test.YtjhedlkanphlhaaNTools
namespace Go.Proofs.Ytjhedlkanphlhaa
open Go.RowKit Go.Maps Go.ChangeMaps Go.MapKept
open Np
attribute [local go_sem ↓] Go.wp_at_zero Go.wp_at_succ

set_option maxHeartbeats 8000000 in
set_option maxRecDepth 100000 in
theorem ideal_walk {w : World} {v : Value} {l : List ByteArray} (hv : TextsAt w v l) : Calls Try.prog 4 #[v] w fun e w' => e = .returned (.bool true) ∧ Below w.heap.size w w' := by
  obtain ⟨a, cap, rfl, -⟩ := hv.form
  have HL := Lib.hid hv
  clear hv
  go_enter Try.func4, Try.ntmps4
  go_wp2_with (go_at_call 7; refine (small_any _).mono ?_; rintro e w1 ⟨rfl, hb1⟩; refine Hid.out ?_)
  refine Lib.hid ?_
  have M1 := Lib.hid ((OMem.start w).fresh hb1)
  clear hb1
  go_wp2_with (go_at_call 12; refine (n_new M1.out).mono ?_; rintro e w2 ⟨b, rfl, m2⟩; refine Hid.out ?_)
  refine Lib.hid ?_
  have M2 := Lib.hid (show OMem w w2 [.names b []] from m2)
  clear m2 M1
  by_cases hf : few l 30 = true
  · have HFW := Lib.hid (show Few l 30 from of_decide_eq_true hf)
    have HF := Lib.hid (few_any _ l 30 (HL.out.keep M2.out.below) (by decide))
    rw [hf] at HF
    have hlen : l.length ≤ 30 := HFW.out.1
    have HT := Lib.hid HFW.out.text
    have MN := Lib.hid (M2.out.nil 3)
    clear hf
    go_wp2_with (go_at_call 8; refine (HF.out).mono ?_; rintro e w3 ⟨rfl, rfl⟩; refine Hid.out ?_)
    refine Lib.hid ?_
    clear HF
    go_wp2
    go_loopw [5, 6] (fun g i wr => ∃ (k : Nat) (a2 : Option Addr) (c2 : Nat), k ≤ l.length ∧ i = .int .i64 k ∧ g = .slice a2 k c2 ∧ OMem w wr [.names b (ofs [] (l.take k)), .own 3 (.slice a2 k c2) (intVs (gots l k))]) (fun g i _ => l.length - (intOf i).toNat)
    case atStart => exact ⟨0, none, 0, Nat.zero_le _, rfl, rfl, MN.out⟩
    case round =>
      obtain ⟨k, a2, c2, hk, rfl, rfl, hm⟩ := hrel
      have M := Lib.hid hm
      clear hm MN M2
      by_cases hlt : k < l.length
      · rcases step_way HT.out hlt with ⟨hp1, hp2⟩ | ⟨hp1, hp2⟩
        · have ho := step_of HT.out hlt
          have hn0 : (ofs [] (l.take k)).length ≤ l.length := by have := ofs_len [] (l.take k); simp at this; omega
          have HLEN := Lib.hid (n_len M.out (i := 0) rfl)
          have HO := Lib.hid (n_of_eq M.out (i := 0) rfl ho (by omega))
          have HLEN2 := Lib.hid (fun w1 (m : OMem w w1 [.names b (ofs [] (l.take (k + 1))), .own 3 (.slice a2 k c2) (intVs (gots l k))]) => n_len m (i := 0) rfl)
          rw [hp2] at HLEN2
          obtain ⟨_, _, h1, hlc⟩ := (HL.out.keep M.out.below).form
          simp only [Value.slice.injEq] at h1
          obtain ⟨h1, -, -⟩ := h1
          subst h1
          obtain ⟨lb, lo, hla, hck⟩ := hlc k hlt
          subst hla
          have HP1 := Lib.hid hp1
          have hgt : ¬ ((ofs [] (l.take k)).length < pos (ofs [] l) l[k]) := by omega
          have hne0 : ¬ ((pos (ofs [] l) l[k] : Int) = ((ofs [] (l.take k)).length : Int)) := by omega
          have hz0 : ¬ ((pos (ofs [] l) l[k] : Int) < 0) := by omega
          clear hlc ho hp2
          go_wp2_with (go_at_call 18; refine (HLEN.out).mono ?_; rintro e w3 ⟨rfl, rfl⟩; refine Hid.out ?_)
          refine Lib.hid ?_
          clear HLEN
          go_wp2_with (go_at_call 14; refine (HO.out).mono ?_; rintro e w4 ⟨rfl, m4⟩; refine Hid.out ?_)
          refine Lib.hid ?_
          have M4 := Lib.hid (show OMem w w4 [.names b (ofs [] (l.take (k + 1))), .own 3 (.slice a2 k c2) (intVs (gots l k))] from m4)
          clear m4 HO M hck
          go_wp2_with (go_at_call 18; refine (HLEN2.out _ M4.out).mono ?_; rintro e w5 ⟨rfl, rfl⟩; refine Hid.out ?_)
          refine Lib.hid ?_
          clear HLEN2
          have hgl0 := gots_len (l := l) (k := k) (by omega)
          obtain ⟨v3, w5, hpr, mp, a3, c3, hv3⟩ := M4.out.pushInt (i := 1) rfl (pos (ofs [] l) l[k] : Int) (by omega)
          rw [gots_snoc hlt] at mp hv3
          rw [gots_len (by omega)] at hv3
          subst hv3
          have MP := Lib.hid (show OMem w w5 [.names b (ofs [] (l.take (k + 1))), .own 3 (.slice a3 (k + 1) c3) (intVs (gots l (k + 1)))] from mp)
          have HP := Lib.hid hpr
          clear mp hpr hgl0 M4
          go_wp2_with (at_builtin; refine Hid.out ?_)
          refine Lib.hid ?_
          refine Lib.wpList_append_run _ rfl _ _ _ _ rfl _ _ rfl rfl _ _ HP.out ?_
          go_wp2
          go_loopw [9] (fun m wr => ∃ j : Nat, j ≤ k + 1 ∧ m = .int .i64 j ∧ OMem w wr [.names b (ofs [] (l.take (k + 1))), .own 3 (.slice a3 (k + 1) c3) (intVs (gots l (k + 1)))]) (fun m _ => k + 1 - (intOf m).toNat)
          case atStart => exact ⟨0, Nat.zero_le _, rfl, MP.out⟩
          case round =>
            obtain ⟨j, hj, rfl, hm⟩ := hrel
            have M := Lib.hid hm
            clear hm MP HP
            by_cases hjk : j < k + 1
            · have hjl : j < l.length := by omega
              have HTX := Lib.hid (show text (ofs [] (l.take (k + 1))) (pos (ofs [] l) l[j] : Int) = (l[j], true) from step_text HT.out (k := k + 1) (m := j) (by omega) hjk)
              have hgl := gots_len (l := l) (k := k + 1) (by omega)
              obtain ⟨_, _, h1, hgc⟩ := (M.out.ints (i := 1) rfl).form
              simp only [Value.slice.injEq] at h1
              obtain ⟨h1, -, -⟩ := h1
              subst h1
              obtain ⟨gg, go_, hga, hg⟩ := hgc j (by omega)
              subst hga
              have e1 : (gots l (k + 1))[j]'(by omega) = (pos (ofs [] l) l[j] : Int) := by
                have := gots_at (l := l) (k := k + 1) (m := j) (by omega) hjk
                rw [List.getElem?_eq_getElem (by omega)] at this
                exact Option.some.inj this
              rw [e1] at hg
              obtain ⟨_, _, h1, hlc⟩ := (HL.out.keep M.out.below).form
              simp only [Value.slice.injEq] at h1
              obtain ⟨h1, -, -⟩ := h1
              cases h1
              obtain ⟨_, _, h1, hcj⟩ := hlc j hjl
              cases h1
              obtain ⟨_, _, h2, hck⟩ := hlc k hlt
              cases h2
              have hpl := pos_lt HT.out hjl
              have hpl2 := pos_lt HT.out hlt
              have hpn : (ofs [] l).length ≤ l.length := by have := ofs_len [] l; simpa using this
              clear hgc hlc e1 hgl
              by_cases he : l[j] = l[k]
              · have HE := Lib.hid (show (pos (ofs [] l) l[j] : Int) = (pos (ofs [] l) l[k] : Int) by rw [he])
                have HX := Lib.hid (n_text_b (i := 0) M.out rfl (show text _ (pos (ofs [] l) l[k] : Int) = (l[k], true) by rw [← HE.out, ← he]; exact HTX.out) ⟨by omega, by omega⟩ (ofs_text (by intro s hs; cases hs) _))
                rw [HE.out] at hg
                rw [he] at hcj
                clear he hpl hpl2 hpn HTX HE
                go_wp2_with (go_at_call 16; refine (HX.out).mono ?_; rintro e w8 ⟨rfl, hb8⟩; refine Hid.out ?_)
                refine Lib.hid ?_
                have hg8 := below_cell hg hb8
                have hcj8 := below_cell hcj hb8
                have hck8 := below_cell hck hb8
                have M8 := Lib.hid (M.out.fresh hb8)
                clear hg hcj hck hb8 M HX
                go_wp2
                go_quiet (fail)
                go_wp2
                go_roundw
                case rel => exact ⟨j + 1, by omega, by go_num, M8.out.fresh ⟨rfl, rfl, rfl, Nat.le_refl _, fun _ _ => rfl⟩⟩
                case measure => simp [intOf]; omega
              · have HX := Lib.hid (n_text_b (i := 0) M.out rfl HTX.out ⟨by omega, by omega⟩ (ofs_text (by intro s hs; cases hs) _))
                have hne := step_ne HT.out hjl hlt he
                have hq := str_ne he
                clear he hpl hpl2 hpn HTX
                go_wp2_with (go_at_call 16; refine (HX.out).mono ?_; rintro e w8 ⟨rfl, hb8⟩; refine Hid.out ?_)
                refine Lib.hid ?_
                have hg8 := below_cell hg hb8
                have hcj8 := below_cell hcj hb8
                have hck8 := below_cell hck hb8
                have M8 := Lib.hid (M.out.fresh hb8)
                clear hg hcj hck hb8 M HX
                go_wp2
                go_quiet (fail)
                go_wp2
                go_roundw
                case rel => exact ⟨j + 1, by omega, by go_num, M8.out.fresh ⟨rfl, rfl, rfl, Nat.le_refl _, fun _ _ => rfl⟩⟩
                case measure => simp [intOf]; omega
            · obtain rfl : j = k + 1 := by omega
              go_wp2
              go_roundw
              case rel => exact ⟨k + 1, a3, c3, by omega, by go_num, rfl, M.out⟩
              case measure => simp [intOf]; omega
        · have ho := step_of HT.out hlt
          rw [hp1] at ho
          have hn0 : (ofs [] (l.take k)).length ≤ l.length := by have := ofs_len [] (l.take k); simp at this; omega
          have HLEN := Lib.hid (n_len M.out (i := 0) rfl)
          have HO := Lib.hid (n_of_eq M.out (i := 0) rfl ho (by omega))
          have HLEN2 := Lib.hid (fun w1 (m : OMem w w1 [.names b (ofs [] (l.take (k + 1))), .own 3 (.slice a2 k c2) (intVs (gots l k))]) => n_len m (i := 0) rfl)
          rw [hp2] at HLEN2
          obtain ⟨_, _, h1, hlc⟩ := (HL.out.keep M.out.below).form
          simp only [Value.slice.injEq] at h1
          obtain ⟨h1, -, -⟩ := h1
          subst h1
          obtain ⟨lb, lo, hla, hck⟩ := hlc k hlt
          subst hla
          have HP1 := Lib.hid hp1
          clear hp1
          have hz0 : ¬ (((ofs [] (l.take k)).length : Int) < 0) := by omega
          clear hlc ho hp2
          go_wp2_with (go_at_call 18; refine (HLEN.out).mono ?_; rintro e w3 ⟨rfl, rfl⟩; refine Hid.out ?_)
          refine Lib.hid ?_
          clear HLEN
          go_wp2_with (go_at_call 14; refine (HO.out).mono ?_; rintro e w4 ⟨rfl, m4⟩; refine Hid.out ?_)
          refine Lib.hid ?_
          have M4 := Lib.hid (show OMem w w4 [.names b (ofs [] (l.take (k + 1))), .own 3 (.slice a2 k c2) (intVs (gots l k))] from m4)
          clear m4 HO M hck
          go_wp2_with (go_at_call 18; refine (HLEN2.out _ M4.out).mono ?_; rintro e w5 ⟨rfl, rfl⟩; refine Hid.out ?_)
          refine Lib.hid ?_
          clear HLEN2
          have hgl0 := gots_len (l := l) (k := k) (by omega)
          obtain ⟨v3, w5, hpr, mp, a3, c3, hv3⟩ := M4.out.pushInt (i := 1) rfl ((ofs [] (l.take k)).length : Int) (by omega)
          rw [← HP1.out] at mp hv3
          rw [gots_snoc hlt] at mp hv3
          rw [gots_len (by omega)] at hv3
          subst hv3
          have MP := Lib.hid (show OMem w w5 [.names b (ofs [] (l.take (k + 1))), .own 3 (.slice a3 (k + 1) c3) (intVs (gots l (k + 1)))] from mp)
          have HP := Lib.hid hpr
          clear mp hpr hgl0 M4
          go_wp2_with (at_builtin; refine Hid.out ?_)
          refine Lib.hid ?_
          refine Lib.wpList_append_run _ rfl _ _ _ _ rfl _ _ rfl rfl _ _ HP.out ?_
          go_wp2
          go_loopw [9] (fun m wr => ∃ j : Nat, j ≤ k + 1 ∧ m = .int .i64 j ∧ OMem w wr [.names b (ofs [] (l.take (k + 1))), .own 3 (.slice a3 (k + 1) c3) (intVs (gots l (k + 1)))]) (fun m _ => k + 1 - (intOf m).toNat)
          case atStart => exact ⟨0, Nat.zero_le _, rfl, MP.out⟩
          case round =>
            obtain ⟨j, hj, rfl, hm⟩ := hrel
            have M := Lib.hid hm
            clear hm MP HP
            by_cases hjk : j < k + 1
            · have hjl : j < l.length := by omega
              have HTX := Lib.hid (show text (ofs [] (l.take (k + 1))) (pos (ofs [] l) l[j] : Int) = (l[j], true) from step_text HT.out (k := k + 1) (m := j) (by omega) hjk)
              have hgl := gots_len (l := l) (k := k + 1) (by omega)
              obtain ⟨_, _, h1, hgc⟩ := (M.out.ints (i := 1) rfl).form
              simp only [Value.slice.injEq] at h1
              obtain ⟨h1, -, -⟩ := h1
              subst h1
              obtain ⟨gg, go_, hga, hg⟩ := hgc j (by omega)
              subst hga
              have e1 : (gots l (k + 1))[j]'(by omega) = (pos (ofs [] l) l[j] : Int) := by
                have := gots_at (l := l) (k := k + 1) (m := j) (by omega) hjk
                rw [List.getElem?_eq_getElem (by omega)] at this
                exact Option.some.inj this
              rw [e1] at hg
              obtain ⟨_, _, h1, hlc⟩ := (HL.out.keep M.out.below).form
              simp only [Value.slice.injEq] at h1
              obtain ⟨h1, -, -⟩ := h1
              cases h1
              obtain ⟨_, _, h1, hcj⟩ := hlc j hjl
              cases h1
              obtain ⟨_, _, h2, hck⟩ := hlc k hlt
              cases h2
              have hpl := pos_lt HT.out hjl
              have hpl2 := pos_lt HT.out hlt
              have hpn : (ofs [] l).length ≤ l.length := by have := ofs_len [] l; simpa using this
              clear hgc hlc e1 hgl
              by_cases he : l[j] = l[k]
              · have HE := Lib.hid (show (pos (ofs [] l) l[j] : Int) = ((ofs [] (l.take k)).length : Int) by rw [he, HP1.out])
                have HX := Lib.hid (n_text_b (i := 0) M.out rfl (show text _ ((ofs [] (l.take k)).length : Int) = (l[k], true) by rw [← HE.out, ← he]; exact HTX.out) ⟨by omega, by omega⟩ (ofs_text (by intro s hs; cases hs) _))
                rw [HE.out] at hg
                rw [he] at hcj
                clear he hpl hpl2 hpn HTX HE
                go_wp2_with (go_at_call 16; refine (HX.out).mono ?_; rintro e w8 ⟨rfl, hb8⟩; refine Hid.out ?_)
                refine Lib.hid ?_
                have hg8 := below_cell hg hb8
                have hcj8 := below_cell hcj hb8
                have hck8 := below_cell hck hb8
                have M8 := Lib.hid (M.out.fresh hb8)
                clear hg hcj hck hb8 M HX
                go_wp2
                go_quiet (fail)
                go_wp2
                go_roundw
                case rel => exact ⟨j + 1, by omega, by go_num, M8.out.fresh ⟨rfl, rfl, rfl, Nat.le_refl _, fun _ _ => rfl⟩⟩
                case measure => simp [intOf]; omega
              · have HX := Lib.hid (n_text_b (i := 0) M.out rfl HTX.out ⟨by omega, by omega⟩ (ofs_text (by intro s hs; cases hs) _))
                have hne := step_ne HT.out hjl hlt he
                rw [HP1.out] at hne
                have hq := str_ne he
                clear he hpl hpl2 hpn HTX
                go_wp2_with (go_at_call 16; refine (HX.out).mono ?_; rintro e w8 ⟨rfl, hb8⟩; refine Hid.out ?_)
                refine Lib.hid ?_
                have hg8 := below_cell hg hb8
                have hcj8 := below_cell hcj hb8
                have hck8 := below_cell hck hb8
                have M8 := Lib.hid (M.out.fresh hb8)
                clear hg hcj hck hb8 M HX
                go_wp2
                go_quiet (fail)
                go_wp2
                go_roundw
                case rel => exact ⟨j + 1, by omega, by go_num, M8.out.fresh ⟨rfl, rfl, rfl, Nat.le_refl _, fun _ _ => rfl⟩⟩
                case measure => simp [intOf]; omega
            · obtain rfl : j = k + 1 := by omega
              go_wp2
              go_roundw
              case rel => exact ⟨k + 1, a3, c3, by omega, by go_num, rfl, M.out⟩
              case measure => simp [intOf]; omega
      · obtain rfl : k = l.length := by omega
        have hm := M.out
        rw [List.take_length] at hm
        have MA := Lib.hid hm
        clear hm M
        have hpn : (ofs [] l).length ≤ l.length := by have := ofs_len [] l; simpa using this
        have HTT := Lib.hid (ofs_text (T := []) (by intro s hs; cases hs) l)
        go_wp2_with (go_at_call 21; refine (n_all MA.out (i := 0) rfl HTT.out (by omega)).mono ?_; rintro e w3 ⟨va, rfl, m3⟩; refine Hid.out ?_)
        refine Lib.hid ?_
        have M3 := Lib.hid (show OMem w w3 [.names b (ofs [] l), .own 3 (.slice a2 l.length c2) (intVs (gots l l.length)), .own 9 va (strVs (ofs [] l))] from m3)
        clear m3 MA
        obtain ⟨a3, c3, hva, -⟩ := (M3.out.texts (i := 2) rfl).form
        subst hva
        have HLEN := Lib.hid (n_len M3.out (i := 0) rfl)
        go_wp2_with (go_at_call 18; refine (HLEN.out).mono ?_; rintro e w4 ⟨rfl, rfl⟩; refine Hid.out ?_)
        refine Lib.hid ?_
        clear HLEN
        go_wp2
        go_loopw [13] (fun i wr => ∃ k : Nat, k ≤ l.length ∧ i = .int .i64 k ∧ OMem w wr [.names b (ofs [] l), .own 3 (.slice a2 l.length c2) (intVs (gots l l.length)), .own 9 (.slice a3 (ofs [] l).length c3) (strVs (ofs [] l))]) (fun i _ => l.length - (intOf i).toNat)
        case atStart => exact ⟨0, Nat.zero_le _, rfl, M3.out⟩
        case round =>
          obtain ⟨k, hk, rfl, hm⟩ := hrel
          have M := Lib.hid hm
          clear hm M3
          by_cases hlt : k < l.length
          · obtain ⟨_, _, h1, hgc⟩ := (M.out.ints (i := 1) rfl).form
            have hgl := gots_len (l := l) (k := l.length) (Nat.le_refl _)
            simp only [Value.slice.injEq] at h1
            obtain ⟨h1, -, -⟩ := h1
            subst h1
            obtain ⟨gg, go_, hga, hg⟩ := hgc k (by omega)
            subst hga
            have e1 : (gots l l.length)[k]'(by omega) = (pos (ofs [] l) l[k] : Int) := by
              have := gots_at (l := l) (k := l.length) (m := k) (by omega) hlt
              rw [List.getElem?_eq_getElem (by omega)] at this
              exact Option.some.inj this
            rw [e1] at hg
            have hpl := pos_lt HT.out hlt
            obtain ⟨_, _, h1, hac⟩ := (M.out.texts (i := 2) rfl).form
            simp only [Value.slice.injEq] at h1
            obtain ⟨h1, -, -⟩ := h1
            subst h1
            obtain ⟨ag, ao, haa, ha⟩ := hac _ hpl
            subst haa
            rw [pos_at HT.out hlt] at ha
            obtain ⟨_, _, h1, hlc⟩ := (HL.out.keep M.out.below).form
            simp only [Value.slice.injEq] at h1
            obtain ⟨h1, -, -⟩ := h1
            subst h1
            obtain ⟨lb, lo, hla, hck⟩ := hlc k hlt
            subst hla
            have K1 : (intVs (gots l l.length))[k]? = some (.int .i64 (pos (ofs [] l) l[k] : Int)) := by
              unfold intVs; rw [List.getElem?_map, gots_at (Nat.le_refl _) hlt]; rfl
            have K2 : (strVs (ofs [] l))[pos (ofs [] l) l[k]]? = some (.string l[k]) := by
              unfold strVs; rw [List.getElem?_map, pos_get (pos_mem.2 hpl)]; rfl
            have K3 : (strVs l)[k]? = some (.string l[k]) := by
              unfold strVs; rw [List.getElem?_map, List.getElem?_eq_getElem hlt]; rfl
            have SS := Lib.hid (fun w5 (m5 : OMem w w5 [.names b (ofs [] l), .own 3 (.slice (some ⟨gg, go_, none⟩) l.length c2) (intVs (gots l l.length)), .own 9 (.slice (some ⟨ag, ao, none⟩) (ofs [] l).length c3) (strVs (ofs [] l))]) => (And.intro (RowAt.at_ (m5.row_at (i := 1) rfl) K1) (And.intro (RowAt.at_ (m5.row_at (i := 2) rfl) K2) (RowAt.at_ (HL.out.keep m5.below) K3))))
            have S0 : wr.drew.cell? ⟨gg, go_ + k, none⟩ = some (.int .i64 (pos (ofs [] l) l[k] : Int)) ∧ wr.drew.cell? ⟨ag, ao + pos (ofs [] l) l[k], none⟩ = some (.string l[k]) ∧ wr.drew.cell? ⟨lb, lo + k, none⟩ = some (.string l[k]) := SS.out _ M.out.drew
            have HO := Lib.hid (n_of_eq M.out.drew (i := 0) rfl (whole_of HT.out hlt) (by omega))
            clear hgc hac hlc e1 hgl hg ha hck K1 K2 K3
            go_wp2
            refine region_till 24 (fun w' => w'.cell? ⟨gg, go_ + k, none⟩ = some (.int .i64 (pos (ofs [] l) l[k] : Int)) ∧ w'.cell? ⟨ag, ao + pos (ofs [] l) l[k], none⟩ = some (.string l[k]) ∧ w'.cell? ⟨lb, lo + k, none⟩ = some (.string l[k])) (by kernel_rfl) ?_
            refine till_take 0 8 false (v := ?v0) (by kernel_rfl) (by kernel_rfl) (by kernel_rfl) (by kernel_rfl) (by kernel_rfl) (fun _ _ _ h => h) ?hw0 S0 ?hy0 ?rest0
            case hw0 => (simp only [List.getElem?_toArray, List.getElem?_cons_zero, Option.elim]; rfl)
            case hy0 => (simp only [List.getElem?_toArray, List.getElem?_cons_zero, Option.elim]; intro wx _; go_simp; with_reducible rfl)
            simp only [dstOf, List.getElem?_toArray, List.getElem?_cons_zero, Option.bind, Act.put, List.setIfInBounds_toArray, List.set_cons_zero, List.set_cons_succ]
            refine till_take 1 8 false (v := ?v1) (by kernel_rfl) (by kernel_rfl) (by kernel_rfl) (by kernel_rfl) (by kernel_rfl) (fun _ _ _ h => h) ?hw1 S0 ?hy1 ?rest1
            case hw1 => (simp only [List.getElem?_toArray, List.getElem?_cons_zero, List.getElem?_cons_succ, Option.elim]; rfl)
            case hy1 => (simp only [List.getElem?_toArray, List.getElem?_cons_zero, List.getElem?_cons_succ, Option.elim]; intro wx _; go_simp; with_reducible rfl)
            simp only [dstOf, List.getElem?_toArray, List.getElem?_cons_zero, List.getElem?_cons_succ, Option.bind, Act.put, List.setIfInBounds_toArray, List.set_cons_zero, List.set_cons_succ]
            refine till_take 2 8 false (v := ?v2) (by kernel_rfl) (by kernel_rfl) (by kernel_rfl) (by kernel_rfl) (by kernel_rfl) (fun _ _ _ h => h) ?hw2 S0 ?hy2 ?rest2
            case hw2 => (simp only [List.getElem?_toArray, List.getElem?_cons_zero, List.getElem?_cons_succ, Option.elim]; rfl)
            case hy2 => (simp only [List.getElem?_toArray, List.getElem?_cons_zero, List.getElem?_cons_succ, Option.elim]; intro wx _; go_simp; with_reducible rfl)
            simp only [dstOf, List.getElem?_toArray, List.getElem?_cons_zero, List.getElem?_cons_succ, Option.bind, Act.put, List.setIfInBounds_toArray, List.set_cons_zero, List.set_cons_succ]
            refine till_take 3 8 false (v := ?v3) (by kernel_rfl) (by kernel_rfl) (by kernel_rfl) (by kernel_rfl) (by kernel_rfl) (fun _ _ _ h => h) ?hw3 S0 ?hy3 ?rest3
            case hw3 => (simp only [List.getElem?_toArray, List.getElem?_cons_zero, List.getElem?_cons_succ, Option.elim]; rfl)
            case hy3 => (simp only [List.getElem?_toArray, List.getElem?_cons_zero, List.getElem?_cons_succ, Option.elim]; intro wx _; go_simp; with_reducible rfl)
            simp only [dstOf, List.getElem?_toArray, List.getElem?_cons_zero, List.getElem?_cons_succ, Option.bind, Act.put, List.setIfInBounds_toArray, List.set_cons_zero, List.set_cons_succ]
            refine till_take 4 8 true (v := ?v4) (by kernel_rfl) (by kernel_rfl) (by kernel_rfl) (by kernel_rfl) (by kernel_rfl) (fun _ _ _ h => h) ?hw4 S0 ?hy4 ?rest4
            case hw4 => (simp only [List.getElem?_toArray, List.getElem?_cons_zero, List.getElem?_cons_succ, Option.elim]; rfl)
            case hy4 => (simp only [List.getElem?_toArray, List.getElem?_cons_zero, List.getElem?_cons_succ, Option.elim]; intro wx hx; have x0 := (hx trivial).1; have x1 := (hx trivial).2.1; have x2 := (hx trivial).2.2; go_simp; with_reducible rfl)
            simp only [dstOf, List.getElem?_toArray, List.getElem?_cons_zero, List.getElem?_cons_succ, Option.bind, Act.put, List.setIfInBounds_toArray, List.set_cons_zero, List.set_cons_succ]
            refine till_take 5 8 false (v := ?v5) (by kernel_rfl) (by kernel_rfl) (by kernel_rfl) (by kernel_rfl) (by kernel_rfl) (fun _ _ _ h => h) ?hw5 S0 ?hy5 ?rest5
            case hw5 => (simp only [List.getElem?_toArray, List.getElem?_cons_zero, List.getElem?_cons_succ, Option.elim]; rfl)
            case hy5 => (simp only [List.getElem?_toArray, List.getElem?_cons_zero, List.getElem?_cons_succ, Option.elim]; intro wx _; go_simp; with_reducible rfl)
            simp only [dstOf, List.getElem?_toArray, List.getElem?_cons_zero, List.getElem?_cons_succ, Option.bind, Act.put, List.setIfInBounds_toArray, List.set_cons_zero, List.set_cons_succ]
            refine till_take 6 8 true (v := ?v6) (by kernel_rfl) (by kernel_rfl) (by kernel_rfl) (by kernel_rfl) (by kernel_rfl) (fun _ _ _ h => h) ?hw6 S0 ?hy6 ?rest6
            case hw6 => (simp only [List.getElem?_toArray, List.getElem?_cons_zero, List.getElem?_cons_succ, Option.elim]; rfl)
            case hy6 => (simp only [List.getElem?_toArray, List.getElem?_cons_zero, List.getElem?_cons_succ, Option.elim]; intro wx hx; have x0 := (hx trivial).1; have x1 := (hx trivial).2.1; have x2 := (hx trivial).2.2; go_simp; with_reducible rfl)
            simp only [dstOf, List.getElem?_toArray, List.getElem?_cons_zero, List.getElem?_cons_succ, Option.bind, Act.put, List.setIfInBounds_toArray, List.set_cons_zero, List.set_cons_succ]
            refine till_take 7 8 false (v := ?v7) (by kernel_rfl) (by kernel_rfl) (by kernel_rfl) (by kernel_rfl) (by kernel_rfl) (fun _ _ _ h => h) ?hw7 S0 ?hy7 ?rest7
            case hw7 => (simp only [List.getElem?_toArray, List.getElem?_cons_zero, List.getElem?_cons_succ, Option.elim]; rfl)
            case hy7 => (simp only [List.getElem?_toArray, List.getElem?_cons_zero, List.getElem?_cons_succ, Option.elim]; intro wx _; go_simp; with_reducible rfl)
            simp only [dstOf, List.getElem?_toArray, List.getElem?_cons_zero, List.getElem?_cons_succ, Option.bind, Act.put, List.setIfInBounds_toArray, List.set_cons_zero, List.set_cons_succ]
            refine till_take 8 8 false (v := ?v8) (by kernel_rfl) (by kernel_rfl) (by kernel_rfl) (by kernel_rfl) (by kernel_rfl) (fun _ _ _ h => h) ?hw8 S0 ?hy8 ?rest8
            case hw8 => (simp only [List.getElem?_toArray, List.getElem?_cons_zero, List.getElem?_cons_succ, Option.elim]; rfl)
            case hy8 => (simp only [List.getElem?_toArray, List.getElem?_cons_zero, List.getElem?_cons_succ, Option.elim]; intro wx _; go_simp; with_reducible rfl)
            simp only [dstOf, List.getElem?_toArray, List.getElem?_cons_zero, List.getElem?_cons_succ, Option.bind, Act.put, List.setIfInBounds_toArray, List.set_cons_zero, List.set_cons_succ]
            refine till_take 9 8 false (v := ?v9) (by kernel_rfl) (by kernel_rfl) (by kernel_rfl) (by kernel_rfl) (by kernel_rfl) (fun _ _ _ h => h) ?hw9 S0 ?hy9 ?rest9
            case hw9 => (simp only [List.getElem?_toArray, List.getElem?_cons_zero, List.getElem?_cons_succ, Option.elim]; rfl)
            case hy9 => (simp only [List.getElem?_toArray, List.getElem?_cons_zero, List.getElem?_cons_succ, Option.elim]; intro wx _; go_simp; with_reducible rfl)
            simp only [dstOf, List.getElem?_toArray, List.getElem?_cons_zero, List.getElem?_cons_succ, Option.bind, Act.put, List.setIfInBounds_toArray, List.set_cons_zero, List.set_cons_succ]
            refine till_take 10 8 true (v := ?v10) (by kernel_rfl) (by kernel_rfl) (by kernel_rfl) (by kernel_rfl) (by kernel_rfl) (fun _ _ _ h => h) ?hw10 S0 ?hy10 ?rest10
            case hw10 => (simp only [List.getElem?_toArray, List.getElem?_cons_zero, List.getElem?_cons_succ, Option.elim]; rfl)
            case hy10 => (simp only [List.getElem?_toArray, List.getElem?_cons_zero, List.getElem?_cons_succ, Option.elim]; intro wx hx; have x0 := (hx trivial).1; have x1 := (hx trivial).2.1; have x2 := (hx trivial).2.2; go_simp; with_reducible rfl)
            simp only [dstOf, List.getElem?_toArray, List.getElem?_cons_zero, List.getElem?_cons_succ, Option.bind, Act.put, List.setIfInBounds_toArray, List.set_cons_zero, List.set_cons_succ]
            refine till_take 11 8 false (v := ?v11) (by kernel_rfl) (by kernel_rfl) (by kernel_rfl) (by kernel_rfl) (by kernel_rfl) (fun _ _ _ h => h) ?hw11 S0 ?hy11 ?rest11
            case hw11 => (simp only [List.getElem?_toArray, List.getElem?_cons_zero, List.getElem?_cons_succ, Option.elim]; rfl)
            case hy11 => (simp only [List.getElem?_toArray, List.getElem?_cons_zero, List.getElem?_cons_succ, Option.elim]; intro wx _; go_simp; with_reducible rfl)
            simp only [dstOf, List.getElem?_toArray, List.getElem?_cons_zero, List.getElem?_cons_succ, Option.bind, Act.put, List.setIfInBounds_toArray, List.set_cons_zero, List.set_cons_succ]
            refine till_take 12 8 false (v := ?v12) (by kernel_rfl) (by kernel_rfl) (by kernel_rfl) (by kernel_rfl) (by kernel_rfl) (fun _ _ _ h => h) ?hw12 S0 ?hy12 ?rest12
            case hw12 => (simp only [List.getElem?_toArray, List.getElem?_cons_zero, List.getElem?_cons_succ, Option.elim]; rfl)
            case hy12 => (simp only [List.getElem?_toArray, List.getElem?_cons_zero, List.getElem?_cons_succ, Option.elim]; intro wx _; go_simp; with_reducible rfl)
            simp only [dstOf, List.getElem?_toArray, List.getElem?_cons_zero, List.getElem?_cons_succ, Option.bind, Act.put, List.setIfInBounds_toArray, List.set_cons_zero, List.set_cons_succ]
            refine till_take 13 8 false (v := ?v13) (by kernel_rfl) (by kernel_rfl) (by kernel_rfl) (by kernel_rfl) (by kernel_rfl) (fun _ _ _ h => h) ?hw13 S0 ?hy13 ?rest13
            case hw13 => (simp only [List.getElem?_toArray, List.getElem?_cons_zero, List.getElem?_cons_succ, Option.elim]; rfl)
            case hy13 => (simp only [List.getElem?_toArray, List.getElem?_cons_zero, List.getElem?_cons_succ, Option.elim]; intro wx _; go_simp; with_reducible rfl)
            simp only [dstOf, List.getElem?_toArray, List.getElem?_cons_zero, List.getElem?_cons_succ, Option.bind, Act.put, List.setIfInBounds_toArray, List.set_cons_zero, List.set_cons_succ]
            refine till_take 14 8 false (v := ?v14) (by kernel_rfl) (by kernel_rfl) (by kernel_rfl) (by kernel_rfl) (by kernel_rfl) (fun _ _ _ h => h) ?hw14 S0 ?hy14 ?rest14
            case hw14 => (simp only [List.getElem?_toArray, List.getElem?_cons_zero, List.getElem?_cons_succ, Option.elim]; rfl)
            case hy14 => (simp only [List.getElem?_toArray, List.getElem?_cons_zero, List.getElem?_cons_succ, Option.elim]; intro wx _; go_simp; with_reducible rfl)
            simp only [dstOf, List.getElem?_toArray, List.getElem?_cons_zero, List.getElem?_cons_succ, Option.bind, Act.put, List.setIfInBounds_toArray, List.set_cons_zero, List.set_cons_succ]
            refine till_take 15 8 false (v := ?v15) (by kernel_rfl) (by kernel_rfl) (by kernel_rfl) (by kernel_rfl) (by kernel_rfl) (fun _ _ _ h => h) ?hw15 S0 ?hy15 ?rest15
            case hw15 => (simp only [List.getElem?_toArray, List.getElem?_cons_zero, List.getElem?_cons_succ, Option.elim]; rfl)
            case hy15 => (simp only [List.getElem?_toArray, List.getElem?_cons_zero, List.getElem?_cons_succ, Option.elim]; intro wx _; go_simp; with_reducible rfl)
            simp only [dstOf, List.getElem?_toArray, List.getElem?_cons_zero, List.getElem?_cons_succ, Option.bind, Act.put, List.setIfInBounds_toArray, List.set_cons_zero, List.set_cons_succ]
            refine till_take 16 8 false (v := ?v16) (by kernel_rfl) (by kernel_rfl) (by kernel_rfl) (by kernel_rfl) (by kernel_rfl) (fun _ _ _ h => h) ?hw16 S0 ?hy16 ?rest16
            case hw16 => (simp only [List.getElem?_toArray, List.getElem?_cons_zero, List.getElem?_cons_succ, Option.elim]; rfl)
            case hy16 => (simp only [List.getElem?_toArray, List.getElem?_cons_zero, List.getElem?_cons_succ, Option.elim]; intro wx _; go_simp; with_reducible rfl)
            simp only [dstOf, List.getElem?_toArray, List.getElem?_cons_zero, List.getElem?_cons_succ, Option.bind, Act.put, List.setIfInBounds_toArray, List.set_cons_zero, List.set_cons_succ]
            refine till_take 17 8 true (v := ?v17) (by kernel_rfl) (by kernel_rfl) (by kernel_rfl) (by kernel_rfl) (by kernel_rfl) (fun _ _ _ h => h) ?hw17 S0 ?hy17 ?rest17
            case hw17 => (simp only [List.getElem?_toArray, List.getElem?_cons_zero, List.getElem?_cons_succ, Option.elim]; rfl)
            case hy17 => (simp only [List.getElem?_toArray, List.getElem?_cons_zero, List.getElem?_cons_succ, Option.elim]; intro wx hx; have x0 := (hx trivial).1; have x1 := (hx trivial).2.1; have x2 := (hx trivial).2.2; go_simp; with_reducible rfl)
            simp only [dstOf, List.getElem?_toArray, List.getElem?_cons_zero, List.getElem?_cons_succ, Option.bind, Act.put, List.setIfInBounds_toArray, List.set_cons_zero, List.set_cons_succ]
            refine till_take 19 8 false (v := ?v19) (by kernel_rfl) (by kernel_rfl) (by kernel_rfl) (by kernel_rfl) (by kernel_rfl) (fun _ _ _ h => h) ?hw19 S0 ?hy19 ?rest19
            case hw19 => (simp only [List.getElem?_toArray, List.getElem?_cons_zero, List.getElem?_cons_succ, Option.elim]; rfl)
            case hy19 => (simp only [List.getElem?_toArray, List.getElem?_cons_zero, List.getElem?_cons_succ, Option.elim]; intro wx _; go_simp; with_reducible rfl)
            simp only [dstOf, List.getElem?_toArray, List.getElem?_cons_zero, List.getElem?_cons_succ, Option.bind, Act.put, List.setIfInBounds_toArray, List.set_cons_zero, List.set_cons_succ]
            refine till_take 20 8 false (v := ?v20) (by kernel_rfl) (by kernel_rfl) (by kernel_rfl) (by kernel_rfl) (by kernel_rfl) (fun _ _ _ h => h) ?hw20 S0 ?hy20 ?rest20
            case hw20 => (simp only [List.getElem?_toArray, List.getElem?_cons_zero, List.getElem?_cons_succ, Option.elim]; rfl)
            case hy20 => (simp only [List.getElem?_toArray, List.getElem?_cons_zero, List.getElem?_cons_succ, Option.elim]; intro wx _; go_simp; with_reducible rfl)
            simp only [dstOf, List.getElem?_toArray, List.getElem?_cons_zero, List.getElem?_cons_succ, Option.bind, Act.put, List.setIfInBounds_toArray, List.set_cons_zero, List.set_cons_succ]
            refine till_take 21 8 false (v := ?v21) (by kernel_rfl) (by kernel_rfl) (by kernel_rfl) (by kernel_rfl) (by kernel_rfl) (fun _ _ _ h => h) ?hw21 S0 ?hy21 ?rest21
            case hw21 => (simp only [List.getElem?_toArray, List.getElem?_cons_zero, List.getElem?_cons_succ, Option.elim]; rfl)
            case hy21 => (simp only [List.getElem?_toArray, List.getElem?_cons_zero, List.getElem?_cons_succ, Option.elim]; intro wx _; go_simp; with_reducible rfl)
            simp only [dstOf, List.getElem?_toArray, List.getElem?_cons_zero, List.getElem?_cons_succ, Option.bind, Act.put, List.setIfInBounds_toArray, List.set_cons_zero, List.set_cons_succ]
            refine till_take 22 8 true (v := ?v22) (by kernel_rfl) (by kernel_rfl) (by kernel_rfl) (by kernel_rfl) (by kernel_rfl) (fun _ _ _ h => h) ?hw22 S0 ?hy22 ?rest22
            case hw22 => (simp only [List.getElem?_toArray, List.getElem?_cons_zero, List.getElem?_cons_succ, Option.elim]; rfl)
            case hy22 => (simp only [List.getElem?_toArray, List.getElem?_cons_zero, List.getElem?_cons_succ, Option.elim]; intro wx hx; have x0 := (hx trivial).1; have x1 := (hx trivial).2.1; have x2 := (hx trivial).2.2; go_simp; with_reducible rfl)
            simp only [dstOf, List.getElem?_toArray, List.getElem?_cons_zero, List.getElem?_cons_succ, Option.bind, Act.put, List.setIfInBounds_toArray, List.set_cons_zero, List.set_cons_succ]
            refine till_before 18 (by kernel_rfl) (fun K hK => ?_)
            simp only [List.getElem?_toArray, List.getElem?_cons_zero, List.getElem?_cons_succ, Option.elim]
            rw [if_pos (by rfl)]
            go_simp
            go_at_call 14
            refine (HO.out).mono ?_
            rintro e w5 ⟨rfl, m5⟩
            refine hK.out _ _ (SS.out _ m5) ?_
            clear hK K
            try simp only [Act.put, List.setIfInBounds_toArray, List.set_cons_zero, List.set_cons_succ]
            have M5 := Lib.hid m5
            clear m5 HO S0
            refine till_before 23 (by kernel_rfl) (fun K hK => ?_)
            simp only [List.getElem?_toArray, List.getElem?_cons_zero, List.getElem?_cons_succ, Option.elim]
            rw [if_pos (by rfl)]
            go_simp
            refine hK.out _ _ (SS.out _ M5.out) ?_
            clear hK K
            try simp only [Act.put, List.setIfInBounds_toArray, List.set_cons_zero, List.set_cons_succ]
            refine till_step 24 (by kernel_rfl) (by kernel_rfl) (fun K hK => ?_)
            simp only [List.getElem?_toArray, List.getElem?_cons_zero, List.getElem?_cons_succ, Option.elim]
            rw [if_pos (by rfl)]
            go_simp
            refine hK.out _ _ ?_
            clear hK K
            try simp only [Act.put, List.setIfInBounds_toArray, List.set_cons_zero, List.set_cons_succ]
            refine till_end (by kernel_rfl) ?_ _
            go_wp2
            go_roundw
            case rel => exact ⟨k + 1, by omega, by go_num, M5.out⟩
            case measure => simp [intOf]; omega
          · obtain rfl : k = l.length := by omega
            go_wp2
            go_ret
            exact ⟨rfl, M.out.below⟩
  · have HF := Lib.hid (few_any _ l 30 (HL.out.keep M2.out.below) (by decide))
    have hff : few l 30 = false := by simpa using hf
    rw [hff] at HF
    clear hf hff
    go_wp2_with (go_at_call 8; refine (HF.out).mono ?_; rintro e w3 ⟨rfl, rfl⟩; refine Hid.out ?_)
    refine Lib.hid ?_
    clear HF
    go_wp2
    go_ret
    exact ⟨rfl, M2.out.below⟩
end Go.Proofs.Ytjhedlkanphlhaa
