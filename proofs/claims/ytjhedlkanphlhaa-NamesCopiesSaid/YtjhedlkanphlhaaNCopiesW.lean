/- The walk of NamesCopies. -/
import Derived.Test.YtjhedlkanphlhaaNTools
namespace Go.Proofs.Ytjhedlkanphlhaa
open Go.RowKit Go.Maps Go.ChangeMaps Go.MapKept
open Np
attribute [local go_sem ↓] Go.wp_at_zero Go.wp_at_succ

set_option maxHeartbeats 8000000 in
set_option maxRecDepth 100000 in
theorem copies_walk {w : World} {v u t : Value} {l x y : List ByteArray} (hv : TextsAt w v l) (hu : TextsAt w u x) (ht : TextsAt w t y) : Calls Try.prog 6 #[v, u, t] w fun e w' => e = .returned (.bool true) ∧ Below w.heap.size w w' := by
  obtain ⟨a, cap, rfl, -⟩ := hv.form
  obtain ⟨a', cap', rfl, -⟩ := hu.form
  obtain ⟨a'', cap'', rfl, -⟩ := ht.form
  have HL := Lib.hid hv
  have HU := Lib.hid hu
  have HY := Lib.hid ht
  clear hv hu ht
  go_enter Try.func6, Try.ntmps6
  go_wp2_with (go_at_call 7; refine (small_any _).mono ?_; rintro e w1 ⟨rfl, hb1⟩; refine Hid.out ?_)
  refine Lib.hid ?_
  have M1 := Lib.hid ((OMem.start w).fresh hb1)
  clear hb1
  go_wp2_with (go_at_call 12; refine (n_new M1.out).mono ?_; rintro e w2 ⟨b, rfl, m2⟩; refine Hid.out ?_)
  refine Lib.hid ?_
  have M2 := Lib.hid (show OMem w w2 [.names b []] from m2)
  clear m2 M1
  have HF1 := Lib.hid (few_any _ l 24 (HL.out.keep M2.out.below) (by decide))
  have HF2 := Lib.hid (few_any _ x 12 (HU.out.keep M2.out.below) (by decide))
  have HF3 := Lib.hid (few_any _ y 12 (HY.out.keep M2.out.below) (by decide))
  by_cases hf : few l 24 = true
  · have HFW := Lib.hid (show Few l 24 from of_decide_eq_true hf)
    rw [hf] at HF1
    clear hf
    go_wp2_with (go_at_call 8; refine (HF1.out).mono ?_; rintro e w3 ⟨rfl, rfl⟩; refine Hid.out ?_)
    refine Lib.hid ?_
    clear HF1
    by_cases hg : few x 12 = true
    · have HGW := Lib.hid (show Few x 12 from of_decide_eq_true hg)
      rw [hg] at HF2
      clear hg
      go_wp2_with (go_at_call 8; refine (HF2.out).mono ?_; rintro e w3 ⟨rfl, rfl⟩; refine Hid.out ?_)
      refine Lib.hid ?_
      clear HF2
      by_cases hh : few y 12 = true
      · have HHW := Lib.hid (show Few y 12 from of_decide_eq_true hh)
        rw [hh] at HF3
        clear hh
        go_wp2_with (go_at_call 8; refine (HF3.out).mono ?_; rintro e w3 ⟨rfl, rfl⟩; refine Hid.out ?_)
        refine Lib.hid ?_
        clear HF3
        have hlen : l.length ≤ 24 := HFW.out.1
        have hxl : x.length ≤ 12 := HGW.out.1
        have hyl : y.length ≤ 12 := HHW.out.1
        go_wp2
        go_loopw [9] (fun i wr => ∃ k : Nat, k ≤ l.length ∧ i = .int .i64 k ∧ OMem w wr [.names b (ofs [] (l.take k))]) (fun i _ => l.length - (intOf i).toNat)
        case atStart => exact ⟨0, Nat.zero_le _, rfl, M2.out⟩
        case round =>
          obtain ⟨k, hk, rfl, hm⟩ := hrel
          have M := Lib.hid hm
          clear hm M2
          by_cases hlt : k < l.length
          · have hl1 : (ofs [] (l.take k)).length ≤ k := by have := ofs_len [] (l.take k); simp at this; omega
            obtain ⟨z, hz⟩ : ∃ z, of (ofs [] (l.take k)) l[k] = (z, ofs [] (l.take (k + 1))) := ⟨_, Prod.ext rfl (ofs_take _ _ k hlt).symm⟩
            have HO := Lib.hid (n_of_eq M.out (i := 0) rfl hz (by omega))
            clear hz hl1
            obtain ⟨_, _, h1, hac⟩ := (HL.out.keep M.out.below).form
            simp only [Value.slice.injEq] at h1
            obtain ⟨h1, -, -⟩ := h1
            subst h1
            obtain ⟨lb, lo, h1, hck⟩ := hac k hlt
            subst h1
            clear hac
            go_wp2_with (go_at_call 14; refine (HO.out).mono ?_; rintro e w4 ⟨rfl, m4⟩; refine Hid.out ?_)
            refine Lib.hid ?_
            have M4 := Lib.hid (show OMem w w4 [.names b (ofs [] (l.take (k + 1)))] from m4)
            clear m4 HO M hck
            go_wp2
            go_roundw
            case rel => exact ⟨k + 1, by omega, by go_num, M4.out⟩
            case measure => simp [intOf]; omega
          · obtain rfl : k = l.length := by omega
            have hm := M.out
            rw [List.take_length] at hm
            have hpn : (ofs [] l).length ≤ l.length := by have := ofs_len [] l; simpa using this
            have HTT := Lib.hid (ofs_text (T := []) (by intro s hs; cases hs) l)
            generalize ofs [] l = T at hm hpn HTT
            have MA := Lib.hid hm
            clear hm M
            have HTX := Lib.hid (ofs_text HTT.out x)
            have HTY := Lib.hid (ofs_text HTT.out y)
            have hpx : (ofs T x).length ≤ T.length + x.length := ofs_len T x
            have hpy : (ofs T y).length ≤ T.length + y.length := ofs_len T y
            go_wp2_with (go_at_call 21; refine (n_all MA.out (i := 0) rfl HTT.out (by omega)).mono ?_; rintro e w3 ⟨va, rfl, m3⟩; refine Hid.out ?_)
            refine Lib.hid ?_
            have M3 := Lib.hid (show OMem w w3 [.names b T, .own 9 va (strVs T)] from m3)
            clear m3 MA
            go_wp2_with (go_at_call 23; refine (n_copy M3.out (i := 0) rfl (by omega)).mono ?_; rintro e w4 ⟨b2, rfl, m4⟩; refine Hid.out ?_)
            refine Lib.hid ?_
            have M4 := Lib.hid (show OMem w w4 [.names b T, .own 9 va (strVs T), .names b2 T] from m4)
            clear m4 M3
            go_wp2
            go_loopw [12] (fun i wr => ∃ k : Nat, k ≤ x.length ∧ i = .int .i64 k ∧ OMem w wr [.names b (ofs T (x.take k)), .own 9 va (strVs T), .names b2 T]) (fun i _ => x.length - (intOf i).toNat)
            case atStart => exact ⟨0, Nat.zero_le _, rfl, M4.out⟩
            case round =>
              obtain ⟨k, hk, rfl, hm⟩ := hrel
              have M := Lib.hid hm
              clear hm M4
              by_cases hlt : k < x.length
              · have hl1 : (ofs T (x.take k)).length ≤ T.length + k := by have := ofs_len T (x.take k); simp at this; omega
                obtain ⟨z, hz⟩ : ∃ z, of (ofs T (x.take k)) x[k] = (z, ofs T (x.take (k + 1))) := ⟨_, Prod.ext rfl (ofs_take _ _ k hlt).symm⟩
                have HO := Lib.hid (n_of_eq M.out (i := 0) rfl hz (by omega))
                clear hz hl1
                obtain ⟨_, _, h1, hac⟩ := (HU.out.keep M.out.below).form
                simp only [Value.slice.injEq] at h1
                obtain ⟨h1, -, -⟩ := h1
                subst h1
                obtain ⟨lb, lo, h1, hck⟩ := hac k hlt
                subst h1
                clear hac
                go_wp2_with (go_at_call 14; refine (HO.out).mono ?_; rintro e w4 ⟨rfl, m4⟩; refine Hid.out ?_)
                refine Lib.hid ?_
                have M4 := Lib.hid (show OMem w w4 [.names b (ofs T (x.take (k + 1))), .own 9 va (strVs T), .names b2 T] from m4)
                clear m4 HO M hck
                go_wp2
                go_roundw
                case rel => exact ⟨k + 1, by omega, by go_num, M4.out⟩
                case measure => simp [intOf]; omega
              · obtain rfl : k = x.length := by omega
                have hm := M.out
                rw [List.take_length] at hm
                have MA := Lib.hid hm
                clear hm M
                go_wp2_with (go_at_call 21; refine (n_all MA.out (i := 2) rfl HTT.out (by omega)).mono ?_; rintro e w3 ⟨vb, rfl, m3⟩; refine Hid.out ?_)
                refine Lib.hid ?_
                have M3 := Lib.hid (show OMem w w3 [.names b (ofs T x), .own 9 va (strVs T), .names b2 T, .own 9 vb (strVs T)] from m3)
                clear m3 MA
                have HS := strings_any vb va _ _ (M3.out.texts (i := 3) rfl) (M3.out.texts (i := 1) rfl) (by omega)
                rw [decide_eq_true rfl] at HS
                have HS := Lib.hid HS
                go_wp2_with (go_at_call 20; refine (HS.out).mono ?_; rintro e w5 ⟨rfl, hb5⟩; refine Hid.out ?_)
                refine Lib.hid ?_
                have M5 := Lib.hid (show OMem w w5 [.names b (ofs T x), .own 9 va (strVs T), .names b2 T] from (M3.out.fresh hb5).take 3)
                clear hb5 M3 HS
                go_wp2_with (go_at_call 21; refine (n_all M5.out (i := 0) rfl HTX.out (by omega)).mono ?_; rintro e w6 ⟨vc, rfl, m6⟩; refine Hid.out ?_)
                refine Lib.hid ?_
                have M6 := Lib.hid (show OMem w w6 [.names b (ofs T x), .own 9 va (strVs T), .names b2 T, .own 9 vc (strVs (ofs T x))] from m6)
                clear m6 M5
                go_wp2
                go_loopw [14] (fun i wr => ∃ k : Nat, k ≤ y.length ∧ i = .int .i64 k ∧ OMem w wr [.names b (ofs T x), .own 9 va (strVs T), .names b2 (ofs T (y.take k)), .own 9 vc (strVs (ofs T x))]) (fun i _ => y.length - (intOf i).toNat)
                case atStart => exact ⟨0, Nat.zero_le _, rfl, M6.out⟩
                case round =>
                  obtain ⟨k, hk, rfl, hm⟩ := hrel
                  have M := Lib.hid hm
                  clear hm M6
                  by_cases hlt : k < y.length
                  · have hl1 : (ofs T (y.take k)).length ≤ T.length + k := by have := ofs_len T (y.take k); simp at this; omega
                    obtain ⟨z, hz⟩ : ∃ z, of (ofs T (y.take k)) y[k] = (z, ofs T (y.take (k + 1))) := ⟨_, Prod.ext rfl (ofs_take _ _ k hlt).symm⟩
                    have HO := Lib.hid (n_of_eq M.out (i := 2) rfl hz (by omega))
                    clear hz hl1
                    obtain ⟨_, _, h1, hac⟩ := (HY.out.keep M.out.below).form
                    simp only [Value.slice.injEq] at h1
                    obtain ⟨h1, -, -⟩ := h1
                    subst h1
                    obtain ⟨lb, lo, h1, hck⟩ := hac k hlt
                    subst h1
                    clear hac
                    go_wp2_with (go_at_call 14; refine (HO.out).mono ?_; rintro e w4 ⟨rfl, m4⟩; refine Hid.out ?_)
                    refine Lib.hid ?_
                    have M4 := Lib.hid (show OMem w w4 [.names b (ofs T x), .own 9 va (strVs T), .names b2 (ofs T (y.take (k + 1))), .own 9 vc (strVs (ofs T x))] from m4)
                    clear m4 HO M hck
                    go_wp2
                    go_roundw
                    case rel => exact ⟨k + 1, by omega, by go_num, M4.out⟩
                    case measure => simp [intOf]; omega
                  · obtain rfl : k = y.length := by omega
                    have hm := M.out
                    rw [List.take_length] at hm
                    have MA := Lib.hid hm
                    clear hm M
                    go_wp2_with (go_at_call 21; refine (n_all MA.out (i := 0) rfl HTX.out (by omega)).mono ?_; rintro e w3 ⟨vd, rfl, m3⟩; refine Hid.out ?_)
                    refine Lib.hid ?_
                    have M3 := Lib.hid (show OMem w w3 [.names b (ofs T x), .own 9 va (strVs T), .names b2 (ofs T y), .own 9 vc (strVs (ofs T x)), .own 9 vd (strVs (ofs T x))] from m3)
                    clear m3 MA
                    have HS := strings_any vd vc _ _ (M3.out.texts (i := 4) rfl) (M3.out.texts (i := 3) rfl) (by omega)
                    rw [decide_eq_true rfl] at HS
                    have HS := Lib.hid HS
                    go_wp2_with (go_at_call 20; refine (HS.out).mono ?_; rintro e w5 ⟨rfl, hb5⟩; refine Hid.out ?_)
                    refine Lib.hid ?_
                    have M5 := Lib.hid (show OMem w w5 [.names b (ofs T x), .own 9 va (strVs T), .names b2 (ofs T y), .own 9 vc (strVs (ofs T x))] from (M3.out.fresh hb5).take 4)
                    clear hb5 M3 HS
                    go_wp2_with (go_at_call 10; refine (long_any _ _).mono ?_; rintro e w6 ⟨rfl, hb6⟩; refine Hid.out ?_)
                    refine Lib.hid ?_
                    have M6 := Lib.hid (M5.out.fresh hb6)
                    clear hb6 M5
                    go_wp2_with (go_at_call 14; refine (n_of_eq M6.out (i := 0) rfl (of_long _) (by omega)).mono ?_; rintro e w7 ⟨rfl, m7⟩; refine Hid.out ?_)
                    refine Lib.hid ?_
                    have M7 := Lib.hid (show OMem w w7 [.names b (ofs T x), .own 9 va (strVs T), .names b2 (ofs T y), .own 9 vc (strVs (ofs T x))] from m7)
                    clear m7 M6
                    go_wp2_with (go_at_call 21; refine (n_all M7.out (i := 0) rfl HTX.out (by omega)).mono ?_; rintro e w8 ⟨ve, rfl, m8⟩; refine Hid.out ?_)
                    refine Lib.hid ?_
                    have M8 := Lib.hid (show OMem w w8 [.names b (ofs T x), .own 9 va (strVs T), .names b2 (ofs T y), .own 9 vc (strVs (ofs T x)), .own 9 ve (strVs (ofs T x))] from m8)
                    clear m8 M7
                    have HS := strings_any ve vc _ _ (M8.out.texts (i := 4) rfl) (M8.out.texts (i := 3) rfl) (by omega)
                    rw [decide_eq_true rfl] at HS
                    have HS := Lib.hid HS
                    go_wp2_with (go_at_call 20; refine (HS.out).mono ?_; rintro e w9 ⟨rfl, hb9⟩; refine Hid.out ?_)
                    refine Lib.hid ?_
                    have M9 := Lib.hid (M8.out.fresh hb9)
                    clear hb9 M8 HS
                    go_wp2
                    go_ret
                    exact ⟨rfl, M9.out.below⟩
      · have hhh : few y 12 = false := by simpa using hh
        rw [hhh] at HF3
        clear hh hhh
        go_wp2_with (go_at_call 8; refine (HF3.out).mono ?_; rintro e w3 ⟨rfl, rfl⟩; refine Hid.out ?_)
        refine Lib.hid ?_
        clear HF3
        go_wp2
        go_ret
        exact ⟨rfl, M2.out.below⟩
    · have hgg : few x 12 = false := by simpa using hg
      rw [hgg] at HF2
      clear hg hgg
      go_wp2_with (go_at_call 8; refine (HF2.out).mono ?_; rintro e w3 ⟨rfl, rfl⟩; refine Hid.out ?_)
      refine Lib.hid ?_
      clear HF2
      go_wp2
      go_ret
      exact ⟨rfl, M2.out.below⟩
  · have hff : few l 24 = false := by simpa using hf
    rw [hff] at HF1
    clear hf hff
    go_wp2_with (go_at_call 8; refine (HF1.out).mono ?_; rintro e w3 ⟨rfl, rfl⟩; refine Hid.out ?_)
    refine Lib.hid ?_
    clear HF1
    go_wp2
    go_ret
    exact ⟨rfl, M2.out.below⟩
end Go.Proofs.Ytjhedlkanphlhaa
