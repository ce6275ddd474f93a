/- The walk of ShareTells. -/
import Derived.Test.YtemokedoeneibaaSSmall
namespace Go.Proofs.Ytemokedoeneibaa
open Go.RowKit Go.Maps Go.ChangeMaps Go.MapKept
open Sp
attribute [local go_sem ↓] Go.wp_at_zero Go.wp_at_succ

theorem split_len (secret k n seed : Int) : (split secret k n seed).1.length ≤ 20 := by
  unfold split
  split
  · rename_i h
    have h2 := of_decide_eq_true h.2.1
    rw [sp_len]; omega
  · simp
section
variable {w : World}
set_option maxHeartbeats 2000000 in
set_option maxRecDepth 100000 in
theorem tells_walk {v : Value} {l : List Pt} (secret k n seed : Int) (hv : SharesAt w v l) :
    Calls Try.prog 3 #[.int .i64 secret, .int .i64 k, .int .i64 n, .int .i64 seed, v] w fun e w' => e = .returned (.bool true) ∧ Below w.heap.size w w' := by
  have HV := Lib.hid hv
  obtain ⟨a, cap, rfl, _⟩ := hv
  by_cases hl : 30 < l.length
  · have hl2 : (30 : Int) < (l.length : Int) := by omega
    go_enter Try.func3, Try.ntmps3
    go_wp2_with (go_at_call 7; refine (small_any _).mono ?_; rintro e w1 ⟨rfl, m1⟩; refine Hid.out ?_)
    refine Lib.hid ?_
    have M1 := Lib.hid m1
    clear m1
    go_wp2
    go_ret
    exact ⟨rfl, M1.out⟩
  · have hl2 : ¬ (30 : Int) < (l.length : Int) := by omega
    obtain ⟨r, hr⟩ : ∃ r, r = split secret k n seed := ⟨_, rfl⟩
    have hrl := split_len secret k n seed
    rw [← hr] at hrl
    have HS := fun w => g_split (w := w) secret k n seed
    have HT := fun w => r_split (w := w) secret k n seed
    rw [← hr] at HS HT
    have HS := Lib.hid HS
    have HT := Lib.hid HT
    clear hr
    obtain ⟨j, hj⟩ : ∃ j, j = join l k := ⟨_, rfl⟩
    have HJ := fun w' (hb : Below w.heap.size w w') => g_join (k := k) (HV.out.keep hb) (by omega)
    have HK := fun w' (hb : Below w.heap.size w w') => r_join (k := k) (HV.out.keep hb) (by omega)
    rw [← hj] at HJ HK
    have HJ := Lib.hid HJ
    have HK := Lib.hid HK
    clear hj
    obtain ⟨f, hf⟩ : ∃ f, f = fitsB l k secret := ⟨_, rfl⟩
    have HF := fun w' (hb : Below w.heap.size w w') => g_fits (k := k) (s := secret) (HV.out.keep hb) (by omega)
    have HG := fun w' (hb : Below w.heap.size w w') => r_fits (k := k) (s := secret) (HV.out.keep hb) (by omega)
    rw [← hf] at HF HG
    have HF := Lib.hid HF
    have HG := Lib.hid HG
    clear hf
    go_enter Try.func3, Try.ntmps3
    go_wp2_with (go_at_call 7; refine (small_any _).mono ?_; rintro e w1 ⟨rfl, m1⟩; refine Hid.out ?_)
    refine Lib.hid ?_
    have M1 := Lib.hid m1
    clear m1
    go_wp2_with (go_at_call 8; refine (HS.out _).mono ?_; rintro e w2 ⟨v2, rfl, hv2, m2⟩; refine Hid.out ?_)
    refine Lib.hid ?_
    have HV2 := Lib.hid hv2
    have M2 := Lib.hid (M1.out.trans (m2.mono M1.out.size))
    clear hv2 m2 M1
    go_wp2_with (go_at_call 9; refine (HT.out _).mono ?_; rintro e w3 ⟨v3, rfl, hv3, m3⟩; refine Hid.out ?_)
    refine Lib.hid ?_
    have HV2 := Lib.hid (HV2.out.keep m3)
    have HV3 := Lib.hid hv3
    have M3 := Lib.hid (M2.out.trans (m3.mono M2.out.size))
    clear hv3 m3 M2
    go_wp2_with (go_at_call 10; refine (HJ.out _ M3.out).mono ?_; rintro e w4 ⟨rfl, m4⟩; refine Hid.out ?_)
    refine Lib.hid ?_
    have HV2 := Lib.hid (HV2.out.keep m4)
    have HV3 := Lib.hid (HV3.out.keep m4)
    have M4 := Lib.hid (M3.out.trans (m4.mono M3.out.size))
    clear m4 M3
    go_wp2_with (go_at_call 11; refine (HK.out _ M4.out).mono ?_; rintro e w5 ⟨rfl, m5⟩; refine Hid.out ?_)
    refine Lib.hid ?_
    have HQ := r_same (HV2.out.keep m5) (HV3.out.keep m5) (by omega)
    rw [decide_eq_true rfl] at HQ
    have HQ := Lib.hid HQ
    have M5 := Lib.hid (M4.out.trans (m5.mono M4.out.size))
    clear m5 M4
    go_wp2_with (go_at_call 12; refine (HQ.out).mono ?_; rintro e w6 ⟨rfl, m6⟩; refine Hid.out ?_)
    refine Lib.hid ?_
    have M6 := Lib.hid (M5.out.trans (m6.mono M5.out.size))
    clear m6 M5 HQ
    go_wp2_with (go_at_call 13; refine (HF.out _ M6.out).mono ?_; rintro e w7 ⟨rfl, m7⟩; refine Hid.out ?_)
    refine Lib.hid ?_
    have M7 := Lib.hid (M6.out.trans (m7.mono M6.out.size))
    clear m7 M6
    go_wp2_with (go_at_call 14; refine (HG.out _ M7.out).mono ?_; rintro e w8 ⟨rfl, m8⟩; refine Hid.out ?_)
    refine Lib.hid ?_
    have M8 := Lib.hid (M7.out.trans (m8.mono M7.out.size))
    clear m8 M7
    go_wp2
    go_ret
    exact ⟨rfl, M8.out⟩
end
end Go.Proofs.Ytemokedoeneibaa
