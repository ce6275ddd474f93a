/- The reference: Join, Fits. -/
import Derived.Test.YtemokedoeneibaaSOn
namespace Go.Proofs.Ytemokedoeneibaa
open Go.RowKit Go.Maps Go.ChangeMaps Go.MapKept
open Sp
attribute [local go_sem ↓] Go.wp_at_zero Go.wp_at_succ

section
variable {w : World}
set_option maxHeartbeats 1000000 in
set_option maxRecDepth 100000 in
theorem r_join {v : Value} {l : List Pt} {k : Int} (hv : SharesAt w v l) (hn : l.length ≤ 100) :
    Calls Try.prog 11 #[v, .int .i64 k] w fun e w' => e = .returned (.tuple #[.int .i64 (join l k).1, .int .i64 (join l k).2]) ∧ Below w.heap.size w w' := by
  have HC := Lib.hid (r_wrong (k := k) hv (by omega))
  by_cases hw : wrong l k = 0
  · rw [hw] at HC
    have hk := wrong_ok hw
    obtain ⟨k, rfl⟩ : ∃ n : Nat, k = (n : Int) := ⟨k.toNat, by omega⟩
    have hk1 : 1 ≤ k := by omega
    have hk2 : k ≤ 20 := by omega
    by_cases hlt : l.length < k
    · have HR := Lib.hid (join_few hw (by omega))
      obtain ⟨a, cap, rfl, _⟩ := hv
      clear hk hw
      go_enter Try.func11, Try.ntmps11
      go_wp2_with (go_at_call 25; refine (HC.out).mono ?_; rintro e w1 ⟨rfl, m1⟩; refine Hid.out ?_)
      refine Lib.hid ?_
      have M1 := Lib.hid m1
      go_wp2
      go_ret2
      rw [HR.out]
      exact ⟨rfl, M1.out⟩
    · have hkl : k ≤ l.length := by omega
      obtain ⟨b, off, cap, rfl, hcap, _⟩ := hv.form (by omega)
      have HO := fun w1 (h1 : Below w.heap.size w w1) => r_on (k := k) (hv.keep h1) (Good.of hw) (by omega) hk1 hk2 hn
      cases hf : fitB l k with
      | false =>
        have HR := Lib.hid (join_bad hw (by omega) (show fitB l ((k : Int).toNat) = false from hf))
        rw [hf] at HO
        have HO := Lib.hid HO
        clear hw hk hf
        go_enter Try.func11, Try.ntmps11
        go_wp2_with (go_at_call 25; refine (HC.out).mono ?_; rintro e w1 ⟨rfl, m1⟩; refine Hid.out ?_)
        refine Lib.hid ?_
        have M1 := Lib.hid m1
        clear m1 HC
        go_wp2_with (go_at_call 26; refine (HO.out _ M1.out).mono ?_; rintro e w2 ⟨rfl, m2⟩; refine Hid.out ?_)
        refine Lib.hid ?_
        have M2 := Lib.hid (M1.out.trans (m2.mono M1.out.size))
        clear m2 HO
        go_wp2
        go_ret2
        rw [HR.out]
        exact ⟨rfl, M2.out⟩
      | true =>
        have HR := Lib.hid (join_good hw (by omega) (show fitB l ((k : Int).toNat) = true from hf))
        have hov : onV l k = lag (l.take k) 0 := by unfold onV; rw [if_pos hf]
        rw [hf, hov] at HO
        have HO := Lib.hid HO
        clear hw hk hf hov
        go_enter Try.func11, Try.ntmps11
        go_wp2_with (go_at_call 25; refine (HC.out).mono ?_; rintro e w1 ⟨rfl, m1⟩; refine Hid.out ?_)
        refine Lib.hid ?_
        have M1 := Lib.hid m1
        clear m1 HC
        go_wp2_with (go_at_call 26; refine (HO.out _ M1.out).mono ?_; rintro e w2 ⟨rfl, m2⟩; refine Hid.out ?_)
        refine Lib.hid ?_
        have M2 := Lib.hid (M1.out.trans (m2.mono M1.out.size))
        clear m2 HO
        go_wp2
        go_ret2
        rw [HR.out]
        exact ⟨rfl, M2.out⟩
  · have HR := Lib.hid (join_wrong hw)
    obtain ⟨a, cap, rfl, _⟩ := hv
    have hne : (wrong l k == 0) = false := by simpa using hw
    go_enter Try.func11, Try.ntmps11
    go_wp2_with (go_at_call 25; refine (HC.out).mono ?_; rintro e w1 ⟨rfl, m1⟩; refine Hid.out ?_)
    refine Lib.hid ?_
    have M1 := Lib.hid m1
    go_wp2
    go_ret2
    rw [HR.out]
    exact ⟨rfl, M1.out⟩
set_option maxHeartbeats 1000000 in
set_option maxRecDepth 100000 in
theorem r_fits {v : Value} {l : List Pt} {k s : Int} (hv : SharesAt w v l) (hn : l.length ≤ 90) :
    Calls Try.prog 14 #[v, .int .i64 k, .int .i64 s] w fun e w' => e = .returned (.bool (fitsB l k s)) ∧ Below w.heap.size w w' := by
  have HC := Lib.hid (r_wrong (k := k) hv (by omega))
  by_cases hw : wrong l k = 0
  · rw [hw] at HC
    have hk := wrong_ok hw
    obtain ⟨k, rfl⟩ : ∃ n : Nat, k = (n : Int) := ⟨k.toNat, by omega⟩
    have hk1 : 1 ≤ k := by omega
    have hk2 : k ≤ 20 := by omega
    by_cases hs0 : s < 0
    · have HR := Lib.hid (fitsB_sec (l := l) (k := k) (s := s) (decide_eq_false (by omega)))
      clear hk hw
      go_enter Try.func14, Try.ntmps14
      go_wp2_with (go_at_call 25; refine (HC.out).mono ?_; rintro e w1 ⟨rfl, m1⟩; refine Hid.out ?_)
      refine Lib.hid ?_
      have M1 := Lib.hid m1
      go_wp2
      go_ret
      exact ⟨ret_bool HR.out.symm, M1.out⟩
    by_cases hs1 : 2147483647 ≤ s
    · have HR := Lib.hid (fitsB_sec (l := l) (k := k) (s := s) (decide_eq_false (by have := P_eq; omega)))
      clear hk hw
      go_enter Try.func14, Try.ntmps14
      go_wp2_with (go_at_call 25; refine (HC.out).mono ?_; rintro e w1 ⟨rfl, m1⟩; refine Hid.out ?_)
      refine Lib.hid ?_
      have M1 := Lib.hid m1
      go_wp2
      go_ret
      exact ⟨ret_bool HR.out.symm, M1.out⟩
    have hs : 0 ≤ s ∧ s < P := by have := P_eq; omega
    have HR := Lib.hid (fitsB_eq hw (show inF s = true from decide_eq_true hs))
    have HG := Lib.hid (Good.zero hw hs)
    have HV := Lib.hid hv
    clear hk hw hv
    go_enter Try.func14, Try.ntmps14
    go_wp2_with (go_at_call 25; refine (HC.out).mono ?_; rintro e w1 ⟨rfl, m1⟩; refine Hid.out ?_)
    refine Lib.hid ?_
    have M1 := Lib.hid m1
    obtain ⟨a', c', w2, r1, hsh, hb2⟩ := one_push (0, s) (HV.out.keep m1) (by omega)
    have HP := Lib.hid r1
    have M2 := Lib.hid (M1.out.trans (hb2.mono M1.out.size))
    have HA := Lib.hid (r_on (k := k) hsh HG.out (by simp) hk1 hk2 (by simp; omega))
    clear m1 r1 hsh hb2
    go_wp2_with (at_builtin; refine Hid.out ?_)
    refine Lib.hid ?_
    refine Lib.wpList_append_run _ rfl _ _ _ _ rfl _ _ rfl rfl _ _ HP.out ?_
    go_wp2_with (go_at_call 26; refine (HA.out).mono ?_; rintro e w3 ⟨rfl, m3⟩; refine Hid.out ?_)
    refine Lib.hid ?_
    have M3 := Lib.hid (M2.out.trans (m3.mono M2.out.size))
    clear m3
    go_wp2
    go_ret
    exact ⟨ret_bool (by rw [HR.out]; rfl), M3.out⟩
  · have HR := Lib.hid (fitsB_wrong (s := s) hw)
    obtain ⟨a, cap, rfl, _⟩ := hv
    have hne : (wrong l k == 0) = false := by simpa using hw
    go_enter Try.func14, Try.ntmps14
    go_wp2_with (go_at_call 25; refine (HC.out).mono ?_; rintro e w1 ⟨rfl, m1⟩; refine Hid.out ?_)
    refine Lib.hid ?_
    have M1 := Lib.hid m1
    go_wp2
    go_ret
    exact ⟨ret_bool HR.out.symm, M1.out⟩
end
end Go.Proofs.Ytemokedoeneibaa
