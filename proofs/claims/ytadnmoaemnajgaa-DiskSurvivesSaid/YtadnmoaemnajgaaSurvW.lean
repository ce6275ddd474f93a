/- DiskSurvives: where the machine is down, or there is no such file. -/
import Derived.Test.YtadnmoaemnajgaaReadsW
namespace Go.Proofs.Ytadnmoaemnajgaa
open Go.RowKit Go.Maps Go.ChangeMaps Go.MapKept
open Dp
attribute [local go_sem ↓] Go.wp_at_zero Go.wp_at_succ

section
variable {w : World} {a : Option Addr} {xs : List Act1}
set_option maxHeartbeats 1000000 in
set_option maxRecDepth 100000 in
theorem survives_out (cap : Nat) (f : Int) (va : Option Addr) (vc : Nat) (ks : List Int) (ha : Args w a xs) (hl : xs.length ≤ 9223372036854775807) (hk : ks.length ≤ 9223372036854775807)
    (hb : fewB xs = false ∨ 60 < ks.length) :
    Calls Try.prog 4 #[.slice a xs.length cap, .int .i64 f, .slice va ks.length vc] w fun e w' => e = .returned (.bool true) ∧ Below w.heap.size w w' := by
  have HA := Lib.hid ha
  obtain ⟨r, hr⟩ : ∃ r, fewB xs = r := ⟨_, rfl⟩
  rw [hr] at hb
  have HR := Lib.hid hr
  clear ha hr
  have hb : r = false ∨ (r = true ∧ 60 < ks.length) := by
    cases r <;> simp at hb ⊢
    exact hb
  rcases hb with h | ⟨h, h3⟩
  all_goals
    subst h
    go_enter Try.func4, Try.ntmps4
    go_wp2_with (go_at_call 8; refine (small_any _).mono ?_; rintro e w1 ⟨rfl, b1⟩; refine Hid.out ?_)
    refine Lib.hid ?_
    have B1 := Lib.hid b1
    have F1 := Lib.hid (few_at HA.out hl cap b1 HR.out)
    clear b1
    go_wp2_with (go_at_call 9; refine F1.out.mono ?_; rintro e w2 ⟨rfl, rfl⟩)
    go_ret
    exact ⟨rfl, B1.out⟩

set_option maxHeartbeats 1000000 in
set_option maxRecDepth 100000 in
theorem survives_skip (cap : Nat) (f : Int) (hf : I64 f) (va : Option Addr) (vc : Nat) (ks : List Int) (ha : Args w a xs) (hl : xs.length ≤ 9223372036854775807) (hk : ks.length ≤ 60) (hfew : fewB xs = true)
    (hb : (play new xs).down = true ∨ f < 0 ∨ 15 < f ∨ 100000 < (play new xs).size f) :
    Calls Try.prog 4 #[.slice a xs.length cap, .int .i64 f, .slice va ks.length vc] w fun e w' => e = .returned (.bool true) ∧ Below w.heap.size w w' := by
  have HA := Lib.hid ha
  have HR := Lib.hid hfew
  have f1 := hf.1
  have f2 := hf.2
  have HF := Lib.hid hf
  have hpl := fun (w1 : World) (b1 : Below w.heap.size w w1) => played_any a cap xs w1 ((Mem.start w).fresh b1) ha (fewB_true hfew)
  obtain ⟨D, hD⟩ : ∃ D, play new xs = D := ⟨_, rfl⟩
  rw [hD] at hpl hb
  have HP := Lib.hid hpl
  obtain ⟨dn, hdn⟩ : ∃ dn, D.down = dn := ⟨_, rfl⟩
  obtain ⟨z, hz⟩ : ∃ z, D.size f = z := ⟨_, rfl⟩
  rw [hdn, hz] at hb
  have HDN := Lib.hid hdn
  have HZ := Lib.hid hz
  clear ha hfew hpl hf hD hdn hz
  have hb : dn = true ∨ (dn = false ∧ f < 0) ∨ (dn = false ∧ 0 ≤ f ∧ 15 < f) ∨ (dn = false ∧ 0 ≤ f ∧ f ≤ 15 ∧ (100000 : Int) < z) := by
    cases dn with
    | true => exact .inl rfl
    | false =>
      by_cases h1 : f < 0
      · exact .inr (.inl ⟨rfl, h1⟩)
      · by_cases h2 : 15 < f
        · exact .inr (.inr (.inl ⟨rfl, by omega, h2⟩))
        · rcases hb with h | h | h | h
          · cases h
          · omega
          · omega
          · exact .inr (.inr (.inr ⟨rfl, by omega, by omega, by omega⟩))
  rcases hb with h | ⟨h, h7⟩ | ⟨h, h7, h8⟩ | ⟨h, h7, h8, h9⟩ <;> subst h
  all_goals
    go_enter Try.func4, Try.ntmps4
    go_wp2_with (go_at_call 8; refine (small_any _).mono ?_; rintro e w1 ⟨rfl, b1⟩; refine Hid.out ?_)
    refine Lib.hid ?_
    have B1 := Lib.hid b1
    have F1 := Lib.hid (few_at HA.out hl cap b1 HR.out)
    clear b1
    go_wp2_with (first | (go_at_call 9; refine F1.out.mono ?_; rintro e w2 ⟨rfl, rfl⟩) | (go_at_call 22; refine (HP.out _ B1.out).mono ?_; rintro e w3 ⟨b, rfl, m⟩; refine Hid.out ?_))
    refine Lib.hid ?_
    have M3 := Lib.hid (show Mem w w3 [(b, D)] from m)
    have HDW := Lib.hid (mem_down1 (i := 0) M3.out rfl HDN.out)
    have HSZ := Lib.hid (mem_size1 (i := 0) M3.out rfl f HF.out HZ.out)
    clear m B1 F1
    go_wp2_with (first | (go_at_call 14; refine HDW.out.mono ?_; rintro e w4 ⟨rfl, rfl⟩) | (go_at_call 16; refine HSZ.out.mono ?_; rintro e w5 ⟨rfl, rfl⟩))
    go_ret
    exact ⟨rfl, M3.out.below⟩
end
end Go.Proofs.Ytadnmoaemnajgaa
