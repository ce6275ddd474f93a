/- same. -/
import Derived.Test.YtadnmoaemnajgaaReadsW
namespace Go.Proofs.Ytadnmoaemnajgaa
open Go.RowKit Go.Maps Go.ChangeMaps Go.MapKept
open Dp
attribute [local go_sem ↓] Go.wp_at_zero Go.wp_at_succ

theorem hp_drawn (w : World) (n : Nat) : Hp w (w.drewN n) := ⟨rfl, rfl, rfl, rfl⟩
theorem size_quiet {w0 w : World} {ds : List (Nat × Dk)} {i b : Nat} {D : Dk} (h : Mem w0 w ds) (hi : ds[i]? = some (b, D)) (f : Int) (hf : I64 f) {r : Nat} (hr : D.size f = r) (n : Nat) :
    Calls Try.prog 16 #[.pointer (some ⟨b, 0, none⟩), .int .i64 f] (w.drewN n) fun e w'' => e = .returned (.int .i64 (r : Int)) ∧ ∃ m, w'' = w.drewN m :=
  (mem_size1 (h.hp (hp_drawn w n)) hi f hf hr).mono fun _ _ ⟨he, hw⟩ => ⟨he, n, hw.symm⟩

set_option maxHeartbeats 1000000 in
set_option maxRecDepth 100000 in
theorem same_any {w0 : World} {ds : List (Nat × Dk)} {i j b c : Nat} {D C : Dk} (w : World) (h : Mem w0 w ds) (hi : ds[i]? = some (b, D)) (hj : ds[j]? = some (c, C)) (hd : D.down = C.down) (hn : D.now = C.now)
    {a : Option Addr} {xs : List Act1} (ha : Args w0 a xs) (hl : xs.length ≤ 9223372036854775807) (cap : Nat) :
    Calls Try.prog 28 #[.pointer (some ⟨b, 0, none⟩), .pointer (some ⟨c, 0, none⟩), .slice a xs.length cap] w fun e w' => e = .returned (.bool true) ∧ Mem w0 w' ds := by
  have M0 := Lib.hid h
  have HI := Lib.hid hi
  have HJ := Lib.hid hj
  have HA := Lib.hid ha
  have hrd : ∀ f a n, C.read f a n = D.read f a n := fun f a n => by unfold Dk.read; rw [hd, hn]
  have hsz : ∀ f, C.size f = D.size f := fun f => by unfold Dk.size; rw [hn]
  have HRD := Lib.hid hrd
  have HSZ := Lib.hid hsz
  obtain ⟨dn, hdn⟩ : ∃ dn, D.down = dn := ⟨_, rfl⟩
  have HD1 := Lib.hid (mem_down1 h hi hdn)
  have HD2 := Lib.hid (mem_down1 h hj (hd.symm.trans hdn))
  have hdd : (dn != dn) = false := by cases dn <;> rfl
  clear h hi hj ha hd hn hrd hsz hdn
  go_enter Try.func28, Try.ntmps28
  go_wp2_with (first | (go_at_call_of 14 (Value.pointer (some ⟨b, 0, none⟩)); refine HD1.out.mono ?_; rintro e w1 ⟨rfl, rfl⟩) | (go_at_call_of 14 (Value.pointer (some ⟨c, 0, none⟩)); refine HD2.out.mono ?_; rintro e w2 ⟨rfl, rfl⟩))
  clear hdd
  go_loopw [7] (fun i wr => ∃ k : Nat, k ≤ xs.length ∧ i = .int .i64 (k : Int) ∧ Hid (Mem w0 wr ds)) (fun i _ => xs.length - (intOf i).toNat)
  case atStart => exact ⟨0, Nat.zero_le _, rfl, M0⟩
  case round =>
    obtain ⟨k, hk, rfl, MK⟩ := hrel
    by_cases hlt : k < xs.length
    · obtain ⟨x, hx⟩ : ∃ x, xs[k]? = some x := ⟨_, List.getElem?_eq_getElem hlt⟩
      obtain ⟨bb, off, xa, xc, rfl, hcc, _, ho⟩ := HA.out.get MK.out.below hx
      have c1 := hcc.c1
      obtain ⟨s, e, hr⟩ : ∃ s e, D.read x.F 0 16777216 = (s, e) := ⟨_, _, rfl⟩
      obtain ⟨z, hz⟩ : ∃ z, D.size x.F = z := ⟨_, rfl⟩
      have HX := Lib.hid hx
      have HO := Lib.hid ho.F
      have HR1 := Lib.hid (mem_read1 MK.out HI.out x.F 0 16777216 ho.F I64.zero ⟨by decide, by decide⟩ hr _ rfl)
      have HR := Lib.hid ((HRD.out x.F 0 16777216).trans hr)
      have HZ := Lib.hid hz
      clear hx hcc ho hr hz
      go_wp2_with (go_at_call 20; refine HR1.out.mono ?_; rintro e1 w1 ⟨rfl, m1⟩; refine Hid.out ?_)
      refine Lib.hid ?_
      obtain ⟨_, _, _, _, hae, hcc, _, _⟩ := HA.out.get m1.below HX.out
      cases hae
      have d1 := hcc.c1
      have HR2 := Lib.hid (mem_read1 m1 HJ.out x.F 0 16777216 HO.out I64.zero ⟨by decide, by decide⟩ HR.out _ rfl)
      clear m1 hcc c1
      go_wp2_with (go_at_call 20; refine HR2.out.mono ?_; rintro e2 w2 ⟨rfl, m2⟩; refine Hid.out ?_)
      refine Lib.hid ?_
      obtain ⟨_, _, _, _, hae, hcc, _, _⟩ := HA.out.get m2.below HX.out
      cases hae
      have e1 := hcc.c1
      have M2 := Lib.hid m2
      have S1 := Lib.hid (size_quiet m2 HI.out x.F HO.out HZ.out)
      have S2 := Lib.hid (size_quiet m2 HJ.out x.F HO.out ((HSZ.out x.F).trans HZ.out))
      have hq := str_eq (l := s) rfl
      have hq2 : (e != e) = false := by simp
      clear m2 hcc d1
      go_wp2
      go_quiet (first | (go_at_call_of 16 (Value.pointer (some ⟨b, 0, none⟩)); exact S1.out _) | (go_at_call_of 16 (Value.pointer (some ⟨c, 0, none⟩)); exact S2.out _))
      go_wp2
      go_roundw
      case rel => exact ⟨k + 1, by omega, by go_num, Lib.hid (M2.out.hp ⟨rfl, rfl, rfl, rfl⟩)⟩
      case measure => simp [intOf]; omega
    · go_wp2
      go_ret
      exact ⟨rfl, MK.out⟩
end Go.Proofs.Ytadnmoaemnajgaa
