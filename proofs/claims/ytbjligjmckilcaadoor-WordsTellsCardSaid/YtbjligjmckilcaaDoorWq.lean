/- The reference of layer 10. -/
import Derived.Test.YtbjligjmckilcaaDoorTxs
import Derived.OwnWalk
namespace Go.Proofs.YtbjligjmckilcaaDoor
open Go.RowKit Go.Maps Go.ChangeMaps Go.MapKept
open Wd
attribute [local go_sem ↓] Go.wp_at_zero Go.wp_at_succ
theorem low_cases (n : Nat) (hl : n < 256) : (n < 48 ∧ lowN n = 0) ∨ (48 ≤ n ∧ n ≤ 57 ∧ lowN n = n) ∨ (58 ≤ n ∧ n < 65 ∧ lowN n = 0) ∨ (65 ≤ n ∧ n ≤ 90 ∧ lowN n = n + 32) ∨ (91 ≤ n ∧ n < 97 ∧ lowN n = 0) ∨ (97 ≤ n ∧ n ≤ 122 ∧ lowN n = n) ∨ (123 ≤ n ∧ n < 256 ∧ lowN n = 0) := by
  unfold lowN
  repeat' split
  all_goals omega
theorem ret_u8 {a b : Int} (h : a = b) : Ending.returned (.int .u8 a) = .returned (.int .u8 b) := by rw [h]
section
variable {w : World}
set_option maxHeartbeats 1000000 in
set_option maxRecDepth 100000 in
theorem q_letter {c : UInt8} : Calls Tryd.prog 27 #[.int .u8 (c.toNat : Int)] w fun e w' => e = .returned (.int .u8 ((low c).toNat : Int)) ∧ w = w' := by
  have hl := c.toNat_lt
  rw [low_toNat]
  generalize c.toNat = n at hl ⊢
  rcases low_cases n hl with ⟨h1, hr⟩ | ⟨h1, h2, hr⟩ | ⟨h1, h2, hr⟩ | ⟨h1, h2, hr⟩ | ⟨h1, h2, hr⟩ | ⟨h1, h2, hr⟩ | ⟨h1, h2, hr⟩
  all_goals
    have HR := Lib.hid (show ((lowN n : Nat) : Int) = _ from congrArg Nat.cast hr)
    clear hr
  · have h1' : ((n : Nat) : Int) < 256 := by omega
    skip
    go_enter Tryd.func27, Tryd.ntmps27
    go_wp2
    go_ret
    exact ⟨ret_u8 HR.out.symm, rfl⟩
  · have h1' : ((n : Nat) : Int) < 256 := by omega
    skip
    go_enter Tryd.func27, Tryd.ntmps27
    go_wp2
    go_ret
    exact ⟨ret_u8 HR.out.symm, rfl⟩
  · have h1' : ((n : Nat) : Int) < 256 := by omega
    skip
    go_enter Tryd.func27, Tryd.ntmps27
    go_wp2
    go_ret
    exact ⟨ret_u8 HR.out.symm, rfl⟩
  · have h1' : ((n : Nat) : Int) < 256 := by omega
    skip
    go_enter Tryd.func27, Tryd.ntmps27
    go_wp2
    go_ret
    exact ⟨ret_u8 HR.out.symm, rfl⟩
  · have h1' : ((n : Nat) : Int) < 256 := by omega
    skip
    go_enter Tryd.func27, Tryd.ntmps27
    go_wp2
    go_ret
    exact ⟨ret_u8 HR.out.symm, rfl⟩
  · have h1' : ((n : Nat) : Int) < 256 := by omega
    skip
    go_enter Tryd.func27, Tryd.ntmps27
    go_wp2
    go_ret
    exact ⟨ret_u8 HR.out.symm, rfl⟩
  · have h1' : ((n : Nat) : Int) < 256 := by omega
    skip
    go_enter Tryd.func27, Tryd.ntmps27
    go_wp2
    go_ret
    exact ⟨ret_u8 HR.out.symm, rfl⟩
set_option maxHeartbeats 1000000 in
set_option maxRecDepth 100000 in
theorem q_line {s : S} {m : Int} (hs : s.length ≤ 100000) : Calls Tryd.prog 15 #[.string (bs s), .int .i64 m] w fun e w' => e = .returned (.string (bs (line s m))) ∧ w = w' := by
  obtain ⟨n, hn, hl, hc, hm, he⟩ := line_is s m
  have HL := Lib.hid (show (bs s).extract 0 n = bs (line s m) by rw [bs_extract, hl]; rfl)
  have HC := Lib.hid hc
  have hz := bs_size s
  clear hl hc
  go_enter Tryd.func15, Tryd.ntmps15
  go_wp2
  go_loopw [5] (fun i wr => ∃ k : Nat, k ≤ n ∧ i = .int .i64 k ∧ w = wr) (fun i _ => n - (RowKit.intOf i).toNat)
  case atStart => exact ⟨0, Nat.zero_le _, rfl, rfl⟩
  case round =>
    obtain ⟨k, hk, rfl, rfl⟩ := hrel
    by_cases hlt : k < n
    · obtain ⟨c, hcc⟩ : ∃ c, s[k]? = some c := ⟨_, List.getElem?_eq_getElem (by omega)⟩
      have hmk : (k : Int) < m := by omega
      have hkl : k < s.length := by omega
      have hd : ((c.toNat : Int) != 10) = true := by
        have h10 := HC.out c (by rw [List.mem_take_iff_getElem]; exact ⟨k, by omega, (List.getElem?_eq_some_iff.1 hcc).2⟩)
        simp only [bne_iff_ne]
        intro q
        exact h10 (byte_eq (by rw [show (10 : UInt8).toNat = 10 from rfl]; omega))
      obtain ⟨hbz, hb⟩ := bs_get hcc
      clear hcc
      go_wp2
      go_roundw
      case rel => exact ⟨k + 1, by omega, by go_num, by trivial⟩
      case measure => simp [intOf]; omega
    · obtain rfl : k = n := by omega
      by_cases h1 : k = s.length
      · have h1' : ¬ (k : Int) < (s.length : Int) := by omega
        rw [h1] at HL
        go_wp2
        go_ret
        exact ⟨ret_string HL.out, rfl⟩
      · have h1' : (k : Int) < (s.length : Int) := by omega
        by_cases h2 : m ≤ (k : Int)
        · go_wp2
          go_ret
          exact ⟨ret_string HL.out, rfl⟩
        · have h10 : s[k]? = some 10 := by
            rcases he with q | q | q
            · exact (h1 q).elim
            · exact q
            · exact (h2 q).elim
          have hd : (((10 : UInt8).toNat : Int) != 10) = false := by decide
          obtain ⟨hbz, hb⟩ := bs_get h10
          clear h10 he
          go_wp2
          go_ret
          exact ⟨ret_string HL.out, rfl⟩
end
end Go.Proofs.YtbjligjmckilcaaDoor
