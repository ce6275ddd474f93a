/- Package lex: Number. -/
import Derived.Test.YtenbdnkipkfpkaaDoorLby
import Derived.Test.YtenbdnkipkfpkaaDoorLnm
import Derived.Test.YtenbdnkipkfpkaaDoorLlib
namespace Go.Proofs.YtenbdnkipkfpkaaDoor
open Go.RowKit Go.Maps Go.ChangeMaps Go.MapKept
open Lx
attribute [local go_sem ↓] Go.wp_at_zero Go.wp_at_succ
section
variable {w : World}
set_option maxHeartbeats 4000000 in
set_option maxRecDepth 100000 in
theorem p_number {s : S} (hE : Env w) (hs : s.length ≤ 100000) : Calls Tryd.prog 13 #[.string (bs s)] w (Reads w (.tuple #[.int .i64 (numRes s).1, .bool (numRes s).2])) := by
  have HE := Lib.hid hE
  clear hE
  unfold Reads
  go_enter Tryd.func13, Tryd.ntmps13
  cases hn : numOk s with
  | true =>
    have HR := Lib.hid (numRes_yes hn)
    obtain ⟨h1, h2, h3⟩ := Lx.nm_yes hn
    generalize val s = v at h1 h2 h3 HR
    have HA := Lib.hid (fun w => atoi_ok s (by omega) v h1 w)
    have HI := Lib.hid h2
    have hv0 : (0 : Int) ≤ (v : Int) := by omega
    have hv1 : (v : Int) ≤ 1099511627776 := by omega
    clear h1 h2 hn
    go_wp2_with (go_at_call 25; refine (HA.out _).mono ?_; rintro e w1 ⟨rfl, b1⟩; refine Hid.out ?_)
    refine Lib.hid ?_
    have HJ := Lib.hid (itoa_any (w := w1) (v : Int) ⟨by omega, by omega⟩ (HE.out.keep b1))
    have B1 := Lib.hid b1
    rw [HI.out] at HJ
    clear HA HI b1
    go_wp2_with (go_at_call 26; refine (HJ.out).mono ?_; rintro e w2 ⟨rfl, b2⟩; refine Hid.out ?_)
    refine Lib.hid ?_
    have HB := Lib.hid (B1.out.trans (b2.mono B1.out.size))
    clear HJ b2 B1
    go_wp2
    go_ret2
    exact ⟨ret_num HR.out, HB.out⟩
  | false =>
    have HR := Lib.hid (numRes_no hn)
    by_cases ho : ∃ n, Lib.atoiAll s = .ok n
    · obtain ⟨n, h1⟩ := ho
      have hb := Lib.atoiAll_bounds h1
      have HA := Lib.hid (fun w => atoi_ok s (by omega) n h1 w)
      clear h1
      by_cases h0 : n < 0
      · clear hn
        go_wp2_with (go_at_call 25; refine (HA.out _).mono ?_; rintro e w1 ⟨rfl, b1⟩; refine Hid.out ?_)
        refine Lib.hid ?_
        have HB := Lib.hid b1
        clear b1
        go_wp2
        go_ret2
        exact ⟨ret_num HR.out, HB.out⟩
      · by_cases h2 : 1099511627776 < n
        · clear hn
          go_wp2_with (go_at_call 25; refine (HA.out _).mono ?_; rintro e w1 ⟨rfl, b1⟩; refine Hid.out ?_)
          refine Lib.hid ?_
          have HB := Lib.hid b1
          clear b1
          go_wp2
          go_ret2
          exact ⟨ret_num HR.out, HB.out⟩
        · have hne := str_ne (Lx.nm_no hn (show 0 ≤ n by omega) (show n ≤ 1099511627776 by omega))
          clear hn
          go_wp2_with (go_at_call 25; refine (HA.out _).mono ?_; rintro e w1 ⟨rfl, b1⟩; refine Hid.out ?_)
          refine Lib.hid ?_
          have HJ := Lib.hid (itoa_any (w := w1) n hb (HE.out.keep b1))
          have B1 := Lib.hid b1
          clear b1
          go_wp2_with (go_at_call 26; refine (HJ.out).mono ?_; rintro e w2 ⟨rfl, b2⟩; refine Hid.out ?_)
          refine Lib.hid ?_
          have HB := Lib.hid (B1.out.trans (b2.mono B1.out.size))
          clear HJ b2 B1
          go_wp2
          go_ret2
          exact ⟨ret_num HR.out, HB.out⟩
    · have HA := Lib.hid (fun w (he : Env w) => atoi_no s (by omega) (fun n h => ho ⟨n, h⟩) w he)
      clear ho hn
      go_wp2_with (go_at_call 25; refine (HA.out _ HE.out).mono ?_; rintro e w1 ⟨n, N, rfl, b1⟩; refine Hid.out ?_)
      refine Lib.hid ?_
      have HB := Lib.hid b1
      clear b1
      go_wp2
      go_ret2
      exact ⟨ret_num HR.out, HB.out⟩
end
end Go.Proofs.YtenbdnkipkfpkaaDoor
