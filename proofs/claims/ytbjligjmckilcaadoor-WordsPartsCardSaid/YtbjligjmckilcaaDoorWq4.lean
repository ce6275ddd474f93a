/- The reference of layer 10: Parts. -/
import Derived.Test.YtbjligjmckilcaaDoorWq3
namespace Go.Proofs.YtbjligjmckilcaaDoor
open Go.RowKit Go.Maps Go.ChangeMaps Go.MapKept
open Wd
attribute [local go_sem ↓] Go.wp_at_zero Go.wp_at_succ
theorem bs_plus (l : S) : bs l ++ (⟨#[43]⟩ : ByteArray) = bs (l ++ [43]) := bs_append l [43]
section
variable {w : World}
set_option maxHeartbeats 4000000 in
set_option maxRecDepth 100000 in
theorem q_parts {s : S} {a b : Int} (hs : s.length ≤ 500) (ha : I64 a) (hb : I64 b) : Calls Tryd.prog 13 #[.string (bs s), .int .i64 a, .int .i64 b] w (Texts w (parts s a b)) := by
  have hz := bs_size s
  have M0 := Lib.hid ((OMem.start w).rowNil 9 1)
  go_enter Tryd.func13, Tryd.ntmps13
  by_cases h1 : a < 2
  · rw [parts_none (.inl h1)]
    go_wp2
    go_ret
    exact ⟨_, rfl, TxAt.nil w, Below.refl _ _⟩
  · by_cases h2 : b < 1
    · rw [parts_none (.inr h2)]
      go_wp2
      go_ret
      exact ⟨_, rfl, TxAt.nil w, Below.refl _ _⟩
    · obtain ⟨z, rfl⟩ : ∃ z : Nat, a = (z : Int) := ⟨a.toNat, by omega⟩
      obtain ⟨m, rfl⟩ : ∃ m : Nat, b = (m : Int) := ⟨b.toNat, by omega⟩
      unfold I64 at ha hb
      have HPP := Lib.hid (show parts s (z : Int) (m : Int) = pts z m s from parts_pts (by omega) (by omega))
      go_wp2
      go_loopw [7, 8] (fun o f wr => ∃ (L : List S) (j : Nat) (oa : Option Addr) (oc : Nat), j ≤ s.length ∧ L.length < m ∧ L.length ≤ j ∧ f = .int .i64 j ∧ o = .slice oa L.length oc ∧ Hid (L ++ pts z (m - L.length) (s.drop j) = pts z m s) ∧ OMem w wr [.row 9 1 (.slice oa L.length oc) L.length (txVs L)]) (fun _ f _ => s.length - (intOf f).toNat)
      case atStart => exact ⟨[], 0, none, 0, Nat.zero_le _, by simp; omega, Nat.zero_le _, rfl, rfl, Lib.hid (by simp), M0.out⟩
      case round =>
        obtain ⟨L, j, oa, oc, hj, hLm, hLj, rfl, rfl, HI, mm⟩ := hrel
        have hdl : (s.drop j).length = s.length - j := List.length_drop
        have hinv := HI.out
        by_cases h3 : s.length - j ≤ z
        · rw [show m - L.length = (m - L.length - 1) + 1 by omega, pts_fit (by omega)] at hinv
          have hx : (bs s).extract j s.length = bs (s.drop j) := by rw [bs_extract, List.take_of_length_le (by omega)]
          have h3' : (s.length : Int) - (j : Int) ≤ (z : Int) := by omega
          obtain ⟨ya, yc, w7, r7, m7⟩ := (mm.fresh (Below.refl _ _)).pushT (i := 0) rfl (s.drop j) (by omega)
          have R7 := Lib.hid r7
          clear r7 mm
          have HR := Lib.hid (show TxAt w7 (.slice ya (L.length + 1) yc) (parts s z m) by
            rw [HPP.out, ← hinv]; exact TxAt.of_own (m7.rowAt (i := 0) rfl))
          have HB := Lib.hid m7.below
          clear m7 hinv
          go_wp2_with (at_builtin; refine Hid.out ?_)
          refine Lib.hid ?_
          go_wp2_with (at_builtin; refine Hid.out ?_)
          refine Lib.hid ?_
          go_wp2_with (at_builtin; refine Hid.out ?_)
          refine Lib.hid ?_
          refine Lib.wpList_append_run _ rfl _ _ _ _ rfl _ _ rfl rfl _ _ R7.out ?_
          go_wp2
          go_ret
          exact ⟨_, rfl, HR.out, HB.out⟩
        · have h3' : ¬ (s.length : Int) - (j : Int) ≤ (z : Int) := by omega
          by_cases h4 : L.length = m - 1
          · rw [show m - L.length = 1 by omega, pts_cut (by omega)] at hinv
            have h4' : (L.length : Int) = (m : Int) - 1 := by omega
            have H4 := Lib.hid h4
            have hx : (bs s).extract j (j + z - 1) ++ (⟨#[43]⟩ : ByteArray) = bs ((s.drop j).take (z - 1) ++ [43]) := by rw [bs_extract, bs_plus, show j + z - 1 - j = z - 1 by omega]
            obtain ⟨ya, yc, w7, r7, m7⟩ := (mm.fresh (Below.refl _ _)).pushT (i := 0) rfl ((s.drop j).take (z - 1) ++ [43]) (by omega)
            have R7 := Lib.hid r7
            clear r7 mm
            have HR := Lib.hid (show TxAt w7 (.slice ya (L.length + 1) yc) (parts s z m) by
              rw [HPP.out, ← hinv]; exact TxAt.of_own (m7.rowAt (i := 0) rfl))
            have HB := Lib.hid m7.below
            clear m7 hinv
            clear h4
            go_wp2_with (at_builtin; refine Hid.out ?_)
            refine Lib.hid ?_
            go_wp2_with (at_builtin; refine Hid.out ?_)
            refine Lib.hid ?_
            go_wp2_with (at_builtin; refine Hid.out ?_)
            refine Lib.hid ?_
            go_wp2_with (at_builtin; refine Hid.out ?_)
            refine Lib.hid ?_
            refine Lib.wpList_append_run _ rfl _ _ _ _ rfl _ _ rfl rfl _ _ R7.out ?_
            go_wp2
            go_ret
            exact ⟨_, rfl, HR.out, HB.out⟩
          · rw [show m - L.length = (m - L.length - 1) + 1 by omega, pts_more (by omega) (by omega)] at hinv
            have h4' : ¬ (L.length : Int) = (m : Int) - 1 := by omega
            have hx : (bs s).extract j (j + z) = bs ((s.drop j).take z) := by rw [bs_extract, show j + z - j = z by omega]
            obtain ⟨ya, yc, w7, r7, m7⟩ := (mm.fresh (Below.refl _ _)).pushT (i := 0) rfl ((s.drop j).take z) (by omega)
            have R7 := Lib.hid r7
            clear r7 mm
            have HI2 := Lib.hid (show (L ++ [(s.drop j).take z]) ++ pts z (m - (L ++ [(s.drop j).take z]).length) (s.drop (j + z)) = pts z m s by
              rw [← hinv, List.length_append, List.append_assoc, List.drop_drop]
              congr 2)
            have HL2 := Lib.hid (show L.length + 1 = (L ++ [(s.drop j).take z]).length by simp)
            have M2 := Lib.hid (show OMem w w7 [.row 9 1 (.slice ya (L ++ [(s.drop j).take z]).length yc) (L ++ [(s.drop j).take z]).length (txVs (L ++ [(s.drop j).take z]))] by
              rw [← HL2.out]; exact m7)
            clear hinv m7
            go_wp2_with (at_builtin; refine Hid.out ?_)
            refine Lib.hid ?_
            go_wp2_with (at_builtin; refine Hid.out ?_)
            refine Lib.hid ?_
            go_wp2_with (at_builtin; refine Hid.out ?_)
            refine Lib.hid ?_
            go_wp2_with (at_builtin; refine Hid.out ?_)
            refine Lib.hid ?_
            refine Lib.wpList_append_run _ rfl _ _ _ _ rfl _ _ rfl rfl _ _ R7.out ?_
            go_wp2
            go_roundw
            case rel => exact ⟨L ++ [(s.drop j).take z], j + z, ya, yc, by omega, by rw [← HL2.out]; omega, by rw [← HL2.out]; omega, by go_num, by rw [HL2.out], HI2, M2.out⟩
            case measure => simp [intOf]; omega
end
end Go.Proofs.YtbjligjmckilcaaDoor
