/- The reference's graph: Sorted. -/
import Derived.Test.YtihnnffhpgbgjaaRheads
namespace Go.Proofs.Ytihnnffhpgbgjaa
open Go.RowKit Go.Maps Go.ChangeMaps Go.MapKept
open Gp
attribute [local go_sem ↓] Go.wp_at_zero Go.wp_at_succ

/-- What is there behind some levels. -/
noncomputable def outL (G : List Nd) (xs : List Int) (v : Nat) : List Int := (List.range v).flatMap fun (u : Nat) => (ids G).filter fun x => decide (lev G x = (u : Int)) && xs.contains x
noncomputable def outI (G : List Nd) (xs : List Int) (v i : Nat) : List Int := outL G xs v ++ ((ids G).take i).filter fun x => decide (lev G x = (v : Int)) && xs.contains x
section
variable {G : List Nd} {xs : List Int} {v i : Nat}
theorem outL_succ : outL G xs (v + 1) = outL G xs v ++ (ids G).filter fun x => decide (lev G x = (v : Int)) && xs.contains x := by
  unfold outL; rw [List.range_succ, List.flatMap_append]; simp
theorem outL_mono : ∀ d, (outL G xs v).length ≤ (outL G xs (v + d)).length
  | 0 => Nat.le_refl _
  | d + 1 => by
    refine Nat.le_trans (outL_mono d) ?_
    rw [show v + (d + 1) = (v + d) + 1 from rfl, outL_succ, List.length_append]
    omega
theorem outI_few (ok : Ok G) (hv : v < G.length) : (outI G xs v i).length ≤ G.length := by
  have h1 : (outI G xs v i).length ≤ (outL G xs (v + 1)).length := by
    unfold outI
    rw [outL_succ, List.length_append, List.length_append]
    have := ((List.take_sublist i (ids G)).filter fun x => decide (lev G x = (v : Int)) && xs.contains x).length_le
    omega
  have h2 := outL_mono (G := G) (xs := xs) (v := v + 1) (G.length - (v + 1))
  rw [show v + 1 + (G.length - (v + 1)) = G.length by omega] at h2
  have h3 := (lv_nodup (sorted_pw (xs := xs) ok)).length_le_of_subset (l₂ := ids G) fun x hx => ((Gp.mem_sorted ok).1 hx).1
  rw [show (ids G).length = G.length by simp [ids]] at h3
  exact Nat.le_trans h1 (Nat.le_trans h2 h3)
theorem outI_all : outI G xs v G.length = outL G xs (v + 1) := by
  unfold outI; rw [outL_succ, List.take_of_length_le (by simp [ids])]
theorem outI_zero : outI G xs v 0 = outL G xs v := by unfold outI; simp
theorem outI_step {n : Nd} (hn : G[i]? = some n) : outI G xs v (i + 1) = outI G xs v i ++ (if (decide (lev G n.1 = (v : Int)) && xs.contains n.1) = true then [n.1] else []) := by
  unfold outI
  rw [List.take_add_one, ids_at hn, List.filter_append, List.append_assoc]
  congr 2
  show [n.1].filter (fun x => decide (lev G x = (v : Int)) && xs.contains x) = _
  rw [List.filter_cons, List.filter_nil]
end
section
variable {w w' : World} {r : Nat} {G : List Nd}
set_option maxHeartbeats 4000000 in
set_option maxRecDepth 100000 in
theorem rsorted_any (h : RAt w r G) (hG : G.length ≤ 100) {u : Value} {xs : List Int} (hu : NumsAt w u xs) (hx : xs.length ≤ 1000) : Calls Try.prog 29 #[.pointer (some ⟨r, 0, none⟩), u] w (Gives w (sorted G xs)) := by
  have HR := Lib.hid h
  have OK := Lib.hid h.ok
  have HU := Lib.hid hu
  obtain ⟨v, c0, hv⟩ := h.at_
  have HV := Lib.hid hv
  have HC0 := Lib.hid c0
  have B0 := Lib.hid ((OMem.start w).rowNil 3 1)
  obtain ⟨a, cap, rfl, -⟩ := hv
  clear h hu
  unfold Gives
  go_enter Try.func29, Try.ntmps29
  go_wp2
  clear c0
  go_loopw [5, 6] (fun lv i wr => ∃ k : Nat, k ≤ G.length ∧ i = .int .i64 k ∧ OMem w wr [.row 3 1 lv (outL G xs k).length (intVs (outL G xs k))]) (fun _ i _ => G.length - (RowKit.intOf i).toNat)
  case atStart => exact ⟨0, Nat.zero_le _, rfl, B0.out⟩
  case round =>
    obtain ⟨k, hk, rfl, M⟩ := hrel
    have c0 := below_cell HC0.out M.below
    by_cases hlt : k < G.length
    · have HM := Lib.hid (show OMem w wr [.row 3 1 u5 (outI G xs k 0).length (intVs (outI G xs k 0))] by rw [outI_zero]; exact M)
      clear M
      go_wp2
      go_loopw [5, 7] (fun lv j wq => ∃ i : Nat, i ≤ G.length ∧ j = .int .i64 i ∧ OMem w wq [.row 3 1 lv (outI G xs k i).length (intVs (outI G xs k i))]) (fun _ j _ => G.length - (RowKit.intOf j).toNat)
      case atStart => exact ⟨0, Nat.zero_le _, rfl, HM.out⟩
      case round =>
        obtain ⟨j, hj, rfl, M⟩ := hrel
        have d0 := below_cell HC0.out M.below
        by_cases hjk : j < G.length
        · obtain ⟨n, hn⟩ : ∃ n, G[j]? = some n := ⟨_, List.getElem?_eq_getElem hjk⟩
          have HT := Lib.hid (outI_step (xs := xs) (v := k) hn)
          have HF := Lib.hid (outI_few (xs := xs) (i := j) OK.out hlt)
          have HLV := Lib.hid (rlevel_any (HR.out.keep M.below) n.1 hG)
          obtain ⟨b1, off1, cap1, pa, pc, e1, _, d1, _, _⟩ := (HV.out.keep M.below).at_ hn
          cases e1
          have HM := Lib.hid M
          clear M hn
          generalize outI G xs k j = ks at HM HT HF
          go_wp2_with (go_at_call 14; refine (HLV.out).mono ?_; rintro e w2 ⟨rfl, b2⟩; refine Hid.out ?_)
          refine Lib.hid ?_
          have f0 := below_cell d0 b2
          have f1 := below_cell d1 b2
          have HM2 := Lib.hid (HM.out.fresh b2)
          clear d0 d1 b2 HLV HM
          by_cases hlk : lev G n.1 = (k : Int)
          · rw [decide_eq_true hlk] at HT
            have HS := s_has n.1 (HU.out.keep HM2.out.below) (by omega)
            rw [hlk]
            clear hlk
            cases hc : xs.contains n.1 with
            | true =>
              rw [hc] at HS HT
              have HS := Lib.hid HS
              have m2 := HM2.out
              obtain ⟨ya, yc, w5, r5, m5⟩ := m2.pushN (i := 0) rfl n.1 (by have := HF.out; omega)
              have R5 := Lib.hid r5
              have M5 := Lib.hid m5
              clear hc m2 r5 m5
              go_wp2_with (go_at_call 41; refine (HS.out).mono ?_; rintro e w3 ⟨rfl, rfl⟩; refine Hid.out ?_)
              refine Lib.hid ?_
              go_wp2_with (at_builtin; refine Hid.out ?_)
              refine Lib.hid ?_
              refine Lib.wpList_append_run _ rfl _ _ _ _ rfl _ _ rfl rfl _ _ R5.out ?_
              go_wp2
              go_roundw
              case rel => exact ⟨j + 1, by omega, by go_num, by rw [HT.out]; simpa using M5.out⟩
              case measure => simp [RowKit.intOf]; omega
            | false =>
              rw [hc] at HS HT
              have HS := Lib.hid HS
              clear hc
              go_wp2_with (go_at_call 41; refine (HS.out).mono ?_; rintro e w3 ⟨rfl, rfl⟩; refine Hid.out ?_)
              refine Lib.hid ?_
              go_wp2
              go_roundw
              case rel => exact ⟨j + 1, by omega, by go_num, by rw [HT.out]; simpa using HM2.out⟩
              case measure => simp [RowKit.intOf]; omega
          · rw [decide_eq_false hlk] at HT
            go_wp2
            go_roundw
            case rel => exact ⟨j + 1, by omega, by go_num, by rw [HT.out]; simpa using HM2.out⟩
            case measure => simp [RowKit.intOf]; omega
        · obtain rfl : j = G.length := by omega
          have HM := Lib.hid (show OMem w wr [.row 3 1 u5 (outL G xs (k + 1)).length (intVs (outL G xs (k + 1)))] by rw [← outI_all]; exact M)
          clear M
          go_wp2
          go_roundw
          case rel => exact ⟨k + 1, by omega, by go_num, HM.out⟩
          case measure => simp [RowKit.intOf]; omega
    · obtain rfl : k = G.length := by omega
      have HN := Lib.hid (NumsAt.of_own (M.rowAt (i := 0) rfl))
      have HB := Lib.hid M.below
      clear M
      go_wp2
      go_ret
      exact ⟨_, rfl, HN.out, HB.out⟩
end
end Go.Proofs.Ytihnnffhpgbgjaa
