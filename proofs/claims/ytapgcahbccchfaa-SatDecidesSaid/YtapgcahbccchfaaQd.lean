/- The reference: After, First. -/
import Derived.Test.YtapgcahbccchfaaQc
namespace Go.Proofs.Ytapgcahbccchfaa
open Go.RowKit Go.Maps Go.ChangeMaps Go.MapKept
open St
attribute [local go_sem ↓] Go.wp_at_zero Go.wp_at_succ

theorem boVs_set (l : List Bool) (k : Nat) (x : Bool) : (boVs l).set k (.bool x) = boVs (l.set k x) := by simp [boVs, List.map_set]
theorem set_front (p : Nat) (x : Bool) (L : List Bool) : (List.replicate (p + 1) false ++ L).set p x = List.replicate p false ++ x :: L := by
  rw [List.replicate_succ', List.append_assoc, List.set_append_right _ _ (by simp)]
  simp
theorem aft_step {n p k : Nat} (h : p < n) : aft (n - p) k = decide (k / 2 ^ (n - (p + 1)) % 2 = 1) :: aft (n - (p + 1)) k := by
  obtain ⟨m, hm⟩ : ∃ m, n - (p + 1) = m := ⟨_, rfl⟩
  rw [hm, show n - p = m + 1 by omega]; rfl
theorem div_step {n p k : Nat} (h : p < n) : k / 2 ^ (n - (p + 1)) / 2 = k / 2 ^ (n - p) := by
  rw [Nat.div_div_eq_div_mul, ← Nat.pow_succ, show (n - (p + 1)).succ = n - p by omega]
section
variable {w : World}
set_option maxHeartbeats 1000000 in
set_option maxRecDepth 100000 in
theorem q_after {n k : Nat} (hn : n ≤ 100) (hk : k ≤ 100000) :
    Calls Try.prog 33 #[.int .i64 (n : Int), .int .i64 (k : Int)] w fun e w' => ∃ v, e = .returned v ∧ BoolsAt w' v (aft n k) ∧ Below w.heap.size w w' := by
  obtain ⟨w1, hmk, o1, g1⟩ := make_bools w n (by omega)
  have M1 := Lib.hid (show OMem w w1 [.row 4 1 (.slice (some ⟨w.heap.size, 0, none⟩) n n) n (boVs (List.replicate n false ++ aft (n - n) k))] by
    rw [Nat.sub_self]; show OMem w w1 [.row _ _ _ _ (boVs (List.replicate n false ++ []))]; rw [List.append_nil]; exact (OMem.start w).rowMade g1 o1)
  clear o1 g1
  go_enter Try.func33, Try.ntmps33
  go_wp2
  clear hmk
  go_loopw [1, 6] (fun z i wr => ∃ j : Nat, j ≤ n ∧ i = .int .i64 ((j : Int) - 1) ∧ z = .int .i64 ((k / 2 ^ (n - j) : Nat) : Int) ∧ OMem w wr [.row 4 1 (.slice (some ⟨w.heap.size, 0, none⟩) n n) n (boVs (List.replicate j false ++ aft (n - j) k))]) (fun _ i _ => (RowKit.intOf i + 1).toNat)
  case atStart => exact ⟨n, Nat.le_refl _, rfl, by rw [Nat.sub_self, Nat.pow_zero, Nat.div_one], M1.out⟩
  case round =>
    obtain ⟨j, hj, rfl, rfl, m⟩ := hrel
    have M := Lib.hid m
    by_cases h0 : 0 < j
    · obtain ⟨p, rfl⟩ : ∃ p, j = p + 1 := ⟨j - 1, by omega⟩
      rw [show (((p + 1 : Nat) : Int) - 1) = (p : Int) by omega]
      have hdn := div_step (k := k) (show p < n by omega)
      have hst := aft_step (k := k) (show p < n by omega)
      have hkm : k / 2 ^ (n - (p + 1)) ≤ 100000 := Nat.le_trans (Nat.div_le_self _ _) hk
      generalize k / 2 ^ (n - (p + 1)) = z at *
      have d0 := own_at (m.rowAt (i := 0) rfl) (j := p) (y := .bool false) (by
        unfold boVs; rw [List.getElem?_map, List.getElem?_append_left (by simp), List.getElem?_replicate, if_pos (by omega)]; rfl)
      have f0 := own_fz (m.rowAt (i := 0) rfl) p
      have hz2 : decide (z % 2 = 1) = ((z : Int) % 2 == 1) := by
        rw [Bool.eq_iff_iff, decide_eq_true_iff, beq_iff_eq]; omega
      have M2 := Lib.hid (show OMem w (wr.setCell ⟨w.heap.size, p, none⟩ (.bool ((z : Int) % 2 == 1))) [.row 4 1 (.slice (some ⟨w.heap.size, 0, none⟩) n n) n (boVs (List.replicate p false ++ aft (n - p) k))] by
        have := m.rowSet (i := 0) rfl p (.bool ((z : Int) % 2 == 1))
        rw [boVs_set, set_front, ← hz2, ← hst] at this
        rw [← hz2]; exact this)
      have HDN := Lib.hid (show ((k / 2 ^ (n - p) : Nat) : Int) = (z : Int) / 2 by rw [← hdn]; omega)
      clear hdn hst hz2 m
      go_wp2
      go_roundw
      case rel => exact ⟨p, by omega, by go_num, by rw [HDN.out], M2.out⟩
      case measure => (simp [RowKit.intOf]; try omega)
    · obtain rfl : j = 0 := by omega
      have HF := Lib.hid (show BoolsAt wr (.slice (some ⟨w.heap.size, 0, none⟩) n n) (aft n k) from BoolsAt.of_own (m.rowAt (i := 0) rfl))
      have HB := Lib.hid m.below
      clear m
      go_wp2
      go_ret
      exact ⟨_, rfl, HF.out, HB.out⟩
set_option maxHeartbeats 1000000 in
set_option maxRecDepth 100000 in
theorem q_first {v : Value} {l : List Cl} {n : Nat} (hv : ClAt w v l) (hl : l.length ≤ 100000) (hn : n ≤ 9) :
    Calls Try.prog 19 #[v, .int .i64 (n : Int)] w fun e w' => ∃ u vs f, e = .returned (.tuple #[u, .bool f]) ∧ BoolsAt w' u vs ∧ Below w.heap.size w w' ∧ (f = true ∧ Fst l (n : Int) vs ∨ f = false ∧ vs = [] ∧ ¬ St.Can l (n : Int)) := by
  have HV := Lib.hid hv
  have hp : 2 ^ n ≤ 512 := Nat.pow_le_pow_right (by decide) hn
  go_enter Try.func19, Try.ntmps19
  go_wp2
  go_loopw [6] (fun i wr => ∃ k : Nat, k ≤ 2 ^ n ∧ i = .int .i64 k ∧ Hid (∀ j, j < k → check l (n : Int) (aft n j) = false) ∧ Hid (Below w.heap.size w wr)) (fun i _ => 2 ^ n - (RowKit.intOf i).toNat)
  case atStart => exact ⟨0, Nat.zero_le _, rfl, Lib.hid (fun j h => by omega), Lib.hid (Below.refl _ _)⟩
  case round =>
    obtain ⟨k, hk, rfl, HT, HB⟩ := hrel
    obtain ⟨N, hN⟩ : ∃ N, 2 ^ n = N := ⟨_, rfl⟩
    have hw : wrap64 ((2 : Int) ^ n) = (N : Int) := by
      rw [← hN]
      have e : ((2 : Int) ^ n) = ((2 ^ n : Nat) : Int) := by rw [Int.natCast_pow]; rfl
      rw [e]; unfold wrap64; omega
    have HNN := Lib.hid hN
    rw [hN] at hk hp ⊢
    clear hN
    by_cases hlt : k < N
    · have HA := Lib.hid (q_after (w := wr) (n := n) (k := k) (by omega) (by omega))
      have hlen := aft_len n k
      go_wp2_with (go_at_call 33; refine (HA.out).mono ?_; rintro e w2 ⟨u, rfl, hu, b2⟩; refine Hid.out ?_)
      refine Lib.hid ?_
      have HU := Lib.hid hu
      have HB2 := Lib.hid (HB.out.trans (b2.mono HB.out.size))
      have HC := q_check (n := (n : Int)) ((HV.out.keep HB2.out)) hl hu (by rw [hlen]; omega)
      clear hu b2 HA
      cases hc : check l (n : Int) (aft n k) with
      | true =>
        rw [hc] at HC
        have HF := Lib.hid (first_aft (by rw [HNN.out]; exact hlt) hc HT.out)
        have HC := Lib.hid HC
        clear hc
        go_wp2_with (go_at_call 12; refine (HC.out).mono ?_; rintro e w3 ⟨rfl, rfl⟩; refine Hid.out ?_)
        refine Lib.hid ?_
        go_wp2
        go_ret2
        exact ⟨_, _, _, rfl, HU.out, HB2.out, .inl ⟨rfl, HF.out⟩⟩
      | false =>
        rw [hc] at HC
        have HT2 := Lib.hid (show ∀ j, j < k + 1 → check l (n : Int) (aft n j) = false from fun j hj => by
          by_cases e : j = k
          · subst e; exact hc
          · exact HT.out j (by omega))
        have HC := Lib.hid HC
        clear hc
        go_wp2_with (go_at_call 12; refine (HC.out).mono ?_; rintro e w3 ⟨rfl, rfl⟩; refine Hid.out ?_)
        refine Lib.hid ?_
        go_wp2
        go_roundw
        case rel => exact ⟨k + 1, by omega, by go_num, HT2, HB2⟩
        case measure => (simp [RowKit.intOf]; try omega)
    · obtain rfl : k = N := by omega
      have HF := Lib.hid (none_aft (l := l) (n := n) (by rw [HNN.out]; exact HT.out))
      go_wp2
      go_ret2
      exact ⟨_, _, _, rfl, BoolsAt.nil _, HB.out, .inr ⟨rfl, rfl, HF.out⟩⟩
end
end Go.Proofs.Ytapgcahbccchfaa
