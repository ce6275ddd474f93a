/- Parts of package words. -/
import Derived.Test.YtbjligjmckilcaaDoorWwo
import Derived.Test.YtbjligjmckilcaaDoorOrd7
import Derived.Test.YtbjligjmckilcaaDoorOrd4
namespace Go.Proofs.YtbjligjmckilcaaDoor
open Go.RowKit Go.Maps Go.ChangeMaps Go.MapKept
open Wd
attribute [local go_sem ↓] Go.wp_at_zero Go.wp_at_succ
/-! ### Parts that are counted -/
def chk (z n : Nat) (t : S) : List S := (List.range n).map fun i => (t.drop (z * i)).take z
theorem chk_succ (z n : Nat) (t : S) : chk z (n + 1) t = t.take z :: chk z n (t.drop z) := by
  unfold chk
  rw [List.range_succ_eq_map, List.map_cons, List.map_map]
  congr 1
  apply List.map_congr_left
  intro i _
  show (t.drop (z * (i + 1))).take z = ((t.drop z).drop (z * i)).take z
  rw [List.drop_drop, show z * (i + 1) = z + z * i by rw [Nat.mul_succ]; omega]
def cnt (s : S) (z : Nat) : Nat := (s.length - 1) / z + 1
theorem cnt_drop {s : S} {z : Nat} (hz : 0 < z) (h : z < s.length) : cnt s z = cnt (s.drop z) z + 1 := by
  unfold cnt
  rw [List.length_drop, show s.length - 1 = (s.length - z - 1) + z by omega, Nat.add_div_right _ hz]
theorem pts_chk {z : Nat} (hz : 2 ≤ z) : ∀ (m : Nat) (s : S), pts z (m + 1) s = if cnt s z ≤ m + 1 then chk z (cnt s z) s else chk z (m + 1) (s.take (z * (m + 1) - 1) ++ [43])
  | m, s => by
    by_cases h : s.length ≤ z
    · have hc : cnt s z = 1 := by unfold cnt; rw [Nat.div_eq_of_lt (by omega)]
      rw [pts_fit h, hc, if_pos (by omega)]
      simp [chk, List.take_of_length_le h]
    · have hc := cnt_drop (s := s) (by omega : 0 < z) (by omega)
      have hc1 : 1 ≤ cnt (s.drop z) z := Nat.le_add_left _ _
      match m with
      | 0 =>
        rw [pts_cut (by omega), hc, if_neg (by omega)]
        have : (s.take (z - 1) ++ [43]).length = z := by
          rw [List.length_append, List.length_take]; simp only [List.length_singleton]; omega
        simp [chk, List.take_of_length_le (Nat.le_of_eq this)]
      | m + 1 =>
        rw [pts_more (by omega) (by omega), pts_chk hz m, hc]
        by_cases hm : cnt (s.drop z) z ≤ m + 1
        · rw [if_pos hm, if_pos (by omega), chk_succ]
        · rw [if_neg hm, if_neg (by omega)]
          have e1 : z * (m + 1 + 1) - 1 = z + (z * (m + 1) - 1) := by rw [Nat.mul_succ z (m + 1)]; have : z ≤ z * (m + 1) := Nat.le_mul_of_pos_right _ (by omega); omega
          have hlen : z + (z * (m + 1) - 1) ≤ s.length := by
            have h1 : m + 1 ≤ (s.length - z - 1) / z := by
              unfold cnt at hm; rw [List.length_drop] at hm
              generalize (s.length - z - 1) / z = q at hm ⊢
              omega
            have h2 := (Nat.le_div_iff_mul_le (by omega : 0 < z)).1 h1
            rw [Nat.mul_comm] at h2; omega
          have hlt : (s.take (z + (z * (m + 1) - 1))).length = z + (z * (m + 1) - 1) := by simp; omega
          rw [e1, chk_succ z (m + 1) (s.take (z + (z * (m + 1) - 1)) ++ [43])]
          congr 1
          · rw [List.take_append_of_le_length (by omega), List.take_take, Nat.min_eq_left (by omega)]
          · congr 1
            rw [List.drop_append_of_le_length (by omega), List.drop_take]
            congr 2
            omega
theorem parts_chk {s : S} {z m : Nat} (hz : 2 ≤ z) (hm : 1 ≤ m) : parts s z m = if cnt s z ≤ m then chk z (cnt s z) s else chk z m (s.take (z * m - 1) ++ [43]) := by
  rw [parts_pts (by omega) (by omega), Int.toNat_natCast, Int.toNat_natCast]
  obtain ⟨k, rfl⟩ : ∃ k, m = k + 1 := ⟨m - 1, by omega⟩
  exact pts_chk hz k s
theorem chk_length (z n : Nat) (t : S) : (chk z n t).length = n := by simp [chk]
/-- The list while it is filled. -/
def filW (z n : Nat) (t : S) (k : Nat) : List S := chk z k t ++ List.replicate (n - k) []
theorem filW_zero (z n : Nat) (t : S) : filW z n t 0 = List.replicate n [] := by simp [filW, chk]
theorem filW_all (z n : Nat) (t : S) : filW z n t n = chk z n t := by simp [filW]
theorem filW_length {z n k : Nat} {t : S} (hk : k ≤ n) : (filW z n t k).length = n := by simp [filW, chk_length]; omega
theorem filW_at {z n k : Nat} {t : S} (hk : k < n) : (filW z n t k)[k]? = some [] := by
  unfold filW
  rw [List.getElem?_append_right (by simp [chk_length]), chk_length, Nat.sub_self, List.getElem?_replicate, if_pos (by omega)]
theorem filW_set {z n k : Nat} {t : S} (hk : k < n) : (filW z n t k).set k ((t.drop (z * k)).take z) = filW z n t (k + 1) := by
  unfold filW
  rw [List.set_append_right _ _ (by simp [chk_length]), chk_length, Nat.sub_self, show n - k = (n - (k + 1)) + 1 by omega, List.replicate_succ, List.set_cons_zero]
  have : chk z (k + 1) t = chk z k t ++ [(t.drop (z * k)).take z] := by simp [chk, List.range_succ]
  rw [this, List.append_assoc]; rfl
section
variable {w : World}
theorem make_texts (n : Nat) (hn : n ≤ 100000) : ∃ w', (Instr.makeSlice 22 (.int .i64 (n : Int)) (.int .i64 (n : Int))).run Tryd.prog w = .ok (.slice (some ⟨w.heap.size, 0, none⟩) n n) w' ∧
    w'.ownsRow w.heap.size 9 1 (.slice (some ⟨w.heap.size, 0, none⟩) n n) n (txVs (List.replicate n [])) ∧ Below w.heap.size w w' := by
  obtain ⟨i0, hi, hz0, hz1, hz2⟩ := info_parts string_info
  obtain ⟨w', h1, h2, h3⟩ := run_make_full (P := Tryd.prog) w w.heap.size 22 9 i0 (.string ⟨#[]⟩) 1 Tryd.underlying22 hi hz0 hz1 .i64 .i64 n (by rw [hz2]; omega) (by unfold maxLen; omega) (Nat.le_refl _)
  refine ⟨w', h1, ?_, (Below.refl _ _).grown h3 (Nat.le_refl _) (fun k hk => by cases hk)⟩
  have e : (madeCells (Value.string ⟨#[]⟩).cells (n * 1)).toList = txVs (List.replicate n []) := by
    rw [Nat.mul_one, show (Value.string ⟨#[]⟩).cells = #[.string ⟨#[]⟩] from rfl, toList_madeCells_one]
    simp [txVs, bs]
  rwa [e] at h2
set_option maxHeartbeats 4000000 in
set_option maxRecDepth 100000 in
theorem p_parts {s : S} {a b : Int} (hs : s.length ≤ 500) (ha : I64 a) (hb : I64 b) : Calls Tryd.prog 12 #[.string (bs s), .int .i64 a, .int .i64 b] w (Texts w (parts s a b)) := by
  have hz := bs_size s
  by_cases h0 : a < 2 ∨ b < 1
  · have HP := Lib.hid (parts_none (s := s) h0)
    rcases (by omega : a < 2 ∨ (2 ≤ a ∧ b < 1)) with h1 | ⟨h1, h2⟩
    all_goals
      go_enter Tryd.func12, Tryd.ntmps12
      go_wp2
      go_ret
      exact ⟨_, rfl, by rw [HP.out]; exact TxAt.nil _, Below.refl _ _⟩
  · obtain ⟨z, rfl⟩ : ∃ z : Nat, a = z := ⟨a.toNat, by omega⟩
    obtain ⟨m, rfl⟩ : ∃ m : Nat, b = m := ⟨b.toNat, by omega⟩
    have hz2 : 2 ≤ z := by omega
    have hm1 : 1 ≤ m := by omega
    have ha' := ha.2
    have hb' := hb.2
    clear h0
    have HP := Lib.hid (parts_chk (s := s) hz2 hm1)
    obtain ⟨n, hn⟩ : ∃ n, cnt s z = n := ⟨_, rfl⟩
    have hq : ((s.length : Int) - 1).tdiv (z : Int) + 1 = (n : Int) := by
      rw [← hn]
      unfold cnt
      by_cases hl : s.length = 0
      · have e : (((s.length : Nat) : Int) - 1).tdiv (z : Int) = 0 := by
          rw [hl, show ((0 : Nat) : Int) - 1 = -1 from rfl, Int.neg_tdiv, show (1 : Int) = ((1 : Nat) : Int) from rfl, ← Int.ofNat_tdiv, Nat.div_eq_of_lt (by omega)]; rfl
        rw [e, hl, Nat.zero_sub, Nat.zero_div]; rfl
      · rw [show (s.length : Int) - 1 = ((s.length - 1 : Nat) : Int) by omega, ← Int.ofNat_tdiv]; rfl
    have hn5 : 1 ≤ n ∧ n ≤ 500 := by
      rw [← hn]; unfold cnt
      have h1 : (s.length - 1) / z ≤ (s.length - 1) / 1 := Nat.div_le_div_left (by omega) (by omega)
      rw [Nat.div_one] at h1
      generalize (s.length - 1) / z = q at h1 ⊢
      omega
    have hqn : ((n - 1 : Nat) : Int) + 1 = (n : Int) := by omega
    have hqz : ((s.length : Int) - 1).tdiv (z : Int) = ((n - 1 : Nat) : Int) := by omega
    have hn1 : 1 ≤ n := hn5.1
    have hn2 : n ≤ 500 := hn5.2
    clear hq hn5
    by_cases hnm : n ≤ m
    · rw [hn, if_pos hnm] at HP
      clear hn
      have hdm : decide (m < n) = false := decide_eq_false (by omega)
      obtain ⟨w1, rm, own1, b1⟩ := make_texts (w := w) n (by omega)
      have O1 := Lib.hid own1
      have B1 := Lib.hid b1
      clear own1 b1
      go_enter Tryd.func12, Tryd.ntmps12
      go_wp2
      go_loopw [0, 38] (fun s0 i wr => ∃ (k : Nat) (t : S), k ≤ n ∧ i = .int .i64 k ∧ s0 = .string (bs t) ∧ t.length ≤ 600 ∧ Hid (t = (s).drop (z * k)) ∧ Hid (wr.ownsRow w.heap.size 9 1 (.slice (some ⟨w.heap.size, 0, none⟩) n n) n (txVs (filW z n (s) k)) ∧ Below w.heap.size w wr)) (fun _ i _ => n - (intOf i).toNat)
      case atStart => exact ⟨0, s, Nat.zero_le _, rfl, rfl, by omega, Lib.hid (by simp), Lib.hid ⟨by rw [filW_zero]; exact O1.out, B1.out⟩⟩
      case round =>
        obtain ⟨k, t, hk, rfl, rfl, htl, HT, HO⟩ := hrel
        by_cases hlt : k < n
        · have hts := bs_size t
          obtain ⟨e, he⟩ : ∃ e, min z t.length = e := ⟨_, rfl⟩
          have hel : e ≤ t.length := by omega
          have hmin : min (z : Int) (t.length : Int) = (e : Int) := by omega
          have HE1 := Lib.hid (show (bs t).extract 0 e = bs ((((s).drop (z * k)).take z)) by 
            rw [bs_extract, ← HT.out, List.drop_zero, Nat.sub_zero]
            congr 1
            rcases (by omega : z ≤ t.length ∧ e = z ∨ t.length < z ∧ e = t.length) with ⟨_, q⟩ | ⟨h1, q⟩
            · rw [q]
            · rw [q, List.take_of_length_le (Nat.le_refl _), List.take_of_length_le (by omega)])
          have HE2 := Lib.hid (show (bs t).extract e t.length = bs ((s).drop (z * (k + 1))) by
            rw [bs_extract, Nat.mul_succ, ← List.drop_drop, ← HT.out, List.take_of_length_le (by simp)]
            congr 1
            rcases (by omega : z ≤ t.length ∧ e = z ∨ t.length < z ∧ e = t.length) with ⟨_, q⟩ | ⟨h1, q⟩
            · rw [q]
            · rw [q, List.drop_of_length_le (Nat.le_refl _), List.drop_of_length_le (by omega)])
          have hcell : wr.cell? ⟨w.heap.size, k, none⟩ = some (.string (bs [])) := by
            have := HO.out.1.cells rfl k (.string (bs [])) (by rw [txVs, List.getElem?_map, filW_at hlt]; rfl)
            rwa [Lib.add_plain, Nat.zero_add] at this
          have hol : ((((s).drop (z * k)).take z)).length ≤ 600 := by rw [← HT.out, List.length_take]; omega
          have hnl : ((s).drop (z * (k + 1))).length ≤ 600 := by rw [List.length_drop]; rw [HT.out, List.length_drop] at htl; have := Nat.mul_le_mul_left z (Nat.le_succ k); omega
          generalize HO1 : ((s).drop (z * k)).take z = o at HE1 hol
          have HO2 := Lib.hid HO1
          generalize HN1 : (s).drop (z * (k + 1)) = t2 at HE2 hnl
          have HN2 := Lib.hid HN1.symm
          have HCL := Lib.hid (fun w => clone_any (w := w) o (by omega))
          clear HO1 HN1 he hol
          have he1 := HE1.out
          have he2 := HE2.out
          have S0 : True := trivial
          go_wp2
          refine region_till 10 (fun _ => True) (by kernel_rfl) ?_
          refine till_take 0 30 false (v := ?v0a) (by kernel_rfl) (by kernel_rfl) (by kernel_rfl) (by kernel_rfl) (by kernel_rfl) (fun _ _ _ h => h) ?hw0a S0 ?hy0a ?rest0a
          case hw0a => (simp only [List.getElem?_toArray, List.getElem?_cons_zero, Option.elim]; rfl)
          case hy0a => (simp only [List.getElem?_toArray, List.getElem?_cons_zero, Option.elim]; intro wx _; go_simp; with_reducible rfl)
          simp only [dstOf, List.getElem?_toArray, List.getElem?_cons_zero, Option.bind, Act.put, List.setIfInBounds_toArray, List.set_cons_zero, List.set_cons_succ]
          refine till_take 1 30 false (v := ?v1a) (by kernel_rfl) (by kernel_rfl) (by kernel_rfl) (by kernel_rfl) (by kernel_rfl) (fun _ _ _ h => h) ?hw1a S0 ?hy1a ?rest1a
          case hw1a => (simp only [List.getElem?_toArray, List.getElem?_cons_zero, List.getElem?_cons_succ, Option.elim]; rfl)
          case hy1a => (simp only [List.getElem?_toArray, List.getElem?_cons_zero, List.getElem?_cons_succ, Option.elim]; intro wx _; go_simp; with_reducible rfl)
          simp only [dstOf, List.getElem?_toArray, List.getElem?_cons_zero, List.getElem?_cons_succ, Option.bind, Act.put, List.setIfInBounds_toArray, List.set_cons_zero, List.set_cons_succ]
          refine till_take 2 30 false (v := ?v2a) (by kernel_rfl) (by kernel_rfl) (by kernel_rfl) (by kernel_rfl) (by kernel_rfl) (fun _ _ _ h => h) ?hw2a S0 ?hy2a ?rest2a
          case hw2a => (simp only [List.getElem?_toArray, List.getElem?_cons_zero, List.getElem?_cons_succ, Option.elim]; rfl)
          case hy2a => (simp only [List.getElem?_toArray, List.getElem?_cons_zero, List.getElem?_cons_succ, Option.elim]; intro wx _; go_simp; with_reducible rfl)
          simp only [dstOf, List.getElem?_toArray, List.getElem?_cons_zero, List.getElem?_cons_succ, Option.bind, Act.put, List.setIfInBounds_toArray, List.set_cons_zero, List.set_cons_succ]
          refine till_take 3 30 false (v := ?v3a) (by kernel_rfl) (by kernel_rfl) (by kernel_rfl) (by kernel_rfl) (by kernel_rfl) (fun _ _ _ h => h) ?hw3a S0 ?hy3a ?rest3a
          case hw3a => (simp only [List.getElem?_toArray, List.getElem?_cons_zero, List.getElem?_cons_succ, Option.elim]; rfl)
          case hy3a => (simp only [List.getElem?_toArray, List.getElem?_cons_zero, List.getElem?_cons_succ, Option.elim]; intro wx _; go_simp; with_reducible rfl)
          simp only [dstOf, List.getElem?_toArray, List.getElem?_cons_zero, List.getElem?_cons_succ, Option.bind, Act.put, List.setIfInBounds_toArray, List.set_cons_zero, List.set_cons_succ]
          refine till_take 4 30 false (v := ?v4a) (by kernel_rfl) (by kernel_rfl) (by kernel_rfl) (by kernel_rfl) (by kernel_rfl) (fun _ _ _ h => h) ?hw4a S0 ?hy4a ?rest4a
          case hw4a => (simp only [List.getElem?_toArray, List.getElem?_cons_zero, List.getElem?_cons_succ, Option.elim]; rfl)
          case hy4a => (simp only [List.getElem?_toArray, List.getElem?_cons_zero, List.getElem?_cons_succ, Option.elim]; intro wx _; go_simp; with_reducible rfl)
          simp only [dstOf, List.getElem?_toArray, List.getElem?_cons_zero, List.getElem?_cons_succ, Option.bind, Act.put, List.setIfInBounds_toArray, List.set_cons_zero, List.set_cons_succ]
          refine till_take 6 30 false (v := ?v6a) (by kernel_rfl) (by kernel_rfl) (by kernel_rfl) (by kernel_rfl) (by kernel_rfl) (fun _ _ _ h => h) ?hw6a S0 ?hy6a ?rest6a
          case hw6a => (simp only [List.getElem?_toArray, List.getElem?_cons_zero, List.getElem?_cons_succ, Option.elim]; rfl)
          case hy6a => (simp only [List.getElem?_toArray, List.getElem?_cons_zero, List.getElem?_cons_succ, Option.elim]; intro wx _; go_simp; with_reducible rfl)
          simp only [dstOf, List.getElem?_toArray, List.getElem?_cons_zero, List.getElem?_cons_succ, Option.bind, Act.put, List.setIfInBounds_toArray, List.set_cons_zero, List.set_cons_succ]
          refine till_take 7 30 false (v := ?v7a) (by kernel_rfl) (by kernel_rfl) (by kernel_rfl) (by kernel_rfl) (by kernel_rfl) (fun _ _ _ h => h) ?hw7a S0 ?hy7a ?rest7a
          case hw7a => (simp only [List.getElem?_toArray, List.getElem?_cons_zero, List.getElem?_cons_succ, Option.elim]; rfl)
          case hy7a => (simp only [List.getElem?_toArray, List.getElem?_cons_zero, List.getElem?_cons_succ, Option.elim]; intro wx _; go_simp; with_reducible rfl)
          simp only [dstOf, List.getElem?_toArray, List.getElem?_cons_zero, List.getElem?_cons_succ, Option.bind, Act.put, List.setIfInBounds_toArray, List.set_cons_zero, List.set_cons_succ]
          refine till_take 8 30 false (v := ?v8a) (by kernel_rfl) (by kernel_rfl) (by kernel_rfl) (by kernel_rfl) (by kernel_rfl) (fun _ _ _ h => h) ?hw8a S0 ?hy8a ?rest8a
          case hw8a => (simp only [List.getElem?_toArray, List.getElem?_cons_zero, List.getElem?_cons_succ, Option.elim]; rfl)
          case hy8a => (simp only [List.getElem?_toArray, List.getElem?_cons_zero, List.getElem?_cons_succ, Option.elim]; intro wx _; go_simp; with_reducible rfl)
          simp only [dstOf, List.getElem?_toArray, List.getElem?_cons_zero, List.getElem?_cons_succ, Option.bind, Act.put, List.setIfInBounds_toArray, List.set_cons_zero, List.set_cons_succ]
          refine till_before 5 (by kernel_rfl) (fun K hK => ?_)
          simp only [List.getElem?_toArray, List.getElem?_cons_zero, List.getElem?_cons_succ, Option.elim]
          rw [if_pos (by rfl)]
          go_simp
          go_at_call 25
          refine (HCL.out _).mono ?_
          rintro e w2 ⟨rfl, b2⟩
          refine hK.out _ _ (trivial) ?_
          clear hK K
          try simp only [Act.put, List.setIfInBounds_toArray, List.set_cons_zero, List.set_cons_succ]
          have b23 : Below wr.heap.size wr w2 := (below_drew wr).trans (b2.mono (below_drew wr).size)
          have o3 := below_own HO.out.1 b23
          have f3 := o3.frozenAt k
          have c3 : w2.cell? ⟨w.heap.size, k, none⟩ = some (.string (bs [])) := below_cell hcell b23
          obtain ⟨o4, g4⟩ := o3.stored k (.string (bs o))
          have O4 := Lib.hid o4
          have B4 := Lib.hid (show Below w.heap.size w _ from (HO.out.2.trans (b23.mono HO.out.2.size)).grown g4 (by have := HO.out.2.size; have := b23.size; omega) (fun j hj => by cases hj; exact Nat.le_refl _))
          clear o4 g4 b23 o3 b2 hcell
          refine till_take 9 30 false (v := ?v9a) (by kernel_rfl) (by kernel_rfl) (by kernel_rfl) (by kernel_rfl) (by kernel_rfl) (fun _ _ _ h => h) ?hw9a S0 ?hy9a ?rest9a
          case hw9a => (simp only [List.getElem?_toArray, List.getElem?_cons_zero, List.getElem?_cons_succ, Option.elim]; rfl)
          case hy9a => (simp only [List.getElem?_toArray, List.getElem?_cons_zero, List.getElem?_cons_succ, Option.elim]; intro wx _; go_simp; with_reducible rfl)
          simp only [dstOf, List.getElem?_toArray, List.getElem?_cons_zero, List.getElem?_cons_succ, Option.bind, Act.put, List.setIfInBounds_toArray, List.set_cons_zero, List.set_cons_succ]
          refine till_step 10 (by kernel_rfl) (by kernel_rfl) (fun K hK => ?_)
          simp only [List.getElem?_toArray, List.getElem?_cons_zero, List.getElem?_cons_succ, Option.elim]
          rw [if_pos (by rfl)]
          go_simp
          refine hK.out _ _ ?_
          clear hK K
          try simp only [Act.put, List.setIfInBounds_toArray, List.set_cons_zero, List.set_cons_succ]
          refine till_late 11 (v := ?v11a) (by kernel_rfl) (by kernel_rfl) (by kernel_rfl) (by kernel_rfl) (fun _ _ _ h => h) (by kernel_rfl) ?hw11a ?hy11a ?rest11a
          case hw11a => (simp only [List.getElem?_toArray, List.getElem?_cons_zero, List.getElem?_cons_succ, Option.elim]; rfl)
          case hy11a => (simp only [List.getElem?_toArray, List.getElem?_cons_zero, List.getElem?_cons_succ, Option.elim]; intro wx; go_simp; with_reducible rfl)
          simp only [dstOf, List.getElem?_toArray, List.getElem?_cons_zero, List.getElem?_cons_succ, Option.bind, Act.put, List.setIfInBounds_toArray, List.set_cons_zero]
          refine till_end (by kernel_rfl) ?_ _
          go_wp2
          go_roundw
          case rel =>
            refine ⟨k + 1, t2, by omega, by go_num, rfl, hnl, HN2, Lib.hid ⟨?_, B4.out⟩⟩
            rw [← filW_set hlt, ← txVs_set, HO2.out]
            exact O4.out
          case measure => simp [intOf]; omega
        · obtain rfl : n = k := by omega
          rw [filW_all] at HO
          have HR := Lib.hid (show TxAt wr (.slice (some ⟨w.heap.size, 0, none⟩) n n) (parts s z m) by
            rw [HP.out]; exact TxAt.of_own (l := chk z n (s)) (by have := HO.out.1; exact this))
          have HB := Lib.hid HO.out.2
          clear HO
          go_wp2
          go_ret
          exact ⟨_, rfl, HR.out, HB.out⟩
    · have hzm : z * m ≤ 500 ∧ 2 ≤ z * m := by
        rw [← hn] at hnm; unfold cnt at hnm
        have h1 : m ≤ (s.length - 1) / z := by
          generalize (s.length - 1) / z = q at hnm ⊢
          omega
        have h2 := (Nat.le_div_iff_mul_le (by omega : 0 < z)).1 h1
        rw [Nat.mul_comm]
        exact ⟨by omega, by have := Nat.mul_le_mul hm1 hz2; omega⟩
      have hn2' := hn
      rw [hn, if_neg hnm] at HP
      clear hn
      have hpz : (z : Int) * (m : Int) - 1 = ((z * m - 1 : Nat) : Int) := by
        rw [← Int.natCast_mul]; omega
      have hb0 : 0 ≤ (z : Int) * (m : Int) := by rw [← Int.natCast_mul]; omega
      have hb1 : (z : Int) * (m : Int) ≤ 500 := by rw [← Int.natCast_mul]; omega
      have hlz : z * m - 1 ≤ s.length := by
        rw [← hn2'] at hnm; unfold cnt at hnm
        have h1 : m ≤ (s.length - 1) / z := by
          generalize (s.length - 1) / z = q at hnm ⊢
          omega
        have h2 := (Nat.le_div_iff_mul_le (by omega : 0 < z)).1 h1
        rw [Nat.mul_comm]; omega
      generalize z * m - 1 = p at hpz hlz HP
      have hap : (bs s).extract 0 p ++ ({ data := #[43] } : ByteArray) = bs (s.take p ++ [43]) := by
        rw [bs_extract, List.drop_zero, Nat.sub_zero, show ({ data := #[43] } : ByteArray) = bs [43] from rfl, bs_append]
      have hle : (s.take p ++ [43]).length ≤ 600 := by simp; omega
      generalize s.take p ++ [43] = t0 at hap hle HP
      have hz0 := bs_size t0
      clear hzm
      have hdm : decide (m < n) = true := decide_eq_true (by omega)
      obtain ⟨w1, rm, own1, b1⟩ := make_texts (w := w) m (by omega)
      have O1 := Lib.hid own1
      have B1 := Lib.hid b1
      clear own1 b1
      go_enter Tryd.func12, Tryd.ntmps12
      go_wp2
      go_loopw [0, 38] (fun s0 i wr => ∃ (k : Nat) (t : S), k ≤ m ∧ i = .int .i64 k ∧ s0 = .string (bs t) ∧ t.length ≤ 600 ∧ Hid (t = (t0).drop (z * k)) ∧ Hid (wr.ownsRow w.heap.size 9 1 (.slice (some ⟨w.heap.size, 0, none⟩) m m) m (txVs (filW z m (t0) k)) ∧ Below w.heap.size w wr)) (fun _ i _ => m - (intOf i).toNat)
      case atStart => exact ⟨0, t0, Nat.zero_le _, rfl, rfl, by omega, Lib.hid (by simp), Lib.hid ⟨by rw [filW_zero]; exact O1.out, B1.out⟩⟩
      case round =>
        obtain ⟨k, t, hk, rfl, rfl, htl, HT, HO⟩ := hrel
        by_cases hlt : k < m
        · have hts := bs_size t
          obtain ⟨e, he⟩ : ∃ e, min z t.length = e := ⟨_, rfl⟩
          have hel : e ≤ t.length := by omega
          have hmin : min (z : Int) (t.length : Int) = (e : Int) := by omega
          have HE1 := Lib.hid (show (bs t).extract 0 e = bs ((((t0).drop (z * k)).take z)) by 
            rw [bs_extract, ← HT.out, List.drop_zero, Nat.sub_zero]
            congr 1
            rcases (by omega : z ≤ t.length ∧ e = z ∨ t.length < z ∧ e = t.length) with ⟨_, q⟩ | ⟨h1, q⟩
            · rw [q]
            · rw [q, List.take_of_length_le (Nat.le_refl _), List.take_of_length_le (by omega)])
          have HE2 := Lib.hid (show (bs t).extract e t.length = bs ((t0).drop (z * (k + 1))) by
            rw [bs_extract, Nat.mul_succ, ← List.drop_drop, ← HT.out, List.take_of_length_le (by simp)]
            congr 1
            rcases (by omega : z ≤ t.length ∧ e = z ∨ t.length < z ∧ e = t.length) with ⟨_, q⟩ | ⟨h1, q⟩
            · rw [q]
            · rw [q, List.drop_of_length_le (Nat.le_refl _), List.drop_of_length_le (by omega)])
          have hcell : wr.cell? ⟨w.heap.size, k, none⟩ = some (.string (bs [])) := by
            have := HO.out.1.cells rfl k (.string (bs [])) (by rw [txVs, List.getElem?_map, filW_at hlt]; rfl)
            rwa [Lib.add_plain, Nat.zero_add] at this
          have hol : ((((t0).drop (z * k)).take z)).length ≤ 600 := by rw [← HT.out, List.length_take]; omega
          have hnl : ((t0).drop (z * (k + 1))).length ≤ 600 := by rw [List.length_drop]; rw [HT.out, List.length_drop] at htl; have := Nat.mul_le_mul_left z (Nat.le_succ k); omega
          generalize HO1 : ((t0).drop (z * k)).take z = o at HE1 hol
          have HO2 := Lib.hid HO1
          generalize HN1 : (t0).drop (z * (k + 1)) = t2 at HE2 hnl
          have HN2 := Lib.hid HN1.symm
          have HCL := Lib.hid (fun w => clone_any (w := w) o (by omega))
          clear HO1 HN1 he hol
          have he1 := HE1.out
          have he2 := HE2.out
          have S0 : True := trivial
          go_wp2
          refine region_till 10 (fun _ => True) (by kernel_rfl) ?_
          refine till_take 0 30 false (v := ?v0b) (by kernel_rfl) (by kernel_rfl) (by kernel_rfl) (by kernel_rfl) (by kernel_rfl) (fun _ _ _ h => h) ?hw0b S0 ?hy0b ?rest0b
          case hw0b => (simp only [List.getElem?_toArray, List.getElem?_cons_zero, Option.elim]; rfl)
          case hy0b => (simp only [List.getElem?_toArray, List.getElem?_cons_zero, Option.elim]; intro wx _; go_simp; with_reducible rfl)
          simp only [dstOf, List.getElem?_toArray, List.getElem?_cons_zero, Option.bind, Act.put, List.setIfInBounds_toArray, List.set_cons_zero, List.set_cons_succ]
          refine till_take 1 30 false (v := ?v1b) (by kernel_rfl) (by kernel_rfl) (by kernel_rfl) (by kernel_rfl) (by kernel_rfl) (fun _ _ _ h => h) ?hw1b S0 ?hy1b ?rest1b
          case hw1b => (simp only [List.getElem?_toArray, List.getElem?_cons_zero, List.getElem?_cons_succ, Option.elim]; rfl)
          case hy1b => (simp only [List.getElem?_toArray, List.getElem?_cons_zero, List.getElem?_cons_succ, Option.elim]; intro wx _; go_simp; with_reducible rfl)
          simp only [dstOf, List.getElem?_toArray, List.getElem?_cons_zero, List.getElem?_cons_succ, Option.bind, Act.put, List.setIfInBounds_toArray, List.set_cons_zero, List.set_cons_succ]
          refine till_take 2 30 false (v := ?v2b) (by kernel_rfl) (by kernel_rfl) (by kernel_rfl) (by kernel_rfl) (by kernel_rfl) (fun _ _ _ h => h) ?hw2b S0 ?hy2b ?rest2b
          case hw2b => (simp only [List.getElem?_toArray, List.getElem?_cons_zero, List.getElem?_cons_succ, Option.elim]; rfl)
          case hy2b => (simp only [List.getElem?_toArray, List.getElem?_cons_zero, List.getElem?_cons_succ, Option.elim]; intro wx _; go_simp; with_reducible rfl)
          simp only [dstOf, List.getElem?_toArray, List.getElem?_cons_zero, List.getElem?_cons_succ, Option.bind, Act.put, List.setIfInBounds_toArray, List.set_cons_zero, List.set_cons_succ]
          refine till_take 3 30 false (v := ?v3b) (by kernel_rfl) (by kernel_rfl) (by kernel_rfl) (by kernel_rfl) (by kernel_rfl) (fun _ _ _ h => h) ?hw3b S0 ?hy3b ?rest3b
          case hw3b => (simp only [List.getElem?_toArray, List.getElem?_cons_zero, List.getElem?_cons_succ, Option.elim]; rfl)
          case hy3b => (simp only [List.getElem?_toArray, List.getElem?_cons_zero, List.getElem?_cons_succ, Option.elim]; intro wx _; go_simp; with_reducible rfl)
          simp only [dstOf, List.getElem?_toArray, List.getElem?_cons_zero, List.getElem?_cons_succ, Option.bind, Act.put, List.setIfInBounds_toArray, List.set_cons_zero, List.set_cons_succ]
          refine till_take 4 30 false (v := ?v4b) (by kernel_rfl) (by kernel_rfl) (by kernel_rfl) (by kernel_rfl) (by kernel_rfl) (fun _ _ _ h => h) ?hw4b S0 ?hy4b ?rest4b
          case hw4b => (simp only [List.getElem?_toArray, List.getElem?_cons_zero, List.getElem?_cons_succ, Option.elim]; rfl)
          case hy4b => (simp only [List.getElem?_toArray, List.getElem?_cons_zero, List.getElem?_cons_succ, Option.elim]; intro wx _; go_simp; with_reducible rfl)
          simp only [dstOf, List.getElem?_toArray, List.getElem?_cons_zero, List.getElem?_cons_succ, Option.bind, Act.put, List.setIfInBounds_toArray, List.set_cons_zero, List.set_cons_succ]
          refine till_take 6 30 false (v := ?v6b) (by kernel_rfl) (by kernel_rfl) (by kernel_rfl) (by kernel_rfl) (by kernel_rfl) (fun _ _ _ h => h) ?hw6b S0 ?hy6b ?rest6b
          case hw6b => (simp only [List.getElem?_toArray, List.getElem?_cons_zero, List.getElem?_cons_succ, Option.elim]; rfl)
          case hy6b => (simp only [List.getElem?_toArray, List.getElem?_cons_zero, List.getElem?_cons_succ, Option.elim]; intro wx _; go_simp; with_reducible rfl)
          simp only [dstOf, List.getElem?_toArray, List.getElem?_cons_zero, List.getElem?_cons_succ, Option.bind, Act.put, List.setIfInBounds_toArray, List.set_cons_zero, List.set_cons_succ]
          refine till_take 7 30 false (v := ?v7b) (by kernel_rfl) (by kernel_rfl) (by kernel_rfl) (by kernel_rfl) (by kernel_rfl) (fun _ _ _ h => h) ?hw7b S0 ?hy7b ?rest7b
          case hw7b => (simp only [List.getElem?_toArray, List.getElem?_cons_zero, List.getElem?_cons_succ, Option.elim]; rfl)
          case hy7b => (simp only [List.getElem?_toArray, List.getElem?_cons_zero, List.getElem?_cons_succ, Option.elim]; intro wx _; go_simp; with_reducible rfl)
          simp only [dstOf, List.getElem?_toArray, List.getElem?_cons_zero, List.getElem?_cons_succ, Option.bind, Act.put, List.setIfInBounds_toArray, List.set_cons_zero, List.set_cons_succ]
          refine till_take 8 30 false (v := ?v8b) (by kernel_rfl) (by kernel_rfl) (by kernel_rfl) (by kernel_rfl) (by kernel_rfl) (fun _ _ _ h => h) ?hw8b S0 ?hy8b ?rest8b
          case hw8b => (simp only [List.getElem?_toArray, List.getElem?_cons_zero, List.getElem?_cons_succ, Option.elim]; rfl)
          case hy8b => (simp only [List.getElem?_toArray, List.getElem?_cons_zero, List.getElem?_cons_succ, Option.elim]; intro wx _; go_simp; with_reducible rfl)
          simp only [dstOf, List.getElem?_toArray, List.getElem?_cons_zero, List.getElem?_cons_succ, Option.bind, Act.put, List.setIfInBounds_toArray, List.set_cons_zero, List.set_cons_succ]
          refine till_before 5 (by kernel_rfl) (fun K hK => ?_)
          simp only [List.getElem?_toArray, List.getElem?_cons_zero, List.getElem?_cons_succ, Option.elim]
          rw [if_pos (by rfl)]
          go_simp
          go_at_call 25
          refine (HCL.out _).mono ?_
          rintro e w2 ⟨rfl, b2⟩
          refine hK.out _ _ (trivial) ?_
          clear hK K
          try simp only [Act.put, List.setIfInBounds_toArray, List.set_cons_zero, List.set_cons_succ]
          have b23 : Below wr.heap.size wr w2 := (below_drew wr).trans (b2.mono (below_drew wr).size)
          have o3 := below_own HO.out.1 b23
          have f3 := o3.frozenAt k
          have c3 : w2.cell? ⟨w.heap.size, k, none⟩ = some (.string (bs [])) := below_cell hcell b23
          obtain ⟨o4, g4⟩ := o3.stored k (.string (bs o))
          have O4 := Lib.hid o4
          have B4 := Lib.hid (show Below w.heap.size w _ from (HO.out.2.trans (b23.mono HO.out.2.size)).grown g4 (by have := HO.out.2.size; have := b23.size; omega) (fun j hj => by cases hj; exact Nat.le_refl _))
          clear o4 g4 b23 o3 b2 hcell
          refine till_take 9 30 false (v := ?v9b) (by kernel_rfl) (by kernel_rfl) (by kernel_rfl) (by kernel_rfl) (by kernel_rfl) (fun _ _ _ h => h) ?hw9b S0 ?hy9b ?rest9b
          case hw9b => (simp only [List.getElem?_toArray, List.getElem?_cons_zero, List.getElem?_cons_succ, Option.elim]; rfl)
          case hy9b => (simp only [List.getElem?_toArray, List.getElem?_cons_zero, List.getElem?_cons_succ, Option.elim]; intro wx _; go_simp; with_reducible rfl)
          simp only [dstOf, List.getElem?_toArray, List.getElem?_cons_zero, List.getElem?_cons_succ, Option.bind, Act.put, List.setIfInBounds_toArray, List.set_cons_zero, List.set_cons_succ]
          refine till_step 10 (by kernel_rfl) (by kernel_rfl) (fun K hK => ?_)
          simp only [List.getElem?_toArray, List.getElem?_cons_zero, List.getElem?_cons_succ, Option.elim]
          rw [if_pos (by rfl)]
          go_simp
          refine hK.out _ _ ?_
          clear hK K
          try simp only [Act.put, List.setIfInBounds_toArray, List.set_cons_zero, List.set_cons_succ]
          refine till_late 11 (v := ?v11b) (by kernel_rfl) (by kernel_rfl) (by kernel_rfl) (by kernel_rfl) (fun _ _ _ h => h) (by kernel_rfl) ?hw11b ?hy11b ?rest11b
          case hw11b => (simp only [List.getElem?_toArray, List.getElem?_cons_zero, List.getElem?_cons_succ, Option.elim]; rfl)
          case hy11b => (simp only [List.getElem?_toArray, List.getElem?_cons_zero, List.getElem?_cons_succ, Option.elim]; intro wx; go_simp; with_reducible rfl)
          simp only [dstOf, List.getElem?_toArray, List.getElem?_cons_zero, List.getElem?_cons_succ, Option.bind, Act.put, List.setIfInBounds_toArray, List.set_cons_zero]
          refine till_end (by kernel_rfl) ?_ _
          go_wp2
          go_roundw
          case rel =>
            refine ⟨k + 1, t2, by omega, by go_num, rfl, hnl, HN2, Lib.hid ⟨?_, B4.out⟩⟩
            rw [← filW_set hlt, ← txVs_set, HO2.out]
            exact O4.out
          case measure => simp [intOf]; omega
        · obtain rfl : m = k := by omega
          rw [filW_all] at HO
          have HR := Lib.hid (show TxAt wr (.slice (some ⟨w.heap.size, 0, none⟩) m m) (parts s z m) by
            rw [HP.out]; exact TxAt.of_own (l := chk z m (t0)) (by have := HO.out.1; exact this))
          have HB := Lib.hid HO.out.2
          clear HO
          go_wp2
          go_ret
          exact ⟨_, rfl, HR.out, HB.out⟩
end
end Go.Proofs.YtbjligjmckilcaaDoor
