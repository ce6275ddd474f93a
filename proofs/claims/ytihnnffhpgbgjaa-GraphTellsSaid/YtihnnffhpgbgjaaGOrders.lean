/- The walk of GraphOrders. -/
import Derived.Test.YtihnnffhpgbgjaaGAlike
namespace Go.Proofs.Ytihnnffhpgbgjaa
open Go.RowKit Go.Maps Go.ChangeMaps Go.MapKept
open Gp
attribute [local go_sem ↓] Go.wp_at_zero Go.wp_at_succ

theorem node_info : (Try.prog.info? 32).map (fun i => (i.zero, i.size, i.bytes)) = some (some (.agg #[.int .i64 0, .slice none 0 0]), 2, 32) := by kernel_rfl
theorem ndVs_snoc (l : List (Nd × Value)) (x : Nd × Value) : ndVs (l ++ [x]) = ndVs l ++ [.int .i64 x.1.1, x.2] := by
  induction l with
  | nil => rfl
  | cons a l ih => simp [ndVs, ih]
/-- One more node. -/
theorem OMem.pushNd {w0 w : World} {os : List Ob} {i : Nat} {v : Value} {T : List (Nd × Value)} (h : OMem w0 w os) (hi : os[i]? = some (.row 32 2 v T.length (ndVs T))) (x : Nd) (pa : Option Addr) (pn pc : Nat) (hn : T.length ≤ 1000) :
    ∃ a c w', (Builtin.append_ #[22, 22] 22 #[v, .slice (some ⟨w.heap.size, 0, none⟩) 1 1]).run Try.prog (w.alloc (.cells #[.int .i64 x.1, .slice pa pn pc] 32)) = .ok (.slice a (T.length + 1) c) w' ∧
      OMem w0 w' (os.set i (.row 32 2 (.slice a (T.length + 1) c) (T.length + 1) (ndVs (T ++ [(x, .slice pa pn pc)])))) := by
  have hb2 := (Below.refl w.heap.size w).alloc (Nat.le_refl _) (.cells #[.int .i64 x.1, .slice pa pn pc] 32)
  have h2 := h.fresh hb2
  obtain ⟨i0, hi0, hz0, hz1, hz2⟩ := info_parts node_info
  have hcell : ∀ (j : Nat) (u : Value), [Value.int .i64 x.1, Value.slice pa pn pc][j]? = some u → (w.alloc (.cells #[.int .i64 x.1, .slice pa pn pc] 32)).cell? ((⟨w.heap.size, 0, none⟩ : Addr).add j) = some u := by
    intro j u hj
    rw [Lib.add_plain, Lib.cell_of_heap (MapKept.heap_alloc _ _).1]
    match j, hj with
    | 0, hj => exact hj
    | 1, hj => exact hj
    | j + 2, hj => simp at hj
  obtain ⟨v', w', r1, r2, r3, _, r5⟩ := run_append_own_at (P := Try.prog) _ 0 22 22 32 i0 (.agg #[.int .i64 0, .slice none 0 0]) 2 32 Try.underlying22 hi0 hz0 hz1 hz2 rfl (by decide) v T.length _ (h2.rowAt hi) ⟨w.heap.size, 0, none⟩ 1 1 [.int .i64 x.1, .slice pa pn pc] rfl hcell (fun u hu => by simp at hu; rcases hu with rfl | rfl <;> rfl) (by unfold maxLen; omega) (by omega) (Nat.zero_le _)
  rw [← ndVs_snoc T (x, .slice pa pn pc)] at r2
  obtain ⟨a', c', hv⟩ := own_form r2
  subst hv
  exact ⟨a', c', w', r1, h2.rowGrow hi r3 r2 r5⟩
theorem apart_of {l : List Nd} (h : ∀ i j n m, i < l.length → j < i → l[i]? = some n → l[j]? = some m → m.1 ≠ n.1) : Apart l := by
  intro n hn m hm e
  obtain ⟨i, hi, rfl⟩ := List.mem_iff_getElem.1 hn
  obtain ⟨j, hj, rfl⟩ := List.mem_iff_getElem.1 hm
  rcases Nat.lt_trichotomy i j with q | rfl | q
  · exact (h j i _ _ hj q (List.getElem?_eq_getElem hj) (List.getElem?_eq_getElem hi) e).elim
  · rfl
  · exact (h i j _ _ hi q (List.getElem?_eq_getElem hi) (List.getElem?_eq_getElem hj) e.symm).elim
theorem rev_take {l : List Nd} {k r : Nat} {n : Nd} (hr : (l.length : Int) - 1 - (k : Int) = (r : Int)) (hk : k < l.length) (hn : l[r]? = some n) : l.reverse.take (k + 1) = l.reverse.take k ++ [n] := by
  rw [List.take_add_one, List.getElem?_reverse hk, show l.length - 1 - k = r by omega, hn]; rfl
theorem few_true {l : List Nd} {n : Nat} (h : few l n = true) : l.length ≤ n ∧ ∀ m ∈ l, m.2.length ≤ 30 := of_decide_eq_true h
theorem few20 {w : World} {v : Value} {l : List Nd} {t : Bool} (hv : NodesAt w v l) (ht : few l 20 = t) : Calls Try.prog 6 #[v, .int .i64 20] w fun e w' => e = .returned (.bool t) ∧ w = w' := by
  rw [← ht]; exact few_any (n := 20) hv (by decide)
set_option maxHeartbeats 4000000 in
set_option maxRecDepth 100000 in
theorem orders_walk (A : GApi) {w : World} {v pv : Value} {l : List Nd} {more : Nd} (hv : NodesAt w v l) (hp : NumsAt w pv more.2) :
    Calls Try.prog 4 #[v, .agg #[.int .i64 more.1, pv]] w fun e w' => e = .returned (.bool true) ∧ Below w.heap.size w w' := by
  have HV := Lib.hid hv
  have HP := Lib.hid hp
  obtain ⟨a, cap, rfl, -⟩ := hv
  obtain ⟨pa, pc, rfl⟩ := hp.slice
  have hb : Below w.heap.size w (w.alloc (.cells #[.int .i64 more.1, .slice pa more.2.length pc] 32)) := (Below.refl _ _).alloc (Nat.le_refl _) _
  have d0 : (w.alloc (.cells #[.int .i64 more.1, .slice pa more.2.length pc] 32)).cell? ⟨w.heap.size, 0, none⟩ = some (.int .i64 more.1) := by rw [Lib.cell_of_heap (MapKept.heap_alloc _ _).1]; rfl
  have d1 : (w.alloc (.cells #[.int .i64 more.1, .slice pa more.2.length pc] 32)).cell? ⟨w.heap.size, 0 + 1, none⟩ = some (.slice pa more.2.length pc) := by rw [Lib.cell_of_heap (MapKept.heap_alloc _ _).1]; rfl
  have D0 := Lib.hid d0
  have D1 := Lib.hid d1
  have HB := Lib.hid hb
  clear hb d0 d1 hp
  cases hf : few l 20 with
  | false =>
    have HFW := Lib.hid (fun (w1 : World) (h : Below w.heap.size w w1) => few20 (HV.out.keep h) hf)
    clear hf
    go_enter Try.func4, Try.ntmps4
    go_wp2_with (go_at_call 5; refine (small_any A _).mono ?_; rintro e w1 ⟨rfl, m1⟩; refine Hid.out ?_)
    refine Lib.hid ?_
    have B1 := Lib.hid (HB.out.trans (m1.mono HB.out.size))
    clear m1
    go_wp2_with (go_at_call 6; refine (HFW.out _ B1.out).mono ?_; rintro e w2 ⟨rfl, rfl⟩; refine Hid.out ?_)
    refine Lib.hid ?_
    go_wp2
    go_ret
    exact ⟨rfl, B1.out⟩
  | true =>
    have HFW := Lib.hid (fun (w1 : World) (h : Below w.heap.size w w1) => few20 (HV.out.keep h) hf)
    obtain ⟨hl, hf30⟩ := few_true hf
    have HF := Lib.hid (fun n hn => Nat.le_trans (hf30 n hn) (by decide : 30 ≤ 100))
    clear hf hf30
    by_cases hmo : 30 < more.2.length
    · have hmo2 : (30 : Int) < (more.2.length : Int) := by omega
      go_enter Try.func4, Try.ntmps4
      go_wp2_with (go_at_call 5; refine (small_any A _).mono ?_; rintro e w1 ⟨rfl, m1⟩; refine Hid.out ?_)
      refine Lib.hid ?_
      have B1 := Lib.hid (HB.out.trans (m1.mono HB.out.size))
      have d1 := below_cell D1.out m1
      clear m1
      go_wp2_with (go_at_call 6; refine (HFW.out _ B1.out).mono ?_; rintro e w2 ⟨rfl, rfl⟩; refine Hid.out ?_)
      refine Lib.hid ?_
      go_wp2
      go_ret
      exact ⟨rfl, B1.out⟩
    · have hmo2 : ¬ (30 : Int) < (more.2.length : Int) := by omega
      have hmo3 : more.2.length ≤ 100 := by omega
      go_enter Try.func4, Try.ntmps4
      go_wp2_with (go_at_call 5; refine (small_any A _).mono ?_; rintro e w1 ⟨rfl, m1⟩; refine Hid.out ?_)
      refine Lib.hid ?_
      have B1 := Lib.hid (HB.out.trans (m1.mono HB.out.size))
      have d0 := below_cell D0.out m1
      have d1 := below_cell D1.out m1
      have D0 := Lib.hid d0
      have D1 := Lib.hid d1
      clear m1 d0
      go_wp2_with (go_at_call 6; refine (HFW.out _ B1.out).mono ?_; rintro e w2 ⟨rfl, rfl⟩; refine Hid.out ?_)
      refine Lib.hid ?_
      go_wp2
      clear HFW d1
      go_loopw [6, 7] (fun t i wr => ∃ (k : Nat) (T : List (Nd × Value)) (ta : Option Addr) (tc : Nat), k ≤ l.length ∧ i = .int .i64 k ∧ t = .slice ta T.length tc ∧ Hid (T.map (·.1) = l.reverse.take k) ∧ Hid (∀ x ∈ T, NumsAt w1 x.2 x.1.2) ∧
        Hid (∀ i j n m, i < k → j < i → l[i]? = some n → l[j]? = some m → m.1 ≠ n.1) ∧ OMem w1 wr [.row 32 2 (.slice ta T.length tc) T.length (ndVs T)]) (fun _ i _ => l.length - (intOf i).toNat)
      case atStart => exact ⟨0, [], none, 0, Nat.zero_le _, rfl, rfl, Lib.hid rfl, Lib.hid (fun _ h => by cases h), Lib.hid (fun i j n m h => by omega), (OMem.start w1).rowNil _ _⟩
      case round =>
        obtain ⟨k, T, ta, tc, hk, rfl, rfl, HT, HNS, HD, mr⟩ := hrel
        have MR := Lib.hid mr
        have HTL := Lib.hid (show T.length = k by rw [← List.length_map (f := (·.1)), HT.out, List.length_take, List.length_reverse]; omega)
        by_cases hlt : k < l.length
        · obtain ⟨r, hr⟩ : ∃ r : Nat, (l.length : Int) - 1 - (k : Int) = (r : Int) := ⟨l.length - 1 - k, by omega⟩
          have hrl : r < l.length := by omega
          obtain ⟨n, hn⟩ : ∃ n, l[r]? = some n := ⟨_, List.getElem?_eq_getElem hrl⟩
          obtain ⟨q, hq⟩ : ∃ q, l[k]? = some q := ⟨_, List.getElem?_eq_getElem hlt⟩
          obtain ⟨lb, off, cap', na, nc, h1, c0, c1, hnp⟩ := (HV.out.keep B1.out).both mr.below hn
          cases h1
          obtain ⟨ya, yc, w5, r5, m5⟩ := mr.pushNd (i := 0) rfl n na n.2.length nc (by rw [HTL.out]; omega)
          have R5 := Lib.hid r5
          have M5 := Lib.hid (show OMem w1 w5 [.row 32 2 (.slice ya (T.length + 1) yc) (T.length + 1) (ndVs (T ++ [(n, .slice na n.2.length nc)]))] from m5)
          have HT' := Lib.hid (show (T ++ [(n, Value.slice na n.2.length nc)]).map (·.1) = l.reverse.take (k + 1) by rw [rev_take hr hlt hn, List.map_append, HT.out]; rfl)
          have HNS' := Lib.hid (show ∀ x ∈ T ++ [(n, Value.slice na n.2.length nc)], NumsAt w1 x.2 x.1.2 by
            intro x hx
            rcases List.mem_append.1 hx with hx | hx
            · exact HNS.out x hx
            · simp at hx; subst hx; exact hnp)
          have HQ := Lib.hid hq
          clear m5 r5 hn hnp mr hq
          go_wp2_with (at_builtin; refine Hid.out ?_)
          refine Lib.hid ?_
          refine Lib.wpList_append_run _ rfl _ _ _ _ rfl _ _ rfl rfl _ _ R5.out ?_
          clear R5 c0 c1
          go_wp2
          go_loopw [8] (fun i wr => ∃ m : Nat, m ≤ k ∧ i = .int .i64 m ∧ Hid (∀ j p, j < m → l[j]? = some p → p.1 ≠ q.1) ∧ OMem w1 wr [.row 32 2 (.slice ya (T.length + 1) yc) (T.length + 1) (ndVs (T ++ [(n, .slice na n.2.length nc)]))]) (fun i _ => k - (intOf i).toNat)
          case atStart => exact ⟨0, Nat.zero_le _, rfl, Lib.hid (fun j p h => by omega), M5.out⟩
          case round =>
            obtain ⟨m, hm, rfl, HJ, mi⟩ := hrel
            have MI := Lib.hid mi
            by_cases hlt2 : m < k
            · obtain ⟨p, hp⟩ : ∃ p, l[m]? = some p := ⟨_, List.getElem?_eq_getElem (by omega)⟩
              have hvi := (HV.out.keep B1.out).keep mi.below
              obtain ⟨lb2, off2, cap2, na2, nc2, h2, _, c0, c1, _⟩ := hvi.at_ hp
              cases h2
              obtain ⟨lb3, off3, cap3, na3, nc3, h3, _, c2, c3, _⟩ := hvi.at_ HQ.out
              cases h3
              have hm20 : m < l.length := by omega
              clear mi c1 c3 hvi
              by_cases he : p.1 = q.1
              · rw [he] at c0
                clear hp
                have B9 := Lib.hid (B1.out.trans (MI.out.below.mono B1.out.size))
                go_wp2
                go_quiet (fail)
                go_wp2
                go_ret
                exact ⟨rfl, B9.out.trans ((drewN_below _ _).mono B9.out.size)⟩
              · have HJ' := Lib.hid (show ∀ j p, j < m + 1 → l[j]? = some p → p.1 ≠ q.1 by
                  intro j p' hj hp'
                  by_cases hjm : j = m
                  · subst hjm; rw [hp] at hp'; cases hp'; exact he
                  · exact HJ.out j p' (by omega) hp')
                clear hp
                go_wp2
                go_quiet (fail)
                go_wp2
                go_roundw
                case rel => exact ⟨m + 1, by omega, by go_num, HJ', MI.out.fresh (drewN_below _ _)⟩
                case measure => simp [intOf]; omega
            · obtain rfl : m = k := by omega
              have HD' := Lib.hid (show ∀ i j n m', i < m + 1 → j < i → l[i]? = some n → l[j]? = some m' → m'.1 ≠ n.1 by
                intro i j n' m' hi hj hn' hm'
                by_cases him : i = m
                · subst him; rw [HQ.out] at hn'; cases hn'; exact HJ.out j m' hj hm'
                · exact HD.out i j n' m' (by omega) hj hn' hm')
              clear mi
              go_wp2
              go_roundw
              case rel => exact ⟨m + 1, T ++ [(n, .slice na n.2.length nc)], ya, yc, by omega, by go_num, by rw [List.length_append]; rfl, HT', HNS', HD', by rw [List.length_append]; exact MI.out⟩
              case measure => simp [intOf]; omega
        · obtain rfl : k = l.length := by omega
          have HTR := Lib.hid (show T.map (·.1) = l.reverse by rw [HT.out, ← List.length_reverse, List.take_length])
          have hown := mr.rowAt (i := 0) rfl
          have hvt := NodesAt.of_own hown fun x hx => (HNS.out x hx).keep mr.below
          rw [HTR.out] at hvt
          have B3 := Lib.hid (B1.out.trans (mr.below.mono B1.out.size))
          have BR := Lib.hid mr.below
          have HVT := Lib.hid hvt
          have HAP := apart_of HD.out
          have FG := known_full l
          have KR := full_same HAP (fun n => List.mem_reverse) FG (known_full l.reverse)
          have HK1 := known_any A (OMem.start wr) (HV.out.keep B3.out) HF.out (Nat.le_trans hl (by decide))
          have HK2 := fun (w4 : World) (os : List Ob) (m : OMem wr w4 os) => known_any A m hvt (fun n hn => HF.out n (List.mem_reverse.1 hn)) (by rw [List.length_reverse]; omega)
          rw [← KR] at HK2
          have hAL := all_len FG
          have hGl : (known l).length ≤ 100 := Nat.le_trans (few_nodes FG.ok FG.sub) (by omega)
          have HAS := Lib.hid (show (all (known l) l).length ≤ 1000 by omega)
          generalize known l = G at *
          have HAL := Lib.hid hAL
          have HGL := Lib.hid hGl
          have HK1 := Lib.hid HK1
          have HK2 := Lib.hid HK2
          have HAA := Lib.hid (fun (w5 : World) (os : List Ob) (b : Nat) (m : OMem wr w5 (A.ob b G :: os)) => all_own A m (i := 0) rfl hGl ((HV.out.keep B3.out).keep m.below) (by omega : l.length ≤ 100))
          clear hAL FG HAP KR hown hvt mr hGl
          generalize all G l = xs at *
          go_wp2_with (go_at_call 31; refine (HK1.out).mono ?_; rintro e w4 ⟨b, rfl, m4⟩; refine Hid.out ?_)
          refine Lib.hid ?_
          have HK2 := Lib.hid (HK2.out _ _ m4)
          clear m4 HK1
          go_wp2_with (go_at_call 31; refine (HK2.out).mono ?_; rintro e w5 ⟨c, rfl, m5⟩; refine Hid.out ?_)
          refine Lib.hid ?_
          have M5 := Lib.hid (show OMem wr w5 [A.ob b G, A.ob c G] from m5)
          have HAA := Lib.hid (HAA.out _ _ _ M5.out)
          clear m5 HK2
          go_wp2_with (go_at_call 32; refine (HAA.out).mono ?_; rintro e w6 ⟨xa, xc, rfl, m6⟩; refine Hid.out ?_)
          refine Lib.hid ?_
          have M6 := Lib.hid (show OMem wr w6 [A.ob b G, A.ob c G, .row 3 1 (.slice xa xs.length xc) xs.length (intVs xs)] from M5.out.overRow m6)
          have HCO := Lib.hid (A.copy_ M6.out (i := 0) rfl HGL.out)
          clear m6 HAA
          go_wp2_with (go_at_call 33; refine (HCO.out).mono ?_; rintro e w7 ⟨d, rfl, b7, m7⟩; refine Hid.out ?_)
          refine Lib.hid ?_
          have M7 := Lib.hid (show OMem wr w7 [A.ob b G, A.ob c G, .row 3 1 (.slice xa xs.length xc) xs.length (intVs xs), A.ob d G] from m7)
          have HL := A.len_ m7 (i := 0) rfl HGL.out
          rw [← HAL.out] at HL
          have HL := Lib.hid HL
          clear b7 m7 HCO
          go_wp2_with (go_at_call 10; refine (HL.out).mono ?_; rintro e w8 ⟨rfl, m8⟩; refine Hid.out ?_)
          refine Lib.hid ?_
          have M8 := Lib.hid (M7.out.fresh m8)
          have HLK := Lib.hid (alike_any A M8.out (i := 0) (j := 1) rfl rfl HGL.out (NumsAt.of_own (M8.out.rowAt (i := 2) rfl)) HAS.out)
          clear m8 HL
          go_wp2_with (go_at_call 34; refine (HLK.out).mono ?_; rintro e w9 ⟨rfl, m9⟩; refine Hid.out ?_)
          refine Lib.hid ?_
          have M9 := Lib.hid (M8.out.fresh m9)
          have HLK := Lib.hid (alike_any A M9.out (i := 0) (j := 3) rfl rfl HGL.out (NumsAt.of_own (M9.out.rowAt (i := 2) rfl)) HAS.out)
          clear m9
          go_wp2_with (go_at_call 34; refine (HLK.out).mono ?_; rintro e w10 ⟨rfl, m10⟩; refine Hid.out ?_)
          refine Lib.hid ?_
          have M10 := Lib.hid (M9.out.fresh m10)
          have BM := Lib.hid (BR.out.trans (M10.out.below.mono BR.out.size))
          have d0 := below_cell D0.out BM.out
          have d1 := below_cell D1.out BM.out
          have HAD := Lib.hid (A.add_ (n := more) M10.out (i := 0) rfl (HP.out.keep (B3.out.trans (M10.out.below.mono B3.out.size))) hmo3 HGL.out)
          clear m10 HLK
          go_wp2_with (go_at_call 8; refine (HAD.out).mono ?_; rintro e w11 ⟨rfl, m11⟩; refine Hid.out ?_)
          refine Lib.hid ?_
          have M11 := Lib.hid (show OMem wr w11 [A.ob b (add G more).2, A.ob c G, .row 3 1 (.slice xa xs.length xc) xs.length (intVs xs), A.ob d G] from m11)
          have HLK := Lib.hid (alike_any A M11.out (i := 1) (j := 3) rfl rfl HGL.out (NumsAt.of_own (M11.out.rowAt (i := 2) rfl)) HAS.out)
          clear m11 HAD
          go_wp2_with (go_at_call 34; refine (HLK.out).mono ?_; rintro e w12 ⟨rfl, m12⟩; refine Hid.out ?_)
          refine Lib.hid ?_
          have M12 := Lib.hid (M11.out.fresh m12)
          have BF := Lib.hid (B3.out.trans (M12.out.below.mono B3.out.size))
          clear m12
          go_wp2
          go_ret
          exact ⟨rfl, BF.out⟩
end Go.Proofs.Ytihnnffhpgbgjaa
