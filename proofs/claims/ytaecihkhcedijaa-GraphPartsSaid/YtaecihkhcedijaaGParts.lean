/- The walk of GraphParts. -/
import Derived.Test.YtaecihkhcedijaaGOrders
namespace Go.Proofs.Ytaecihkhcedijaa
open Go.RowKit Go.Maps Go.ChangeMaps Go.MapKept
open Gp
attribute [local go_sem ↓] Go.wp_at_zero Go.wp_at_succ

/-- Named, or before one that is (of the first ones). -/
noncomputable def inn (G : List Nd) (ys : List Int) (x : Int) (j : Nat) : Bool := ys.contains x || (ys.take j).any (ancB G x)
theorem inn_zero (G : List Nd) (ys : List Int) (x : Int) : inn G ys x 0 = ys.contains x := by simp [inn]
theorem inn_next {G : List Nd} {ys : List Int} {x p : Int} {j : Nat} (h : ys[j]? = some p) : inn G ys x (j + 1) = (inn G ys x j || ancB G x p) := by
  unfold inn; rw [List.take_add_one, h, List.any_append, ← Bool.or_assoc]; simp
theorem inn_all {G : List Nd} {ys : List Int} {x : Int} : inn G ys x ys.length = inDown G ys x := by unfold inn inDown; rw [List.take_length]
theorem in_part {G : List Nd} {ys : List Int} {x : Int} (h : x ∈ ids G) : (ids (restrict G ys)).contains x = inDown G ys x := by
  rw [ids_restrict, Bool.eq_iff_iff, List.contains_iff_mem]
  unfold down; rw [List.mem_filter]
  exact ⟨fun q => q.2, fun q => ⟨h, q⟩⟩
noncomputable def cnt (G : List Nd) (ys xs : List Int) : Nat := (xs.filter (inDown G ys)).length
theorem cnt_next {G : List Nd} {ys xs : List Int} {k : Nat} {x : Int} {t : Bool} (h : xs[k]? = some x) (ht : inDown G ys x = t) : cnt G ys (xs.take (k + 1)) = cnt G ys (xs.take k) + (if t = true then 1 else 0) := by
  unfold cnt
  rw [List.take_add_one, h, List.filter_append, List.length_append]
  have e : List.filter (inDown G ys) (some x).toList = if t = true then [x] else [] := by show List.filter _ [x] = _; rw [List.filter_cons, ht]; rfl
  rw [e]; split <;> rfl
theorem cnt_all {G : List Nd} {ys xs : List Int} (ok : Ok G) (hn : xs.Nodup) (h : ∀ z, z ∈ xs ↔ z ∈ ids G) : cnt G ys xs = (restrict G ys).length := by
  rw [restrict_len]
  unfold cnt down
  refine len_same (hn.filter _) (ok.nodup.filter _) fun x => ?_
  rw [List.mem_filter, List.mem_filter, h]
theorem cnt_le (G : List Nd) (ys xs : List Int) (k : Nat) : cnt G ys (xs.take k) ≤ k := Nat.le_trans (List.length_filter_le _ _) (by rw [List.length_take]; omega)
set_option maxHeartbeats 4000000 in
set_option maxRecDepth 100000 in
theorem parts_walk (A : GApi) {w : World} {v u pv : Value} {l : List Nd} {ys : List Int} {more : Nd} (hv : NodesAt w v l) (hu : NumsAt w u ys) (hp : NumsAt w pv more.2) :
    Calls Try.prog 7 #[v, u, .agg #[.int .i64 more.1, pv]] w fun e w' => e = .returned (.bool true) ∧ Below w.heap.size w w' := by
  have HV := Lib.hid hv
  have HU := Lib.hid hu
  have HP := Lib.hid hp
  obtain ⟨a, cap, rfl, -⟩ := hv
  obtain ⟨ua, uc, rfl⟩ := hu.slice
  obtain ⟨pa, pc, rfl⟩ := hp.slice
  have hb : Below w.heap.size w (w.alloc (.cells #[.int .i64 more.1, .slice pa more.2.length pc] 32)) := (Below.refl _ _).alloc (Nat.le_refl _) _
  have d0 : (w.alloc (.cells #[.int .i64 more.1, .slice pa more.2.length pc] 32)).cell? ⟨w.heap.size, 0, none⟩ = some (.int .i64 more.1) := by rw [Lib.cell_of_heap (MapKept.heap_alloc _ _).1]; rfl
  have d1 : (w.alloc (.cells #[.int .i64 more.1, .slice pa more.2.length pc] 32)).cell? ⟨w.heap.size, 0 + 1, none⟩ = some (.slice pa more.2.length pc) := by rw [Lib.cell_of_heap (MapKept.heap_alloc _ _).1]; rfl
  have D0 := Lib.hid d0
  have D1 := Lib.hid d1
  have HB := Lib.hid hb
  clear hb d0 d1 hp hu
  cases hf : few l 20 with
  | false =>
    have HFW := Lib.hid (fun (w1 : World) (h : Below w.heap.size w w1) => few20 (HV.out.keep h) hf)
    clear hf
    go_enter Try.func7, Try.ntmps7
    go_wp2_with (go_at_call 9; refine (small_any A _).mono ?_; rintro e w1 ⟨rfl, m1⟩; refine Hid.out ?_)
    refine Lib.hid ?_
    have B1 := Lib.hid (HB.out.trans (m1.mono HB.out.size))
    have d1 := below_cell D1.out m1
    clear m1
    go_wp2_with (go_at_call 10; refine (HFW.out _ B1.out).mono ?_; rintro e w2 ⟨rfl, rfl⟩; refine Hid.out ?_)
    refine Lib.hid ?_
    go_wp2
    go_ret
    exact ⟨rfl, B1.out⟩
  | true =>
    have HFW := Lib.hid (fun (w1 : World) (h : Below w.heap.size w w1) => few20 (HV.out.keep h) hf)
    obtain ⟨hl, hf30⟩ := few_true hf
    have HF := Lib.hid (fun n hn => Nat.le_trans (hf30 n hn) (by decide : 30 ≤ 100))
    clear hf hf30
    by_cases hys : 20 < ys.length
    · have hys2 : (20 : Int) < (ys.length : Int) := by omega
      go_enter Try.func7, Try.ntmps7
      go_wp2_with (go_at_call 9; refine (small_any A _).mono ?_; rintro e w1 ⟨rfl, m1⟩; refine Hid.out ?_)
      refine Lib.hid ?_
      have B1 := Lib.hid (HB.out.trans (m1.mono HB.out.size))
      have d1 := below_cell D1.out m1
      clear m1
      go_wp2_with (go_at_call 10; refine (HFW.out _ B1.out).mono ?_; rintro e w2 ⟨rfl, rfl⟩; refine Hid.out ?_)
      refine Lib.hid ?_
      go_wp2
      go_ret
      exact ⟨rfl, B1.out⟩
    · have hys2 : ¬ (20 : Int) < (ys.length : Int) := by omega
      by_cases hmo : 30 < more.2.length
      · have hmo2 : (30 : Int) < (more.2.length : Int) := by omega
        go_enter Try.func7, Try.ntmps7
        go_wp2_with (go_at_call 9; refine (small_any A _).mono ?_; rintro e w1 ⟨rfl, m1⟩; refine Hid.out ?_)
        refine Lib.hid ?_
        have B1 := Lib.hid (HB.out.trans (m1.mono HB.out.size))
        have d1 := below_cell D1.out m1
        clear m1
        go_wp2_with (go_at_call 10; refine (HFW.out _ B1.out).mono ?_; rintro e w2 ⟨rfl, rfl⟩; refine Hid.out ?_)
        refine Lib.hid ?_
        go_wp2
        go_ret
        exact ⟨rfl, B1.out⟩
      · have hmo2 : ¬ (30 : Int) < (more.2.length : Int) := by omega
        have hmo3 : more.2.length ≤ 100 := by omega
        go_enter Try.func7, Try.ntmps7
        go_wp2_with (go_at_call 9; refine (small_any A _).mono ?_; rintro e w1 ⟨rfl, m1⟩; refine Hid.out ?_)
        refine Lib.hid ?_
        have B1 := Lib.hid (HB.out.trans (m1.mono HB.out.size))
        have d0 := below_cell D0.out m1
        have d1 := below_cell D1.out m1
        have D0 := Lib.hid d0
        have D1 := Lib.hid d1
        have HK1 := Lib.hid (known_any A (OMem.start w1) (HV.out.keep B1.out) HF.out (Nat.le_trans hl (by decide)))
        clear m1 d0
        go_wp2_with (go_at_call 10; refine (HFW.out _ B1.out).mono ?_; rintro e w2 ⟨rfl, rfl⟩; refine Hid.out ?_)
        refine Lib.hid ?_
        go_wp2_with (go_at_call 35; refine (HK1.out).mono ?_; rintro e w2 ⟨b, rfl, m2⟩; refine Hid.out ?_)
        refine Lib.hid ?_
        have M2 := show OMem w1 w2 [A.ob b (known l)] from m2
        have FG := known_full l
        have hGl : (known l).length ≤ 20 := Nat.le_trans (few_nodes FG.ok FG.sub) hl
        have HAA := all_any A M2 (i := 0) rfl (by omega) ((HV.out.keep B1.out).keep M2.below) (by omega : l.length ≤ 100)
        have HX := Lib.hid (show ∀ z, z ∈ all (known l) l ↔ z ∈ ids (known l) from fun z => full_all FG)
        have hAS : (all (known l) l).length ≤ 20 := Nat.le_trans (all_small _ _) hl
        have HND := Lib.hid (all_nodup (known l) l)
        have OK := Lib.hid FG.ok
        have M2 := Lib.hid M2
        clear HFW HK1 m2 FG d1
        generalize all (known l) l = xs at *
        generalize known l = G at *
        have HAA := Lib.hid HAA
        have HRL := Lib.hid (cnt_all (ys := ys) OK.out HND.out HX.out)
        have hrl : (restrict G ys).length ≤ 20 := by rw [restrict_len]; exact Nat.le_trans (down_len G ys) hGl
        have HRA := Lib.hid (restrict_again (xs := ys) OK.out)
        go_wp2_with (go_at_call 36; refine (HAA.out).mono ?_; rintro e w3 ⟨v3, rfl, hv3, m3⟩; refine Hid.out ?_)
        refine Lib.hid ?_
        have M3 := Lib.hid (M2.out.fresh m3)
        have HXS := Lib.hid hv3
        obtain ⟨xa, xc, rfl⟩ := hv3.slice
        have HU := Lib.hid (HU.out.keep (B1.out.trans (M3.out.below.mono B1.out.size)))
        have HRS := Lib.hid (A.restrict_ M3.out (i := 0) rfl (by omega) HU.out (by omega))
        clear m3 HAA M2 hv3
        go_wp2_with (go_at_call 28; refine (HRS.out).mono ?_; rintro e w4 ⟨c, rfl, b4, m4⟩; refine Hid.out ?_)
        refine Lib.hid ?_
        have M4 := Lib.hid (show OMem w1 w4 [A.ob b G, A.ob c (restrict G ys)] from m4)
        have HXS := Lib.hid (HXS.out.keep b4)
        have HU := Lib.hid (HU.out.keep b4)
        have HCO := Lib.hid (A.copy_ M4.out (i := 0) rfl (by omega))
        clear m4 b4 HRS
        go_wp2_with (go_at_call 37; refine (HCO.out).mono ?_; rintro e w5 ⟨d, rfl, b5, m5⟩; refine Hid.out ?_)
        refine Lib.hid ?_
        have M5 := Lib.hid (show OMem w1 w5 [A.ob b G, A.ob c (restrict G ys), A.ob d G] from m5)
        have HXS := Lib.hid (HXS.out.keep b5)
        have HU := Lib.hid (HU.out.keep b5)
        clear m5 b5 HCO M4 M3
        go_wp2
        go_loopw [12, 13] (fun mm i wr => ∃ (k : Nat), k ≤ xs.length ∧ i = .int .i64 k ∧ mm = .int .i64 (cnt G ys (xs.take k) : Nat) ∧ Below w5.heap.size w5 wr) (fun _ i _ => xs.length - (intOf i).toNat)
        case atStart => exact ⟨0, Nat.zero_le _, rfl, rfl, Below.refl _ _⟩
        case round =>
          obtain ⟨k, hk, rfl, rfl, br⟩ := hrel
          have BR := Lib.hid br
          by_cases hlt : k < xs.length
          · obtain ⟨x, hx⟩ : ∃ x, xs[k]? = some x := ⟨_, List.getElem?_eq_getElem hlt⟩
            have HXK := Lib.hid hx
            have HXI := Lib.hid ((HX.out x).1 (List.mem_of_getElem? hx))
            obtain ⟨b1, off1, cap1, h1, _, hc⟩ := HXS.out.form (by omega)
            cases h1
            have HC := Lib.hid hc
            have c0 := below_cell (hc k x hx) br
            have HH := Lib.hid (s_has x (HU.out.keep br) (by omega))
            have T0 := Lib.hid (inn_zero G ys x)
            clear hc hx br
            go_wp2_with (go_at_call 39; refine (HH.out).mono ?_; rintro e w6 ⟨rfl, rfl⟩; refine Hid.out ?_)
            refine Lib.hid ?_
            clear HH
            go_wp2
            go_loopw [14, 15] (fun th i wr => ∃ j : Nat, j ≤ ys.length ∧ i = .int .i64 j ∧ th = .bool (inn G ys x j) ∧ Below w5.heap.size w5 wr) (fun _ i _ => ys.length - (intOf i).toNat)
            case atStart => exact ⟨0, Nat.zero_le _, rfl, by rw [T0.out]; first | rfl | simp, BR.out⟩
            case round =>
              obtain ⟨j, hj, rfl, rfl, bj⟩ := hrel
              have BJ := Lib.hid bj
              clear BR
              by_cases hlt3 : j < ys.length
              · obtain ⟨p, hp⟩ : ∃ p, ys[j]? = some p := ⟨_, List.getElem?_eq_getElem hlt3⟩
                obtain ⟨b2, off2, cap2, h2, _, hc2⟩ := (HU.out.keep bj).form (by omega)
                cases h2
                have e0 := hc2 j p hp
                have e1 := below_cell (HC.out k x HXK.out) bj
                have HTN := inn_next (G := G) (x := x) hp
                clear hc2 hp bj
                cases ht : inn G ys x j with
                | true =>
                  rw [ht] at HTN
                  have HTN := Lib.hid HTN
                  clear ht
                  go_wp2
                  go_quiet (fail)
                  go_wp2
                  go_roundw
                  case rel => exact ⟨j + 1, by omega, by go_num, by rw [HTN.out]; rfl, BJ.out.trans ((drewN_below _ _).mono BJ.out.size)⟩
                  case measure => simp [intOf]; omega
                | false =>
                  rw [ht, Bool.false_or] at HTN
                  have HTN := Lib.hid HTN
                  have S0 := And.intro (below_cell e1 (below_drew wr)) (below_cell e0 (below_drew wr))
                  have BD := Lib.hid (BJ.out.trans ((below_drew wr).mono BJ.out.size))
                  have H1 := Lib.hid (A.before_ x p (M5.out.fresh BD.out) (i := 0) rfl (by omega))
                  clear ht e0
                  go_wp2
                  refine region_till 11 (fun wx => wx.cell? ⟨b1, off1 + k, none⟩ = some (.int .i64 x) ∧ wx.cell? ⟨b2, off2 + j, none⟩ = some (.int .i64 p)) (by kernel_rfl) ?_
                  refine till_take 0 60 false (v := ?v0ap) (by kernel_rfl) (by kernel_rfl) (by kernel_rfl) (by kernel_rfl) (by kernel_rfl) (fun _ _ _ h => h) ?hw0ap S0 ?hy0ap ?rest0ap
                  case hw0ap => (simp only [List.getElem?_toArray, List.getElem?_cons_zero, Option.elim]; rfl)
                  case hy0ap => (simp only [List.getElem?_toArray, List.getElem?_cons_zero, Option.elim]; intro wx _; go_simp; with_reducible rfl)
                  simp only [dstOf, List.getElem?_toArray, List.getElem?_cons_zero, Option.bind, Act.put, List.setIfInBounds_toArray, List.set_cons_zero, List.set_cons_succ]
                  refine till_take 1 60 false (v := ?v1ap) (by kernel_rfl) (by kernel_rfl) (by kernel_rfl) (by kernel_rfl) (by kernel_rfl) (fun _ _ _ h => h) ?hw1ap S0 ?hy1ap ?rest1ap
                  case hw1ap => (simp only [List.getElem?_toArray, List.getElem?_cons_zero, List.getElem?_cons_succ, Option.elim]; rfl)
                  case hy1ap => (simp only [List.getElem?_toArray, List.getElem?_cons_zero, List.getElem?_cons_succ, Option.elim]; intro wx _; go_simp; with_reducible rfl)
                  simp only [dstOf, List.getElem?_toArray, List.getElem?_cons_zero, List.getElem?_cons_succ, Option.bind, Act.put, List.setIfInBounds_toArray, List.set_cons_zero, List.set_cons_succ]
                  refine till_take 2 60 false (v := ?v2ap) (by kernel_rfl) (by kernel_rfl) (by kernel_rfl) (by kernel_rfl) (by kernel_rfl) (fun _ _ _ h => h) ?hw2ap S0 ?hy2ap ?rest2ap
                  case hw2ap => (simp only [List.getElem?_toArray, List.getElem?_cons_zero, List.getElem?_cons_succ, Option.elim]; rfl)
                  case hy2ap => (simp only [List.getElem?_toArray, List.getElem?_cons_zero, List.getElem?_cons_succ, Option.elim]; intro wx _; go_simp; with_reducible rfl)
                  simp only [dstOf, List.getElem?_toArray, List.getElem?_cons_zero, List.getElem?_cons_succ, Option.bind, Act.put, List.setIfInBounds_toArray, List.set_cons_zero, List.set_cons_succ]
                  refine till_take 3 60 false (v := ?v3ap) (by kernel_rfl) (by kernel_rfl) (by kernel_rfl) (by kernel_rfl) (by kernel_rfl) (fun _ _ _ h => h) ?hw3ap S0 ?hy3ap ?rest3ap
                  case hw3ap => (simp only [List.getElem?_toArray, List.getElem?_cons_zero, List.getElem?_cons_succ, Option.elim]; rfl)
                  case hy3ap => (simp only [List.getElem?_toArray, List.getElem?_cons_zero, List.getElem?_cons_succ, Option.elim]; intro wx _; go_simp; with_reducible rfl)
                  simp only [dstOf, List.getElem?_toArray, List.getElem?_cons_zero, List.getElem?_cons_succ, Option.bind, Act.put, List.setIfInBounds_toArray, List.set_cons_zero, List.set_cons_succ]
                  refine till_take 4 60 false (v := ?v4ap) (by kernel_rfl) (by kernel_rfl) (by kernel_rfl) (by kernel_rfl) (by kernel_rfl) (fun _ _ _ h => h) ?hw4ap S0 ?hy4ap ?rest4ap
                  case hw4ap => (simp only [List.getElem?_toArray, List.getElem?_cons_zero, List.getElem?_cons_succ, Option.elim]; rfl)
                  case hy4ap => (simp only [List.getElem?_toArray, List.getElem?_cons_zero, List.getElem?_cons_succ, Option.elim]; intro wx _; go_simp; with_reducible rfl)
                  simp only [dstOf, List.getElem?_toArray, List.getElem?_cons_zero, List.getElem?_cons_succ, Option.bind, Act.put, List.setIfInBounds_toArray, List.set_cons_zero, List.set_cons_succ]
                  refine till_take 5 60 false (v := ?v5ap) (by kernel_rfl) (by kernel_rfl) (by kernel_rfl) (by kernel_rfl) (by kernel_rfl) (fun _ _ _ h => h) ?hw5ap S0 ?hy5ap ?rest5ap
                  case hw5ap => (simp only [List.getElem?_toArray, List.getElem?_cons_zero, List.getElem?_cons_succ, Option.elim]; rfl)
                  case hy5ap => (simp only [List.getElem?_toArray, List.getElem?_cons_zero, List.getElem?_cons_succ, Option.elim]; intro wx _; go_simp; with_reducible rfl)
                  simp only [dstOf, List.getElem?_toArray, List.getElem?_cons_zero, List.getElem?_cons_succ, Option.bind, Act.put, List.setIfInBounds_toArray, List.set_cons_zero, List.set_cons_succ]
                  refine till_take 6 60 true (v := ?v6ap) (by kernel_rfl) (by kernel_rfl) (by kernel_rfl) (by kernel_rfl) (by kernel_rfl) (fun _ _ _ h => h) ?hw6ap S0 ?hy6ap ?rest6ap
                  case hw6ap => (simp only [List.getElem?_toArray, List.getElem?_cons_zero, List.getElem?_cons_succ, Option.elim]; rfl)
                  case hy6ap => (simp only [List.getElem?_toArray, List.getElem?_cons_zero, List.getElem?_cons_succ, Option.elim]; intro wx hx; have x0 := (hx trivial).1; have x1 := (hx trivial).2; go_simp; with_reducible rfl)
                  simp only [dstOf, List.getElem?_toArray, List.getElem?_cons_zero, List.getElem?_cons_succ, Option.bind, Act.put, List.setIfInBounds_toArray, List.set_cons_zero, List.set_cons_succ]
                  refine till_take 7 60 false (v := ?v7ap) (by kernel_rfl) (by kernel_rfl) (by kernel_rfl) (by kernel_rfl) (by kernel_rfl) (fun _ _ _ h => h) ?hw7ap S0 ?hy7ap ?rest7ap
                  case hw7ap => (simp only [List.getElem?_toArray, List.getElem?_cons_zero, List.getElem?_cons_succ, Option.elim]; rfl)
                  case hy7ap => (simp only [List.getElem?_toArray, List.getElem?_cons_zero, List.getElem?_cons_succ, Option.elim]; intro wx _; go_simp; with_reducible rfl)
                  simp only [dstOf, List.getElem?_toArray, List.getElem?_cons_zero, List.getElem?_cons_succ, Option.bind, Act.put, List.setIfInBounds_toArray, List.set_cons_zero, List.set_cons_succ]
                  refine till_take 8 60 false (v := ?v8ap) (by kernel_rfl) (by kernel_rfl) (by kernel_rfl) (by kernel_rfl) (by kernel_rfl) (fun _ _ _ h => h) ?hw8ap S0 ?hy8ap ?rest8ap
                  case hw8ap => (simp only [List.getElem?_toArray, List.getElem?_cons_zero, List.getElem?_cons_succ, Option.elim]; rfl)
                  case hy8ap => (simp only [List.getElem?_toArray, List.getElem?_cons_zero, List.getElem?_cons_succ, Option.elim]; intro wx _; go_simp; with_reducible rfl)
                  simp only [dstOf, List.getElem?_toArray, List.getElem?_cons_zero, List.getElem?_cons_succ, Option.bind, Act.put, List.setIfInBounds_toArray, List.set_cons_zero, List.set_cons_succ]
                  refine till_take 9 60 false (v := ?v9ap) (by kernel_rfl) (by kernel_rfl) (by kernel_rfl) (by kernel_rfl) (by kernel_rfl) (fun _ _ _ h => h) ?hw9ap S0 ?hy9ap ?rest9ap
                  case hw9ap => (simp only [List.getElem?_toArray, List.getElem?_cons_zero, List.getElem?_cons_succ, Option.elim]; rfl)
                  case hy9ap => (simp only [List.getElem?_toArray, List.getElem?_cons_zero, List.getElem?_cons_succ, Option.elim]; intro wx _; go_simp; with_reducible rfl)
                  simp only [dstOf, List.getElem?_toArray, List.getElem?_cons_zero, List.getElem?_cons_succ, Option.bind, Act.put, List.setIfInBounds_toArray, List.set_cons_zero, List.set_cons_succ]
                  refine till_take 10 60 true (v := ?v10ap) (by kernel_rfl) (by kernel_rfl) (by kernel_rfl) (by kernel_rfl) (by kernel_rfl) (fun _ _ _ h => h) ?hw10ap S0 ?hy10ap ?rest10ap
                  case hw10ap => (simp only [List.getElem?_toArray, List.getElem?_cons_zero, List.getElem?_cons_succ, Option.elim]; rfl)
                  case hy10ap => (simp only [List.getElem?_toArray, List.getElem?_cons_zero, List.getElem?_cons_succ, Option.elim]; intro wx hx; have x0 := (hx trivial).1; have x1 := (hx trivial).2; go_simp; with_reducible rfl)
                  simp only [dstOf, List.getElem?_toArray, List.getElem?_cons_zero, List.getElem?_cons_succ, Option.bind, Act.put, List.setIfInBounds_toArray, List.set_cons_zero, List.set_cons_succ]
                  refine till_step 11 (by kernel_rfl) (by kernel_rfl) (fun K hK => ?_)
                  simp only [List.getElem?_toArray, List.getElem?_cons_zero, List.getElem?_cons_succ, Option.elim]
                  rw [if_pos (by rfl)]
                  go_simp
                  go_at_call 19
                  refine (H1.out).mono ?_
                  rintro e w9 ⟨rfl, m9⟩
                  refine hK.out _ _ ?_
                  clear hK K
                  try simp only [Act.put, List.setIfInBounds_toArray, List.set_cons_zero, List.set_cons_succ]
                  have BD := Lib.hid (BD.out.trans (m9.mono BD.out.size))
                  clear H1 m9 S0
                  refine till_late 12 (v := ?v12ap) (by kernel_rfl) (by kernel_rfl) (by kernel_rfl) (by kernel_rfl) (fun _ _ _ h => h) (by kernel_rfl) ?hw12ap ?hy12ap ?rest12ap
                  case hw12ap => (simp only [List.getElem?_toArray, List.getElem?_cons_zero, List.getElem?_cons_succ, Option.elim]; rfl)
                  case hy12ap => (simp only [List.getElem?_toArray, List.getElem?_cons_zero, List.getElem?_cons_succ, Option.elim]; intro wx; go_simp; with_reducible rfl)
                  simp only [dstOf, List.getElem?_toArray, List.getElem?_cons_zero, List.getElem?_cons_succ, Option.bind, Act.put, List.setIfInBounds_toArray, List.set_cons_zero, List.set_cons_succ]
                  refine till_late 13 (v := ?v13ap) (by kernel_rfl) (by kernel_rfl) (by kernel_rfl) (by kernel_rfl) (fun _ _ _ h => h) (by kernel_rfl) ?hw13ap ?hy13ap ?rest13ap
                  case hw13ap => (simp only [List.getElem?_toArray, List.getElem?_cons_zero, List.getElem?_cons_succ, Option.elim]; rfl)
                  case hy13ap => (simp only [List.getElem?_toArray, List.getElem?_cons_zero, List.getElem?_cons_succ, Option.elim]; intro wx; go_simp; with_reducible rfl)
                  simp only [dstOf, List.getElem?_toArray, List.getElem?_cons_zero, List.getElem?_cons_succ, Option.bind, Act.put, List.setIfInBounds_toArray, List.set_cons_zero, List.set_cons_succ]
                  refine till_end (by kernel_rfl) ?_ _
                  clear e1
                  go_wp2
                  go_roundw
                  case rel => exact ⟨j + 1, by omega, by go_num, by rw [HTN.out], BD.out⟩
                  case measure => simp [intOf]; omega
              · obtain rfl : j = ys.length := by omega
                rw [inn_all]
                have S0 := below_cell (below_cell (HC.out k x HXK.out) bj) (below_drew wr)
                have d1 := below_cell (HC.out k x HXK.out) bj
                have BD := Lib.hid (BJ.out.trans ((below_drew wr).mono BJ.out.size))
                have H1 := A.has_ x (M5.out.fresh BD.out) (i := 1) rfl (by omega)
                rw [in_part HXI.out] at H1
                have hck := cnt_le G ys xs k
                clear bj
                cases ht : inDown G ys x with
                | false =>
                  rw [ht] at H1
                  have HCN := Lib.hid (cnt_next HXK.out ht)
                  have H1 := Lib.hid H1
                  clear ht
                  go_wp2
                  refine region_till 5 (fun wx => wx.cell? ⟨b1, off1 + k, none⟩ = some (.int .i64 x)) (by kernel_rfl) ?_
                  refine till_take 0 60 false (v := ?v0aq) (by kernel_rfl) (by kernel_rfl) (by kernel_rfl) (by kernel_rfl) (by kernel_rfl) (fun _ _ _ h => h) ?hw0aq S0 ?hy0aq ?rest0aq
                  case hw0aq => (simp only [List.getElem?_toArray, List.getElem?_cons_zero, Option.elim]; rfl)
                  case hy0aq => (simp only [List.getElem?_toArray, List.getElem?_cons_zero, Option.elim]; intro wx _; go_simp; with_reducible rfl)
                  simp only [dstOf, List.getElem?_toArray, List.getElem?_cons_zero, Option.bind, Act.put, List.setIfInBounds_toArray, List.set_cons_zero, List.set_cons_succ]
                  refine till_take 1 60 false (v := ?v1aq) (by kernel_rfl) (by kernel_rfl) (by kernel_rfl) (by kernel_rfl) (by kernel_rfl) (fun _ _ _ h => h) ?hw1aq S0 ?hy1aq ?rest1aq
                  case hw1aq => (simp only [List.getElem?_toArray, List.getElem?_cons_zero, List.getElem?_cons_succ, Option.elim]; rfl)
                  case hy1aq => (simp only [List.getElem?_toArray, List.getElem?_cons_zero, List.getElem?_cons_succ, Option.elim]; intro wx _; go_simp; with_reducible rfl)
                  simp only [dstOf, List.getElem?_toArray, List.getElem?_cons_zero, List.getElem?_cons_succ, Option.bind, Act.put, List.setIfInBounds_toArray, List.set_cons_zero, List.set_cons_succ]
                  refine till_take 2 60 false (v := ?v2aq) (by kernel_rfl) (by kernel_rfl) (by kernel_rfl) (by kernel_rfl) (by kernel_rfl) (fun _ _ _ h => h) ?hw2aq S0 ?hy2aq ?rest2aq
                  case hw2aq => (simp only [List.getElem?_toArray, List.getElem?_cons_zero, List.getElem?_cons_succ, Option.elim]; rfl)
                  case hy2aq => (simp only [List.getElem?_toArray, List.getElem?_cons_zero, List.getElem?_cons_succ, Option.elim]; intro wx _; go_simp; with_reducible rfl)
                  simp only [dstOf, List.getElem?_toArray, List.getElem?_cons_zero, List.getElem?_cons_succ, Option.bind, Act.put, List.setIfInBounds_toArray, List.set_cons_zero, List.set_cons_succ]
                  refine till_take 3 60 false (v := ?v3aq) (by kernel_rfl) (by kernel_rfl) (by kernel_rfl) (by kernel_rfl) (by kernel_rfl) (fun _ _ _ h => h) ?hw3aq S0 ?hy3aq ?rest3aq
                  case hw3aq => (simp only [List.getElem?_toArray, List.getElem?_cons_zero, List.getElem?_cons_succ, Option.elim]; rfl)
                  case hy3aq => (simp only [List.getElem?_toArray, List.getElem?_cons_zero, List.getElem?_cons_succ, Option.elim]; intro wx _; go_simp; with_reducible rfl)
                  simp only [dstOf, List.getElem?_toArray, List.getElem?_cons_zero, List.getElem?_cons_succ, Option.bind, Act.put, List.setIfInBounds_toArray, List.set_cons_zero, List.set_cons_succ]
                  refine till_take 4 60 true (v := ?v4aq) (by kernel_rfl) (by kernel_rfl) (by kernel_rfl) (by kernel_rfl) (by kernel_rfl) (fun _ _ _ h => h) ?hw4aq S0 ?hy4aq ?rest4aq
                  case hw4aq => (simp only [List.getElem?_toArray, List.getElem?_cons_zero, List.getElem?_cons_succ, Option.elim]; rfl)
                  case hy4aq => (simp only [List.getElem?_toArray, List.getElem?_cons_zero, List.getElem?_cons_succ, Option.elim]; intro wx hx; have x0 := hx trivial; go_simp; with_reducible rfl)
                  simp only [dstOf, List.getElem?_toArray, List.getElem?_cons_zero, List.getElem?_cons_succ, Option.bind, Act.put, List.setIfInBounds_toArray, List.set_cons_zero, List.set_cons_succ]
                  refine till_take 6 60 false (v := ?v6aq) (by kernel_rfl) (by kernel_rfl) (by kernel_rfl) (by kernel_rfl) (by kernel_rfl) (fun _ _ _ h => h) ?hw6aq S0 ?hy6aq ?rest6aq
                  case hw6aq => (simp only [List.getElem?_toArray, List.getElem?_cons_zero, List.getElem?_cons_succ, Option.elim]; rfl)
                  case hy6aq => (simp only [List.getElem?_toArray, List.getElem?_cons_zero, List.getElem?_cons_succ, Option.elim]; intro wx _; go_simp; with_reducible rfl)
                  simp only [dstOf, List.getElem?_toArray, List.getElem?_cons_zero, List.getElem?_cons_succ, Option.bind, Act.put, List.setIfInBounds_toArray, List.set_cons_zero, List.set_cons_succ]
                  refine till_step 5 (by kernel_rfl) (by kernel_rfl) (fun K hK => ?_)
                  simp only [List.getElem?_toArray, List.getElem?_cons_zero, List.getElem?_cons_succ, Option.elim]
                  rw [if_pos (by rfl)]
                  go_simp
                  go_at_call 15
                  refine (H1.out).mono ?_
                  rintro e w9 ⟨rfl, m9⟩
                  refine hK.out _ _ ?_
                  clear hK K
                  try simp only [Act.put, List.setIfInBounds_toArray, List.set_cons_zero, List.set_cons_succ]
                  have BD := Lib.hid (BD.out.trans (m9.mono BD.out.size))
                  have S0 := below_cell S0 m9
                  clear H1 m9
                  refine till_late 7 (v := ?v7aq) (by kernel_rfl) (by kernel_rfl) (by kernel_rfl) (by kernel_rfl) (fun _ _ _ h => h) (by kernel_rfl) ?hw7aq ?hy7aq ?rest7aq
                  case hw7aq => (simp only [List.getElem?_toArray, List.getElem?_cons_zero, List.getElem?_cons_succ, Option.elim]; rfl)
                  case hy7aq => (simp only [List.getElem?_toArray, List.getElem?_cons_zero, List.getElem?_cons_succ, Option.elim]; intro wx; go_simp; with_reducible rfl)
                  simp only [dstOf, List.getElem?_toArray, List.getElem?_cons_zero, List.getElem?_cons_succ, Option.bind, Act.put, List.setIfInBounds_toArray, List.set_cons_zero, List.set_cons_succ]
                  refine till_late 8 (v := ?v8aq) (by kernel_rfl) (by kernel_rfl) (by kernel_rfl) (by kernel_rfl) (fun _ _ _ h => h) (by kernel_rfl) ?hw8aq ?hy8aq ?rest8aq
                  case hw8aq => (simp only [List.getElem?_toArray, List.getElem?_cons_zero, List.getElem?_cons_succ, Option.elim]; rfl)
                  case hy8aq => (simp only [List.getElem?_toArray, List.getElem?_cons_zero, List.getElem?_cons_succ, Option.elim]; intro wx; go_simp; with_reducible rfl)
                  simp only [dstOf, List.getElem?_toArray, List.getElem?_cons_zero, List.getElem?_cons_succ, Option.bind, Act.put, List.setIfInBounds_toArray, List.set_cons_zero, List.set_cons_succ]
                  refine till_late 9 (v := ?v9aq) (by kernel_rfl) (by kernel_rfl) (by kernel_rfl) (by kernel_rfl) (fun _ _ _ h => h) (by kernel_rfl) ?hw9aq ?hy9aq ?rest9aq
                  case hw9aq => (simp only [List.getElem?_toArray, List.getElem?_cons_zero, List.getElem?_cons_succ, Option.elim]; rfl)
                  case hy9aq => (simp only [List.getElem?_toArray, List.getElem?_cons_zero, List.getElem?_cons_succ, Option.elim]; intro wx; go_simp; with_reducible rfl)
                  simp only [dstOf, List.getElem?_toArray, List.getElem?_cons_zero, List.getElem?_cons_succ, Option.bind, Act.put, List.setIfInBounds_toArray, List.set_cons_zero, List.set_cons_succ]
                  refine till_late 10 (v := ?v10aq) (by kernel_rfl) (by kernel_rfl) (by kernel_rfl) (by kernel_rfl) (fun _ _ _ h => h) (by kernel_rfl) ?hw10aq ?hy10aq ?rest10aq
                  case hw10aq => (simp only [List.getElem?_toArray, List.getElem?_cons_zero, List.getElem?_cons_succ, Option.elim]; rfl)
                  case hy10aq => (simp only [List.getElem?_toArray, List.getElem?_cons_zero, List.getElem?_cons_succ, Option.elim]; intro wx; go_simp; with_reducible rfl)
                  simp only [dstOf, List.getElem?_toArray, List.getElem?_cons_zero, List.getElem?_cons_succ, Option.bind, Act.put, List.setIfInBounds_toArray, List.set_cons_zero, List.set_cons_succ]
                  refine till_skip 11 (by kernel_rfl) (by kernel_rfl) (by kernel_rfl) (by kernel_rfl) (fun _ _ _ h => h) ?hw11aq (fun _ => S0) ?rest11aq
                  case hw11aq => (simp only [List.getElem?_toArray, List.getElem?_cons_zero, List.getElem?_cons_succ, Option.elim]; rfl)
                  simp only [dstOf, List.getElem?_toArray, List.getElem?_cons_zero, List.getElem?_cons_succ, Option.bind, Act.put, List.setIfInBounds_toArray, List.set_cons_zero, List.set_cons_succ]
                  refine till_skip 12 (by kernel_rfl) (by kernel_rfl) (by kernel_rfl) (by kernel_rfl) (fun _ _ _ h => h) ?hw12aq (fun _ => S0) ?rest12aq
                  case hw12aq => (simp only [List.getElem?_toArray, List.getElem?_cons_zero, List.getElem?_cons_succ, Option.elim]; rfl)
                  simp only [dstOf, List.getElem?_toArray, List.getElem?_cons_zero, List.getElem?_cons_succ, Option.bind, Act.put, List.setIfInBounds_toArray, List.set_cons_zero, List.set_cons_succ]
                  refine till_skip 13 (by kernel_rfl) (by kernel_rfl) (by kernel_rfl) (by kernel_rfl) (fun _ _ _ h => h) ?hw13aq (fun _ => S0) ?rest13aq
                  case hw13aq => (simp only [List.getElem?_toArray, List.getElem?_cons_zero, List.getElem?_cons_succ, Option.elim]; rfl)
                  simp only [dstOf, List.getElem?_toArray, List.getElem?_cons_zero, List.getElem?_cons_succ, Option.bind, Act.put, List.setIfInBounds_toArray, List.set_cons_zero, List.set_cons_succ]
                  refine till_skip 14 (by kernel_rfl) (by kernel_rfl) (by kernel_rfl) (by kernel_rfl) (fun _ _ _ h => h) ?hw14aq (fun _ => S0) ?rest14aq
                  case hw14aq => (simp only [List.getElem?_toArray, List.getElem?_cons_zero, List.getElem?_cons_succ, Option.elim]; rfl)
                  simp only [dstOf, List.getElem?_toArray, List.getElem?_cons_zero, List.getElem?_cons_succ, Option.bind, Act.put, List.setIfInBounds_toArray, List.set_cons_zero, List.set_cons_succ]
                  refine till_skip 15 (by kernel_rfl) (by kernel_rfl) (by kernel_rfl) (by kernel_rfl) (fun _ _ _ h => h) ?hw15aq (fun _ => S0) ?rest15aq
                  case hw15aq => (simp only [List.getElem?_toArray, List.getElem?_cons_zero, List.getElem?_cons_succ, Option.elim]; rfl)
                  simp only [dstOf, List.getElem?_toArray, List.getElem?_cons_zero, List.getElem?_cons_succ, Option.bind, Act.put, List.setIfInBounds_toArray, List.set_cons_zero, List.set_cons_succ]
                  refine till_skip 16 (by kernel_rfl) (by kernel_rfl) (by kernel_rfl) (by kernel_rfl) (fun _ _ _ h => h) ?hw16aq (fun _ => S0) ?rest16aq
                  case hw16aq => (simp only [List.getElem?_toArray, List.getElem?_cons_zero, List.getElem?_cons_succ, Option.elim]; rfl)
                  simp only [dstOf, List.getElem?_toArray, List.getElem?_cons_zero, List.getElem?_cons_succ, Option.bind, Act.put, List.setIfInBounds_toArray, List.set_cons_zero, List.set_cons_succ]
                  refine till_skip 17 (by kernel_rfl) (by kernel_rfl) (by kernel_rfl) (by kernel_rfl) (fun _ _ _ h => h) ?hw17aq (fun _ => S0) ?rest17aq
                  case hw17aq => (simp only [List.getElem?_toArray, List.getElem?_cons_zero, List.getElem?_cons_succ, Option.elim]; rfl)
                  simp only [dstOf, List.getElem?_toArray, List.getElem?_cons_zero, List.getElem?_cons_succ, Option.bind, Act.put, List.setIfInBounds_toArray, List.set_cons_zero, List.set_cons_succ]
                  refine till_skip 18 (by kernel_rfl) (by kernel_rfl) (by kernel_rfl) (by kernel_rfl) (fun _ _ _ h => h) ?hw18aq (fun _ => S0) ?rest18aq
                  case hw18aq => (simp only [List.getElem?_toArray, List.getElem?_cons_zero, List.getElem?_cons_succ, Option.elim]; rfl)
                  simp only [dstOf, List.getElem?_toArray, List.getElem?_cons_zero, List.getElem?_cons_succ, Option.bind, Act.put, List.setIfInBounds_toArray, List.set_cons_zero, List.set_cons_succ]
                  refine till_skip 19 (by kernel_rfl) (by kernel_rfl) (by kernel_rfl) (by kernel_rfl) (fun _ _ _ h => h) ?hw19aq (fun _ => S0) ?rest19aq
                  case hw19aq => (simp only [List.getElem?_toArray, List.getElem?_cons_zero, List.getElem?_cons_succ, Option.elim]; rfl)
                  simp only [dstOf, List.getElem?_toArray, List.getElem?_cons_zero, List.getElem?_cons_succ, Option.bind, Act.put, List.setIfInBounds_toArray, List.set_cons_zero, List.set_cons_succ]
                  refine till_skip 20 (by kernel_rfl) (by kernel_rfl) (by kernel_rfl) (by kernel_rfl) (fun _ _ _ h => h) ?hw20aq (fun _ => S0) ?rest20aq
                  case hw20aq => (simp only [List.getElem?_toArray, List.getElem?_cons_zero, List.getElem?_cons_succ, Option.elim]; rfl)
                  simp only [dstOf, List.getElem?_toArray, List.getElem?_cons_zero, List.getElem?_cons_succ, Option.bind, Act.put, List.setIfInBounds_toArray, List.set_cons_zero, List.set_cons_succ]
                  refine till_skip 21 (by kernel_rfl) (by kernel_rfl) (by kernel_rfl) (by kernel_rfl) (fun _ _ _ h => h) ?hw21aq (fun _ => S0) ?rest21aq
                  case hw21aq => (simp only [List.getElem?_toArray, List.getElem?_cons_zero, List.getElem?_cons_succ, Option.elim]; rfl)
                  simp only [dstOf, List.getElem?_toArray, List.getElem?_cons_zero, List.getElem?_cons_succ, Option.bind, Act.put, List.setIfInBounds_toArray, List.set_cons_zero, List.set_cons_succ]
                  refine till_skip 22 (by kernel_rfl) (by kernel_rfl) (by kernel_rfl) (by kernel_rfl) (fun _ _ _ h => h) ?hw22aq (fun _ => S0) ?rest22aq
                  case hw22aq => (simp only [List.getElem?_toArray, List.getElem?_cons_zero, List.getElem?_cons_succ, Option.elim]; rfl)
                  simp only [dstOf, List.getElem?_toArray, List.getElem?_cons_zero, List.getElem?_cons_succ, Option.bind, Act.put, List.setIfInBounds_toArray, List.set_cons_zero, List.set_cons_succ]
                  refine till_skip 23 (by kernel_rfl) (by kernel_rfl) (by kernel_rfl) (by kernel_rfl) (fun _ _ _ h => h) ?hw23aq (fun _ => S0) ?rest23aq
                  case hw23aq => (simp only [List.getElem?_toArray, List.getElem?_cons_zero, List.getElem?_cons_succ, Option.elim]; rfl)
                  simp only [dstOf, List.getElem?_toArray, List.getElem?_cons_zero, List.getElem?_cons_succ, Option.bind, Act.put, List.setIfInBounds_toArray, List.set_cons_zero, List.set_cons_succ]
                  refine till_skip 24 (by kernel_rfl) (by kernel_rfl) (by kernel_rfl) (by kernel_rfl) (fun _ _ _ h => h) ?hw24aq (fun _ => S0) ?rest24aq
                  case hw24aq => (simp only [List.getElem?_toArray, List.getElem?_cons_zero, List.getElem?_cons_succ, Option.elim]; rfl)
                  simp only [dstOf, List.getElem?_toArray, List.getElem?_cons_zero, List.getElem?_cons_succ, Option.bind, Act.put, List.setIfInBounds_toArray, List.set_cons_zero, List.set_cons_succ]
                  refine till_skip 25 (by kernel_rfl) (by kernel_rfl) (by kernel_rfl) (by kernel_rfl) (fun _ _ _ h => h) ?hw25aq (fun _ => S0) ?rest25aq
                  case hw25aq => (simp only [List.getElem?_toArray, List.getElem?_cons_zero, List.getElem?_cons_succ, Option.elim]; rfl)
                  simp only [dstOf, List.getElem?_toArray, List.getElem?_cons_zero, List.getElem?_cons_succ, Option.bind, Act.put, List.setIfInBounds_toArray, List.set_cons_zero, List.set_cons_succ]
                  refine till_skip 26 (by kernel_rfl) (by kernel_rfl) (by kernel_rfl) (by kernel_rfl) (fun _ _ _ h => h) ?hw26aq (fun _ => S0) ?rest26aq
                  case hw26aq => (simp only [List.getElem?_toArray, List.getElem?_cons_zero, List.getElem?_cons_succ, Option.elim]; rfl)
                  simp only [dstOf, List.getElem?_toArray, List.getElem?_cons_zero, List.getElem?_cons_succ, Option.bind, Act.put, List.setIfInBounds_toArray, List.set_cons_zero, List.set_cons_succ]
                  refine till_skip 27 (by kernel_rfl) (by kernel_rfl) (by kernel_rfl) (by kernel_rfl) (fun _ _ _ h => h) ?hw27aq (fun _ => S0) ?rest27aq
                  case hw27aq => (simp only [List.getElem?_toArray, List.getElem?_cons_zero, List.getElem?_cons_succ, Option.elim]; rfl)
                  simp only [dstOf, List.getElem?_toArray, List.getElem?_cons_zero, List.getElem?_cons_succ, Option.bind, Act.put, List.setIfInBounds_toArray, List.set_cons_zero, List.set_cons_succ]
                  refine till_skip 28 (by kernel_rfl) (by kernel_rfl) (by kernel_rfl) (by kernel_rfl) (fun _ _ _ h => h) ?hw28aq (fun _ => S0) ?rest28aq
                  case hw28aq => (simp only [List.getElem?_toArray, List.getElem?_cons_zero, List.getElem?_cons_succ, Option.elim]; rfl)
                  simp only [dstOf, List.getElem?_toArray, List.getElem?_cons_zero, List.getElem?_cons_succ, Option.bind, Act.put, List.setIfInBounds_toArray, List.set_cons_zero, List.set_cons_succ]
                  refine till_skip 29 (by kernel_rfl) (by kernel_rfl) (by kernel_rfl) (by kernel_rfl) (fun _ _ _ h => h) ?hw29aq (fun _ => S0) ?rest29aq
                  case hw29aq => (simp only [List.getElem?_toArray, List.getElem?_cons_zero, List.getElem?_cons_succ, Option.elim]; rfl)
                  simp only [dstOf, List.getElem?_toArray, List.getElem?_cons_zero, List.getElem?_cons_succ, Option.bind, Act.put, List.setIfInBounds_toArray, List.set_cons_zero, List.set_cons_succ]
                  refine till_skip 30 (by kernel_rfl) (by kernel_rfl) (by kernel_rfl) (by kernel_rfl) (fun _ _ _ h => h) ?hw30aq (fun _ => S0) ?rest30aq
                  case hw30aq => (simp only [List.getElem?_toArray, List.getElem?_cons_zero, List.getElem?_cons_succ, Option.elim]; rfl)
                  simp only [dstOf, List.getElem?_toArray, List.getElem?_cons_zero, List.getElem?_cons_succ, Option.bind, Act.put, List.setIfInBounds_toArray, List.set_cons_zero, List.set_cons_succ]
                  refine till_skip 31 (by kernel_rfl) (by kernel_rfl) (by kernel_rfl) (by kernel_rfl) (fun _ _ _ h => h) ?hw31aq (fun _ => S0) ?rest31aq
                  case hw31aq => (simp only [List.getElem?_toArray, List.getElem?_cons_zero, List.getElem?_cons_succ, Option.elim]; rfl)
                  simp only [dstOf, List.getElem?_toArray, List.getElem?_cons_zero, List.getElem?_cons_succ, Option.bind, Act.put, List.setIfInBounds_toArray, List.set_cons_zero, List.set_cons_succ]
                  refine till_skip 32 (by kernel_rfl) (by kernel_rfl) (by kernel_rfl) (by kernel_rfl) (fun _ _ _ h => h) ?hw32aq (fun _ => S0) ?rest32aq
                  case hw32aq => (simp only [List.getElem?_toArray, List.getElem?_cons_zero, List.getElem?_cons_succ, Option.elim]; rfl)
                  simp only [dstOf, List.getElem?_toArray, List.getElem?_cons_zero, List.getElem?_cons_succ, Option.bind, Act.put, List.setIfInBounds_toArray, List.set_cons_zero, List.set_cons_succ]
                  refine till_skip 33 (by kernel_rfl) (by kernel_rfl) (by kernel_rfl) (by kernel_rfl) (fun _ _ _ h => h) ?hw33aq (fun _ => S0) ?rest33aq
                  case hw33aq => (simp only [List.getElem?_toArray, List.getElem?_cons_zero, List.getElem?_cons_succ, Option.elim]; rfl)
                  simp only [dstOf, List.getElem?_toArray, List.getElem?_cons_zero, List.getElem?_cons_succ, Option.bind, Act.put, List.setIfInBounds_toArray, List.set_cons_zero, List.set_cons_succ]
                  refine till_skip 34 (by kernel_rfl) (by kernel_rfl) (by kernel_rfl) (by kernel_rfl) (fun _ _ _ h => h) ?hw34aq (fun _ => S0) ?rest34aq
                  case hw34aq => (simp only [List.getElem?_toArray, List.getElem?_cons_zero, List.getElem?_cons_succ, Option.elim]; rfl)
                  simp only [dstOf, List.getElem?_toArray, List.getElem?_cons_zero, List.getElem?_cons_succ, Option.bind, Act.put, List.setIfInBounds_toArray, List.set_cons_zero, List.set_cons_succ]
                  refine till_skip 35 (by kernel_rfl) (by kernel_rfl) (by kernel_rfl) (by kernel_rfl) (fun _ _ _ h => h) ?hw35aq (fun _ => S0) ?rest35aq
                  case hw35aq => (simp only [List.getElem?_toArray, List.getElem?_cons_zero, List.getElem?_cons_succ, Option.elim]; rfl)
                  simp only [dstOf, List.getElem?_toArray, List.getElem?_cons_zero, List.getElem?_cons_succ, Option.bind, Act.put, List.setIfInBounds_toArray, List.set_cons_zero, List.set_cons_succ]
                  refine till_skip 36 (by kernel_rfl) (by kernel_rfl) (by kernel_rfl) (by kernel_rfl) (fun _ _ _ h => h) ?hw36aq (fun _ => S0) ?rest36aq
                  case hw36aq => (simp only [List.getElem?_toArray, List.getElem?_cons_zero, List.getElem?_cons_succ, Option.elim]; rfl)
                  simp only [dstOf, List.getElem?_toArray, List.getElem?_cons_zero, List.getElem?_cons_succ, Option.bind, Act.put, List.setIfInBounds_toArray, List.set_cons_zero, List.set_cons_succ]
                  refine till_skip 37 (by kernel_rfl) (by kernel_rfl) (by kernel_rfl) (by kernel_rfl) (fun _ _ _ h => h) ?hw37aq (fun _ => S0) ?rest37aq
                  case hw37aq => (simp only [List.getElem?_toArray, List.getElem?_cons_zero, List.getElem?_cons_succ, Option.elim]; rfl)
                  simp only [dstOf, List.getElem?_toArray, List.getElem?_cons_zero, List.getElem?_cons_succ, Option.bind, Act.put, List.setIfInBounds_toArray, List.set_cons_zero, List.set_cons_succ]
                  refine till_skip 38 (by kernel_rfl) (by kernel_rfl) (by kernel_rfl) (by kernel_rfl) (fun _ _ _ h => h) ?hw38aq (fun _ => S0) ?rest38aq
                  case hw38aq => (simp only [List.getElem?_toArray, List.getElem?_cons_zero, List.getElem?_cons_succ, Option.elim]; rfl)
                  simp only [dstOf, List.getElem?_toArray, List.getElem?_cons_zero, List.getElem?_cons_succ, Option.bind, Act.put, List.setIfInBounds_toArray, List.set_cons_zero, List.set_cons_succ]
                  refine till_skip 39 (by kernel_rfl) (by kernel_rfl) (by kernel_rfl) (by kernel_rfl) (fun _ _ _ h => h) ?hw39aq (fun _ => S0) ?rest39aq
                  case hw39aq => (simp only [List.getElem?_toArray, List.getElem?_cons_zero, List.getElem?_cons_succ, Option.elim]; rfl)
                  simp only [dstOf, List.getElem?_toArray, List.getElem?_cons_zero, List.getElem?_cons_succ, Option.bind, Act.put, List.setIfInBounds_toArray, List.set_cons_zero, List.set_cons_succ]
                  refine till_late 40 (v := ?v40aq) (by kernel_rfl) (by kernel_rfl) (by kernel_rfl) (by kernel_rfl) (fun _ _ _ h => h) (by kernel_rfl) ?hw40aq ?hy40aq ?rest40aq
                  case hw40aq => (simp only [List.getElem?_toArray, List.getElem?_cons_zero, List.getElem?_cons_succ, Option.elim]; rfl)
                  case hy40aq => (simp only [List.getElem?_toArray, List.getElem?_cons_zero, List.getElem?_cons_succ, Option.elim]; intro wx; go_simp; with_reducible rfl)
                  simp only [dstOf, List.getElem?_toArray, List.getElem?_cons_zero, List.getElem?_cons_succ, Option.bind, Act.put, List.setIfInBounds_toArray, List.set_cons_zero, List.set_cons_succ]
                  refine till_late 41 (v := ?v41aq) (by kernel_rfl) (by kernel_rfl) (by kernel_rfl) (by kernel_rfl) (fun _ _ _ h => h) (by kernel_rfl) ?hw41aq ?hy41aq ?rest41aq
                  case hw41aq => (simp only [List.getElem?_toArray, List.getElem?_cons_zero, List.getElem?_cons_succ, Option.elim]; rfl)
                  case hy41aq => (simp only [List.getElem?_toArray, List.getElem?_cons_zero, List.getElem?_cons_succ, Option.elim]; intro wx; go_simp; with_reducible rfl)
                  simp only [dstOf, List.getElem?_toArray, List.getElem?_cons_zero, List.getElem?_cons_succ, Option.bind, Act.put, List.setIfInBounds_toArray, List.set_cons_zero, List.set_cons_succ]
                  refine till_end (by kernel_rfl) ?_ _
                  go_wp2
                  go_roundw
                  case rel => exact ⟨k + 1, by omega, by go_num, by rw [HCN.out]; rfl, BD.out⟩
                  case measure => simp [intOf]; omega
                | true =>
                  rw [ht] at H1
                  have HCN := Lib.hid (cnt_next HXK.out ht)
                  have HCI := Lib.hid (show ((cnt G ys (xs.take (k + 1)) : Nat) : Int) = (cnt G ys (xs.take k) : Int) + 1 by rw [HCN.out]; rfl)
                  have hdn : x ∈ down G ys := by unfold down; exact List.mem_filter.2 ⟨HXI.out, ht⟩
                  have LP := Lib.hid (lev_part OK.out hdn)
                  have PP := Lib.hid (past_part OK.out hdn)
                  have H1 := Lib.hid H1
                  clear ht hdn
                  go_wp2
                  refine region_till 37 (fun wx => wx.cell? ⟨b1, off1 + k, none⟩ = some (.int .i64 x)) (by kernel_rfl) ?_
                  refine till_take 0 60 false (v := ?v0ar) (by kernel_rfl) (by kernel_rfl) (by kernel_rfl) (by kernel_rfl) (by kernel_rfl) (fun _ _ _ h => h) ?hw0ar S0 ?hy0ar ?rest0ar
                  case hw0ar => (simp only [List.getElem?_toArray, List.getElem?_cons_zero, Option.elim]; rfl)
                  case hy0ar => (simp only [List.getElem?_toArray, List.getElem?_cons_zero, Option.elim]; intro wx _; go_simp; with_reducible rfl)
                  simp only [dstOf, List.getElem?_toArray, List.getElem?_cons_zero, Option.bind, Act.put, List.setIfInBounds_toArray, List.set_cons_zero, List.set_cons_succ]
                  refine till_take 1 60 false (v := ?v1ar) (by kernel_rfl) (by kernel_rfl) (by kernel_rfl) (by kernel_rfl) (by kernel_rfl) (fun _ _ _ h => h) ?hw1ar S0 ?hy1ar ?rest1ar
                  case hw1ar => (simp only [List.getElem?_toArray, List.getElem?_cons_zero, List.getElem?_cons_succ, Option.elim]; rfl)
                  case hy1ar => (simp only [List.getElem?_toArray, List.getElem?_cons_zero, List.getElem?_cons_succ, Option.elim]; intro wx _; go_simp; with_reducible rfl)
                  simp only [dstOf, List.getElem?_toArray, List.getElem?_cons_zero, List.getElem?_cons_succ, Option.bind, Act.put, List.setIfInBounds_toArray, List.set_cons_zero, List.set_cons_succ]
                  refine till_take 2 60 false (v := ?v2ar) (by kernel_rfl) (by kernel_rfl) (by kernel_rfl) (by kernel_rfl) (by kernel_rfl) (fun _ _ _ h => h) ?hw2ar S0 ?hy2ar ?rest2ar
                  case hw2ar => (simp only [List.getElem?_toArray, List.getElem?_cons_zero, List.getElem?_cons_succ, Option.elim]; rfl)
                  case hy2ar => (simp only [List.getElem?_toArray, List.getElem?_cons_zero, List.getElem?_cons_succ, Option.elim]; intro wx _; go_simp; with_reducible rfl)
                  simp only [dstOf, List.getElem?_toArray, List.getElem?_cons_zero, List.getElem?_cons_succ, Option.bind, Act.put, List.setIfInBounds_toArray, List.set_cons_zero, List.set_cons_succ]
                  refine till_take 3 60 false (v := ?v3ar) (by kernel_rfl) (by kernel_rfl) (by kernel_rfl) (by kernel_rfl) (by kernel_rfl) (fun _ _ _ h => h) ?hw3ar S0 ?hy3ar ?rest3ar
                  case hw3ar => (simp only [List.getElem?_toArray, List.getElem?_cons_zero, List.getElem?_cons_succ, Option.elim]; rfl)
                  case hy3ar => (simp only [List.getElem?_toArray, List.getElem?_cons_zero, List.getElem?_cons_succ, Option.elim]; intro wx _; go_simp; with_reducible rfl)
                  simp only [dstOf, List.getElem?_toArray, List.getElem?_cons_zero, List.getElem?_cons_succ, Option.bind, Act.put, List.setIfInBounds_toArray, List.set_cons_zero, List.set_cons_succ]
                  refine till_take 4 60 true (v := ?v4ar) (by kernel_rfl) (by kernel_rfl) (by kernel_rfl) (by kernel_rfl) (by kernel_rfl) (fun _ _ _ h => h) ?hw4ar S0 ?hy4ar ?rest4ar
                  case hw4ar => (simp only [List.getElem?_toArray, List.getElem?_cons_zero, List.getElem?_cons_succ, Option.elim]; rfl)
                  case hy4ar => (simp only [List.getElem?_toArray, List.getElem?_cons_zero, List.getElem?_cons_succ, Option.elim]; intro wx hx; have x0 := hx trivial; go_simp; with_reducible rfl)
                  simp only [dstOf, List.getElem?_toArray, List.getElem?_cons_zero, List.getElem?_cons_succ, Option.bind, Act.put, List.setIfInBounds_toArray, List.set_cons_zero, List.set_cons_succ]
                  refine till_take 6 60 false (v := ?v6ar) (by kernel_rfl) (by kernel_rfl) (by kernel_rfl) (by kernel_rfl) (by kernel_rfl) (fun _ _ _ h => h) ?hw6ar S0 ?hy6ar ?rest6ar
                  case hw6ar => (simp only [List.getElem?_toArray, List.getElem?_cons_zero, List.getElem?_cons_succ, Option.elim]; rfl)
                  case hy6ar => (simp only [List.getElem?_toArray, List.getElem?_cons_zero, List.getElem?_cons_succ, Option.elim]; intro wx _; go_simp; with_reducible rfl)
                  simp only [dstOf, List.getElem?_toArray, List.getElem?_cons_zero, List.getElem?_cons_succ, Option.bind, Act.put, List.setIfInBounds_toArray, List.set_cons_zero, List.set_cons_succ]
                  refine till_before 5 (by kernel_rfl) (fun K hK => ?_)
                  simp only [List.getElem?_toArray, List.getElem?_cons_zero, List.getElem?_cons_succ, Option.elim]
                  rw [if_pos (by rfl)]
                  go_simp
                  go_at_call 15
                  refine (H1.out).mono ?_
                  rintro e w9 ⟨rfl, m9⟩
                  refine hK.out _ _ (below_cell S0 m9) ?_
                  clear hK K
                  try simp only [Act.put, List.setIfInBounds_toArray, List.set_cons_zero, List.set_cons_succ]
                  have BD := Lib.hid (BD.out.trans (m9.mono BD.out.size))
                  have S0 := below_cell S0 m9
                  clear H1
                  have H1 := A.level_ x (M5.out.fresh BD.out) (i := 1) rfl (by omega)
                  rw [LP.out] at H1
                  have H1 := Lib.hid H1
                  clear m9
                  refine till_take 7 60 false (v := ?v7ar) (by kernel_rfl) (by kernel_rfl) (by kernel_rfl) (by kernel_rfl) (by kernel_rfl) (fun _ _ _ h => h) ?hw7ar S0 ?hy7ar ?rest7ar
                  case hw7ar => (simp only [List.getElem?_toArray, List.getElem?_cons_zero, List.getElem?_cons_succ, Option.elim]; rfl)
                  case hy7ar => (simp only [List.getElem?_toArray, List.getElem?_cons_zero, List.getElem?_cons_succ, Option.elim]; intro wx _; go_simp; with_reducible rfl)
                  simp only [dstOf, List.getElem?_toArray, List.getElem?_cons_zero, List.getElem?_cons_succ, Option.bind, Act.put, List.setIfInBounds_toArray, List.set_cons_zero, List.set_cons_succ]
                  refine till_take 8 60 false (v := ?v8ar) (by kernel_rfl) (by kernel_rfl) (by kernel_rfl) (by kernel_rfl) (by kernel_rfl) (fun _ _ _ h => h) ?hw8ar S0 ?hy8ar ?rest8ar
                  case hw8ar => (simp only [List.getElem?_toArray, List.getElem?_cons_zero, List.getElem?_cons_succ, Option.elim]; rfl)
                  case hy8ar => (simp only [List.getElem?_toArray, List.getElem?_cons_zero, List.getElem?_cons_succ, Option.elim]; intro wx _; go_simp; with_reducible rfl)
                  simp only [dstOf, List.getElem?_toArray, List.getElem?_cons_zero, List.getElem?_cons_succ, Option.bind, Act.put, List.setIfInBounds_toArray, List.set_cons_zero, List.set_cons_succ]
                  refine till_take 9 60 false (v := ?v9ar) (by kernel_rfl) (by kernel_rfl) (by kernel_rfl) (by kernel_rfl) (by kernel_rfl) (fun _ _ _ h => h) ?hw9ar S0 ?hy9ar ?rest9ar
                  case hw9ar => (simp only [List.getElem?_toArray, List.getElem?_cons_zero, List.getElem?_cons_succ, Option.elim]; rfl)
                  case hy9ar => (simp only [List.getElem?_toArray, List.getElem?_cons_zero, List.getElem?_cons_succ, Option.elim]; intro wx _; go_simp; with_reducible rfl)
                  simp only [dstOf, List.getElem?_toArray, List.getElem?_cons_zero, List.getElem?_cons_succ, Option.bind, Act.put, List.setIfInBounds_toArray, List.set_cons_zero, List.set_cons_succ]
                  refine till_take 10 60 false (v := ?v10ar) (by kernel_rfl) (by kernel_rfl) (by kernel_rfl) (by kernel_rfl) (by kernel_rfl) (fun _ _ _ h => h) ?hw10ar S0 ?hy10ar ?rest10ar
                  case hw10ar => (simp only [List.getElem?_toArray, List.getElem?_cons_zero, List.getElem?_cons_succ, Option.elim]; rfl)
                  case hy10ar => (simp only [List.getElem?_toArray, List.getElem?_cons_zero, List.getElem?_cons_succ, Option.elim]; intro wx _; go_simp; with_reducible rfl)
                  simp only [dstOf, List.getElem?_toArray, List.getElem?_cons_zero, List.getElem?_cons_succ, Option.bind, Act.put, List.setIfInBounds_toArray, List.set_cons_zero, List.set_cons_succ]
                  refine till_take 11 60 false (v := ?v11ar) (by kernel_rfl) (by kernel_rfl) (by kernel_rfl) (by kernel_rfl) (by kernel_rfl) (fun _ _ _ h => h) ?hw11ar S0 ?hy11ar ?rest11ar
                  case hw11ar => (simp only [List.getElem?_toArray, List.getElem?_cons_zero, List.getElem?_cons_succ, Option.elim]; rfl)
                  case hy11ar => (simp only [List.getElem?_toArray, List.getElem?_cons_zero, List.getElem?_cons_succ, Option.elim]; intro wx _; go_simp; with_reducible rfl)
                  simp only [dstOf, List.getElem?_toArray, List.getElem?_cons_zero, List.getElem?_cons_succ, Option.bind, Act.put, List.setIfInBounds_toArray, List.set_cons_zero, List.set_cons_succ]
                  refine till_take 12 60 false (v := ?v12ar) (by kernel_rfl) (by kernel_rfl) (by kernel_rfl) (by kernel_rfl) (by kernel_rfl) (fun _ _ _ h => h) ?hw12ar S0 ?hy12ar ?rest12ar
                  case hw12ar => (simp only [List.getElem?_toArray, List.getElem?_cons_zero, List.getElem?_cons_succ, Option.elim]; rfl)
                  case hy12ar => (simp only [List.getElem?_toArray, List.getElem?_cons_zero, List.getElem?_cons_succ, Option.elim]; intro wx _; go_simp; with_reducible rfl)
                  simp only [dstOf, List.getElem?_toArray, List.getElem?_cons_zero, List.getElem?_cons_succ, Option.bind, Act.put, List.setIfInBounds_toArray, List.set_cons_zero, List.set_cons_succ]
                  refine till_take 13 60 false (v := ?v13ar) (by kernel_rfl) (by kernel_rfl) (by kernel_rfl) (by kernel_rfl) (by kernel_rfl) (fun _ _ _ h => h) ?hw13ar S0 ?hy13ar ?rest13ar
                  case hw13ar => (simp only [List.getElem?_toArray, List.getElem?_cons_zero, List.getElem?_cons_succ, Option.elim]; rfl)
                  case hy13ar => (simp only [List.getElem?_toArray, List.getElem?_cons_zero, List.getElem?_cons_succ, Option.elim]; intro wx _; go_simp; with_reducible rfl)
                  simp only [dstOf, List.getElem?_toArray, List.getElem?_cons_zero, List.getElem?_cons_succ, Option.bind, Act.put, List.setIfInBounds_toArray, List.set_cons_zero, List.set_cons_succ]
                  refine till_take 14 60 false (v := ?v14ar) (by kernel_rfl) (by kernel_rfl) (by kernel_rfl) (by kernel_rfl) (by kernel_rfl) (fun _ _ _ h => h) ?hw14ar S0 ?hy14ar ?rest14ar
                  case hw14ar => (simp only [List.getElem?_toArray, List.getElem?_cons_zero, List.getElem?_cons_succ, Option.elim]; rfl)
                  case hy14ar => (simp only [List.getElem?_toArray, List.getElem?_cons_zero, List.getElem?_cons_succ, Option.elim]; intro wx _; go_simp; with_reducible rfl)
                  simp only [dstOf, List.getElem?_toArray, List.getElem?_cons_zero, List.getElem?_cons_succ, Option.bind, Act.put, List.setIfInBounds_toArray, List.set_cons_zero, List.set_cons_succ]
                  refine till_take 15 60 true (v := ?v15ar) (by kernel_rfl) (by kernel_rfl) (by kernel_rfl) (by kernel_rfl) (by kernel_rfl) (fun _ _ _ h => h) ?hw15ar S0 ?hy15ar ?rest15ar
                  case hw15ar => (simp only [List.getElem?_toArray, List.getElem?_cons_zero, List.getElem?_cons_succ, Option.elim]; rfl)
                  case hy15ar => (simp only [List.getElem?_toArray, List.getElem?_cons_zero, List.getElem?_cons_succ, Option.elim]; intro wx hx; have x0 := hx trivial; go_simp; with_reducible rfl)
                  simp only [dstOf, List.getElem?_toArray, List.getElem?_cons_zero, List.getElem?_cons_succ, Option.bind, Act.put, List.setIfInBounds_toArray, List.set_cons_zero, List.set_cons_succ]
                  refine till_take 17 60 false (v := ?v17ar) (by kernel_rfl) (by kernel_rfl) (by kernel_rfl) (by kernel_rfl) (by kernel_rfl) (fun _ _ _ h => h) ?hw17ar S0 ?hy17ar ?rest17ar
                  case hw17ar => (simp only [List.getElem?_toArray, List.getElem?_cons_zero, List.getElem?_cons_succ, Option.elim]; rfl)
                  case hy17ar => (simp only [List.getElem?_toArray, List.getElem?_cons_zero, List.getElem?_cons_succ, Option.elim]; intro wx _; go_simp; with_reducible rfl)
                  simp only [dstOf, List.getElem?_toArray, List.getElem?_cons_zero, List.getElem?_cons_succ, Option.bind, Act.put, List.setIfInBounds_toArray, List.set_cons_zero, List.set_cons_succ]
                  refine till_take 18 60 false (v := ?v18ar) (by kernel_rfl) (by kernel_rfl) (by kernel_rfl) (by kernel_rfl) (by kernel_rfl) (fun _ _ _ h => h) ?hw18ar S0 ?hy18ar ?rest18ar
                  case hw18ar => (simp only [List.getElem?_toArray, List.getElem?_cons_zero, List.getElem?_cons_succ, Option.elim]; rfl)
                  case hy18ar => (simp only [List.getElem?_toArray, List.getElem?_cons_zero, List.getElem?_cons_succ, Option.elim]; intro wx _; go_simp; with_reducible rfl)
                  simp only [dstOf, List.getElem?_toArray, List.getElem?_cons_zero, List.getElem?_cons_succ, Option.bind, Act.put, List.setIfInBounds_toArray, List.set_cons_zero, List.set_cons_succ]
                  refine till_take 19 60 false (v := ?v19ar) (by kernel_rfl) (by kernel_rfl) (by kernel_rfl) (by kernel_rfl) (by kernel_rfl) (fun _ _ _ h => h) ?hw19ar S0 ?hy19ar ?rest19ar
                  case hw19ar => (simp only [List.getElem?_toArray, List.getElem?_cons_zero, List.getElem?_cons_succ, Option.elim]; rfl)
                  case hy19ar => (simp only [List.getElem?_toArray, List.getElem?_cons_zero, List.getElem?_cons_succ, Option.elim]; intro wx _; go_simp; with_reducible rfl)
                  simp only [dstOf, List.getElem?_toArray, List.getElem?_cons_zero, List.getElem?_cons_succ, Option.bind, Act.put, List.setIfInBounds_toArray, List.set_cons_zero, List.set_cons_succ]
                  refine till_take 20 60 false (v := ?v20ar) (by kernel_rfl) (by kernel_rfl) (by kernel_rfl) (by kernel_rfl) (by kernel_rfl) (fun _ _ _ h => h) ?hw20ar S0 ?hy20ar ?rest20ar
                  case hw20ar => (simp only [List.getElem?_toArray, List.getElem?_cons_zero, List.getElem?_cons_succ, Option.elim]; rfl)
                  case hy20ar => (simp only [List.getElem?_toArray, List.getElem?_cons_zero, List.getElem?_cons_succ, Option.elim]; intro wx _; go_simp; with_reducible rfl)
                  simp only [dstOf, List.getElem?_toArray, List.getElem?_cons_zero, List.getElem?_cons_succ, Option.bind, Act.put, List.setIfInBounds_toArray, List.set_cons_zero, List.set_cons_succ]
                  refine till_take 21 60 true (v := ?v21ar) (by kernel_rfl) (by kernel_rfl) (by kernel_rfl) (by kernel_rfl) (by kernel_rfl) (fun _ _ _ h => h) ?hw21ar S0 ?hy21ar ?rest21ar
                  case hw21ar => (simp only [List.getElem?_toArray, List.getElem?_cons_zero, List.getElem?_cons_succ, Option.elim]; rfl)
                  case hy21ar => (simp only [List.getElem?_toArray, List.getElem?_cons_zero, List.getElem?_cons_succ, Option.elim]; intro wx hx; have x0 := hx trivial; go_simp; with_reducible rfl)
                  simp only [dstOf, List.getElem?_toArray, List.getElem?_cons_zero, List.getElem?_cons_succ, Option.bind, Act.put, List.setIfInBounds_toArray, List.set_cons_zero, List.set_cons_succ]
                  refine till_before 16 (by kernel_rfl) (fun K hK => ?_)
                  simp only [List.getElem?_toArray, List.getElem?_cons_zero, List.getElem?_cons_succ, Option.elim]
                  rw [if_pos (by rfl)]
                  go_simp
                  go_at_call 17
                  refine (H1.out).mono ?_
                  rintro e w9 ⟨rfl, m9⟩
                  refine hK.out _ _ (below_cell S0 m9) ?_
                  clear hK K
                  try simp only [Act.put, List.setIfInBounds_toArray, List.set_cons_zero, List.set_cons_succ]
                  have BD := Lib.hid (BD.out.trans (m9.mono BD.out.size))
                  have S0 := below_cell S0 m9
                  clear H1
                  have H1 := A.level_ x (M5.out.fresh BD.out) (i := 0) rfl (by omega)
                  have H1 := Lib.hid H1
                  clear m9
                  refine till_before 22 (by kernel_rfl) (fun K hK => ?_)
                  simp only [List.getElem?_toArray, List.getElem?_cons_zero, List.getElem?_cons_succ, Option.elim]
                  rw [if_pos (by rfl)]
                  go_simp
                  go_at_call 17
                  refine (H1.out).mono ?_
                  rintro e w9 ⟨rfl, m9⟩
                  refine hK.out _ _ (below_cell S0 m9) ?_
                  clear hK K
                  try simp only [Act.put, List.setIfInBounds_toArray, List.set_cons_zero, List.set_cons_succ]
                  have BD := Lib.hid (BD.out.trans (m9.mono BD.out.size))
                  have S0 := below_cell S0 m9
                  clear H1
                  have H1 := A.past_ x (M5.out.fresh BD.out) (i := 1) rfl (by omega)
                  rw [PP.out] at H1
                  have H1 := Lib.hid H1
                  clear m9
                  refine till_take 23 60 false (v := ?v23ar) (by kernel_rfl) (by kernel_rfl) (by kernel_rfl) (by kernel_rfl) (by kernel_rfl) (fun _ _ _ h => h) ?hw23ar S0 ?hy23ar ?rest23ar
                  case hw23ar => (simp only [List.getElem?_toArray, List.getElem?_cons_zero, List.getElem?_cons_succ, Option.elim]; rfl)
                  case hy23ar => (simp only [List.getElem?_toArray, List.getElem?_cons_zero, List.getElem?_cons_succ, Option.elim]; intro wx _; go_simp; with_reducible rfl)
                  simp only [dstOf, List.getElem?_toArray, List.getElem?_cons_zero, List.getElem?_cons_succ, Option.bind, Act.put, List.setIfInBounds_toArray, List.set_cons_zero, List.set_cons_succ]
                  refine till_take 24 60 false (v := ?v24ar) (by kernel_rfl) (by kernel_rfl) (by kernel_rfl) (by kernel_rfl) (by kernel_rfl) (fun _ _ _ h => h) ?hw24ar S0 ?hy24ar ?rest24ar
                  case hw24ar => (simp only [List.getElem?_toArray, List.getElem?_cons_zero, List.getElem?_cons_succ, Option.elim]; rfl)
                  case hy24ar => (simp only [List.getElem?_toArray, List.getElem?_cons_zero, List.getElem?_cons_succ, Option.elim]; intro wx _; go_simp; with_reducible rfl)
                  simp only [dstOf, List.getElem?_toArray, List.getElem?_cons_zero, List.getElem?_cons_succ, Option.bind, Act.put, List.setIfInBounds_toArray, List.set_cons_zero, List.set_cons_succ]
                  refine till_take 25 60 false (v := ?v25ar) (by kernel_rfl) (by kernel_rfl) (by kernel_rfl) (by kernel_rfl) (by kernel_rfl) (fun _ _ _ h => h) ?hw25ar S0 ?hy25ar ?rest25ar
                  case hw25ar => (simp only [List.getElem?_toArray, List.getElem?_cons_zero, List.getElem?_cons_succ, Option.elim]; rfl)
                  case hy25ar => (simp only [List.getElem?_toArray, List.getElem?_cons_zero, List.getElem?_cons_succ, Option.elim]; intro wx _; go_simp; with_reducible rfl)
                  simp only [dstOf, List.getElem?_toArray, List.getElem?_cons_zero, List.getElem?_cons_succ, Option.bind, Act.put, List.setIfInBounds_toArray, List.set_cons_zero, List.set_cons_succ]
                  refine till_take 26 60 false (v := ?v26ar) (by kernel_rfl) (by kernel_rfl) (by kernel_rfl) (by kernel_rfl) (by kernel_rfl) (fun _ _ _ h => h) ?hw26ar S0 ?hy26ar ?rest26ar
                  case hw26ar => (simp only [List.getElem?_toArray, List.getElem?_cons_zero, List.getElem?_cons_succ, Option.elim]; rfl)
                  case hy26ar => (simp only [List.getElem?_toArray, List.getElem?_cons_zero, List.getElem?_cons_succ, Option.elim]; intro wx _; go_simp; with_reducible rfl)
                  simp only [dstOf, List.getElem?_toArray, List.getElem?_cons_zero, List.getElem?_cons_succ, Option.bind, Act.put, List.setIfInBounds_toArray, List.set_cons_zero, List.set_cons_succ]
                  refine till_take 27 60 false (v := ?v27ar) (by kernel_rfl) (by kernel_rfl) (by kernel_rfl) (by kernel_rfl) (by kernel_rfl) (fun _ _ _ h => h) ?hw27ar S0 ?hy27ar ?rest27ar
                  case hw27ar => (simp only [List.getElem?_toArray, List.getElem?_cons_zero, List.getElem?_cons_succ, Option.elim]; rfl)
                  case hy27ar => (simp only [List.getElem?_toArray, List.getElem?_cons_zero, List.getElem?_cons_succ, Option.elim]; intro wx _; go_simp; with_reducible rfl)
                  simp only [dstOf, List.getElem?_toArray, List.getElem?_cons_zero, List.getElem?_cons_succ, Option.bind, Act.put, List.setIfInBounds_toArray, List.set_cons_zero, List.set_cons_succ]
                  refine till_take 28 60 false (v := ?v28ar) (by kernel_rfl) (by kernel_rfl) (by kernel_rfl) (by kernel_rfl) (by kernel_rfl) (fun _ _ _ h => h) ?hw28ar S0 ?hy28ar ?rest28ar
                  case hw28ar => (simp only [List.getElem?_toArray, List.getElem?_cons_zero, List.getElem?_cons_succ, Option.elim]; rfl)
                  case hy28ar => (simp only [List.getElem?_toArray, List.getElem?_cons_zero, List.getElem?_cons_succ, Option.elim]; intro wx _; go_simp; with_reducible rfl)
                  simp only [dstOf, List.getElem?_toArray, List.getElem?_cons_zero, List.getElem?_cons_succ, Option.bind, Act.put, List.setIfInBounds_toArray, List.set_cons_zero, List.set_cons_succ]
                  refine till_take 29 60 true (v := ?v29ar) (by kernel_rfl) (by kernel_rfl) (by kernel_rfl) (by kernel_rfl) (by kernel_rfl) (fun _ _ _ h => h) ?hw29ar S0 ?hy29ar ?rest29ar
                  case hw29ar => (simp only [List.getElem?_toArray, List.getElem?_cons_zero, List.getElem?_cons_succ, Option.elim]; rfl)
                  case hy29ar => (simp only [List.getElem?_toArray, List.getElem?_cons_zero, List.getElem?_cons_succ, Option.elim]; intro wx hx; have x0 := hx trivial; go_simp; with_reducible rfl)
                  simp only [dstOf, List.getElem?_toArray, List.getElem?_cons_zero, List.getElem?_cons_succ, Option.bind, Act.put, List.setIfInBounds_toArray, List.set_cons_zero, List.set_cons_succ]
                  refine till_take 31 60 false (v := ?v31ar) (by kernel_rfl) (by kernel_rfl) (by kernel_rfl) (by kernel_rfl) (by kernel_rfl) (fun _ _ _ h => h) ?hw31ar S0 ?hy31ar ?rest31ar
                  case hw31ar => (simp only [List.getElem?_toArray, List.getElem?_cons_zero, List.getElem?_cons_succ, Option.elim]; rfl)
                  case hy31ar => (simp only [List.getElem?_toArray, List.getElem?_cons_zero, List.getElem?_cons_succ, Option.elim]; intro wx _; go_simp; with_reducible rfl)
                  simp only [dstOf, List.getElem?_toArray, List.getElem?_cons_zero, List.getElem?_cons_succ, Option.bind, Act.put, List.setIfInBounds_toArray, List.set_cons_zero, List.set_cons_succ]
                  refine till_take 32 60 false (v := ?v32ar) (by kernel_rfl) (by kernel_rfl) (by kernel_rfl) (by kernel_rfl) (by kernel_rfl) (fun _ _ _ h => h) ?hw32ar S0 ?hy32ar ?rest32ar
                  case hw32ar => (simp only [List.getElem?_toArray, List.getElem?_cons_zero, List.getElem?_cons_succ, Option.elim]; rfl)
                  case hy32ar => (simp only [List.getElem?_toArray, List.getElem?_cons_zero, List.getElem?_cons_succ, Option.elim]; intro wx _; go_simp; with_reducible rfl)
                  simp only [dstOf, List.getElem?_toArray, List.getElem?_cons_zero, List.getElem?_cons_succ, Option.bind, Act.put, List.setIfInBounds_toArray, List.set_cons_zero, List.set_cons_succ]
                  refine till_take 33 60 false (v := ?v33ar) (by kernel_rfl) (by kernel_rfl) (by kernel_rfl) (by kernel_rfl) (by kernel_rfl) (fun _ _ _ h => h) ?hw33ar S0 ?hy33ar ?rest33ar
                  case hw33ar => (simp only [List.getElem?_toArray, List.getElem?_cons_zero, List.getElem?_cons_succ, Option.elim]; rfl)
                  case hy33ar => (simp only [List.getElem?_toArray, List.getElem?_cons_zero, List.getElem?_cons_succ, Option.elim]; intro wx _; go_simp; with_reducible rfl)
                  simp only [dstOf, List.getElem?_toArray, List.getElem?_cons_zero, List.getElem?_cons_succ, Option.bind, Act.put, List.setIfInBounds_toArray, List.set_cons_zero, List.set_cons_succ]
                  refine till_take 34 60 false (v := ?v34ar) (by kernel_rfl) (by kernel_rfl) (by kernel_rfl) (by kernel_rfl) (by kernel_rfl) (fun _ _ _ h => h) ?hw34ar S0 ?hy34ar ?rest34ar
                  case hw34ar => (simp only [List.getElem?_toArray, List.getElem?_cons_zero, List.getElem?_cons_succ, Option.elim]; rfl)
                  case hy34ar => (simp only [List.getElem?_toArray, List.getElem?_cons_zero, List.getElem?_cons_succ, Option.elim]; intro wx _; go_simp; with_reducible rfl)
                  simp only [dstOf, List.getElem?_toArray, List.getElem?_cons_zero, List.getElem?_cons_succ, Option.bind, Act.put, List.setIfInBounds_toArray, List.set_cons_zero, List.set_cons_succ]
                  refine till_take 35 60 true (v := ?v35ar) (by kernel_rfl) (by kernel_rfl) (by kernel_rfl) (by kernel_rfl) (by kernel_rfl) (fun _ _ _ h => h) ?hw35ar S0 ?hy35ar ?rest35ar
                  case hw35ar => (simp only [List.getElem?_toArray, List.getElem?_cons_zero, List.getElem?_cons_succ, Option.elim]; rfl)
                  case hy35ar => (simp only [List.getElem?_toArray, List.getElem?_cons_zero, List.getElem?_cons_succ, Option.elim]; intro wx hx; have x0 := hx trivial; go_simp; with_reducible rfl)
                  simp only [dstOf, List.getElem?_toArray, List.getElem?_cons_zero, List.getElem?_cons_succ, Option.bind, Act.put, List.setIfInBounds_toArray, List.set_cons_zero, List.set_cons_succ]
                  refine till_before 30 (by kernel_rfl) (fun K hK => ?_)
                  simp only [List.getElem?_toArray, List.getElem?_cons_zero, List.getElem?_cons_succ, Option.elim]
                  rw [if_pos (by rfl)]
                  go_simp
                  go_at_call 24
                  refine (H1.out).mono ?_
                  rintro e w9 ⟨v1, rfl, hv1, m9⟩
                  refine hK.out _ _ (below_cell S0 m9) ?_
                  clear hK K
                  try simp only [Act.put, List.setIfInBounds_toArray, List.set_cons_zero, List.set_cons_succ]
                  have BD := Lib.hid (BD.out.trans (m9.mono BD.out.size))
                  have S0 := below_cell S0 m9
                  clear H1
                  have V1 := Lib.hid hv1
                  clear hv1
                  have H1 := A.past_ x (M5.out.fresh BD.out) (i := 0) rfl (by omega)
                  have H1 := Lib.hid H1
                  clear m9
                  refine till_before 36 (by kernel_rfl) (fun K hK => ?_)
                  simp only [List.getElem?_toArray, List.getElem?_cons_zero, List.getElem?_cons_succ, Option.elim]
                  rw [if_pos (by rfl)]
                  go_simp
                  go_at_call 24
                  refine (H1.out).mono ?_
                  rintro e w9 ⟨v2, rfl, hv2, m9⟩
                  refine hK.out _ _ (below_cell S0 m9) ?_
                  clear hK K
                  try simp only [Act.put, List.setIfInBounds_toArray, List.set_cons_zero, List.set_cons_succ]
                  have BD := Lib.hid (BD.out.trans (m9.mono BD.out.size))
                  have S0 := below_cell S0 m9
                  clear H1
                  have H1 := nums_eq (V1.out.keep m9) hv2 (Nat.le_trans (past_len G x) (by omega))
                  clear V1 hv2
                  have H1 := Lib.hid H1
                  clear m9
                  refine till_step 37 (by kernel_rfl) (by kernel_rfl) (fun K hK => ?_)
                  simp only [List.getElem?_toArray, List.getElem?_cons_zero, List.getElem?_cons_succ, Option.elim]
                  rw [if_pos (by rfl)]
                  go_simp
                  go_at_call 21
                  refine (H1.out).mono ?_
                  rintro e w9 ⟨rfl, m9⟩
                  refine hK.out _ _ ?_
                  clear hK K
                  try simp only [Act.put, List.setIfInBounds_toArray, List.set_cons_zero, List.set_cons_succ]
                  have BD := Lib.hid (BD.out.trans (m9.mono BD.out.size))
                  clear H1 m9 S0
                  refine till_late 38 (v := ?v38ar) (by kernel_rfl) (by kernel_rfl) (by kernel_rfl) (by kernel_rfl) (fun _ _ _ h => h) (by kernel_rfl) ?hw38ar ?hy38ar ?rest38ar
                  case hw38ar => (simp only [List.getElem?_toArray, List.getElem?_cons_zero, List.getElem?_cons_succ, Option.elim]; rfl)
                  case hy38ar => (simp only [List.getElem?_toArray, List.getElem?_cons_zero, List.getElem?_cons_succ, Option.elim]; intro wx; go_simp; with_reducible rfl)
                  simp only [dstOf, List.getElem?_toArray, List.getElem?_cons_zero, List.getElem?_cons_succ, Option.bind, Act.put, List.setIfInBounds_toArray, List.set_cons_zero, List.set_cons_succ]
                  refine till_late 39 (v := ?v39ar) (by kernel_rfl) (by kernel_rfl) (by kernel_rfl) (by kernel_rfl) (fun _ _ _ h => h) (by kernel_rfl) ?hw39ar ?hy39ar ?rest39ar
                  case hw39ar => (simp only [List.getElem?_toArray, List.getElem?_cons_zero, List.getElem?_cons_succ, Option.elim]; rfl)
                  case hy39ar => (simp only [List.getElem?_toArray, List.getElem?_cons_zero, List.getElem?_cons_succ, Option.elim]; intro wx; go_simp; with_reducible rfl)
                  simp only [dstOf, List.getElem?_toArray, List.getElem?_cons_zero, List.getElem?_cons_succ, Option.bind, Act.put, List.setIfInBounds_toArray, List.set_cons_zero, List.set_cons_succ]
                  refine till_late 40 (v := ?v40ar) (by kernel_rfl) (by kernel_rfl) (by kernel_rfl) (by kernel_rfl) (fun _ _ _ h => h) (by kernel_rfl) ?hw40ar ?hy40ar ?rest40ar
                  case hw40ar => (simp only [List.getElem?_toArray, List.getElem?_cons_zero, List.getElem?_cons_succ, Option.elim]; rfl)
                  case hy40ar => (simp only [List.getElem?_toArray, List.getElem?_cons_zero, List.getElem?_cons_succ, Option.elim]; intro wx; go_simp; with_reducible rfl)
                  simp only [dstOf, List.getElem?_toArray, List.getElem?_cons_zero, List.getElem?_cons_succ, Option.bind, Act.put, List.setIfInBounds_toArray, List.set_cons_zero, List.set_cons_succ]
                  refine till_late 41 (v := ?v41ar) (by kernel_rfl) (by kernel_rfl) (by kernel_rfl) (by kernel_rfl) (fun _ _ _ h => h) (by kernel_rfl) ?hw41ar ?hy41ar ?rest41ar
                  case hw41ar => (simp only [List.getElem?_toArray, List.getElem?_cons_zero, List.getElem?_cons_succ, Option.elim]; rfl)
                  case hy41ar => (simp only [List.getElem?_toArray, List.getElem?_cons_zero, List.getElem?_cons_succ, Option.elim]; intro wx; go_simp; with_reducible rfl)
                  simp only [dstOf, List.getElem?_toArray, List.getElem?_cons_zero, List.getElem?_cons_succ, Option.bind, Act.put, List.setIfInBounds_toArray, List.set_cons_zero, List.set_cons_succ]
                  refine till_end (by kernel_rfl) ?_ _
                  go_wp2
                  go_roundw
                  case rel => exact ⟨k + 1, by omega, by go_num, by rw [HCI.out], BD.out⟩
                  case measure => simp [intOf]; omega
          · obtain rfl : k = xs.length := by omega
            rw [List.take_length, HRL.out]
            have HRS := A.restrict_ (M5.out.fresh br) (i := 1) rfl (by omega) (HU.out.keep br) (by omega)
            rw [HRA.out] at HRS
            have HRS := Lib.hid HRS
            clear br
            go_wp2_with (go_at_call 28; refine (HRS.out).mono ?_; rintro e w7 ⟨f, rfl, b7, m7⟩; refine Hid.out ?_)
            refine Lib.hid ?_
            have M7 := Lib.hid (show OMem w1 w7 [A.ob b G, A.ob c (restrict G ys), A.ob d G, A.ob f (restrict G ys)] from m7)
            have HL := Lib.hid (A.len_ M7.out (i := 1) rfl (by omega))
            clear m7 b7 HRS
            go_wp2_with (go_at_call 14; refine (HL.out).mono ?_; rintro e w8 ⟨rfl, m8⟩; refine Hid.out ?_)
            refine Lib.hid ?_
            have M8 := Lib.hid (M7.out.fresh m8)
            have HS := Lib.hid (same_both A M8.out (i := 3) (j := 1) rfl rfl (by omega))
            clear m8 HL
            go_wp2_with (go_at_call 34; refine (HS.out).mono ?_; rintro e w9 ⟨rfl, m9⟩; refine Hid.out ?_)
            refine Lib.hid ?_
            have M9 := Lib.hid (M8.out.fresh m9)
            have d0 := below_cell D0.out M9.out.below
            have d1 := below_cell D1.out M9.out.below
            have HAD := Lib.hid (A.add_ (n := more) M9.out (i := 1) rfl (HP.out.keep (B1.out.trans (M9.out.below.mono B1.out.size))) hmo3 (by omega))
            clear m9 HS
            go_wp2_with (go_at_call 12; refine (HAD.out).mono ?_; rintro e w10 ⟨rfl, m10⟩; refine Hid.out ?_)
            refine Lib.hid ?_
            have M10 := Lib.hid (show OMem w1 w10 [A.ob b G, A.ob c (add (restrict G ys) more).2, A.ob d G, A.ob f (restrict G ys)] from m10)
            have HS := Lib.hid (same_both A M10.out (i := 2) (j := 0) rfl rfl (by omega))
            clear m10 HAD
            go_wp2_with (go_at_call 34; refine (HS.out).mono ?_; rintro e w11 ⟨rfl, m11⟩; refine Hid.out ?_)
            refine Lib.hid ?_
            have M11 := Lib.hid (M10.out.fresh m11)
            have BF := Lib.hid (B1.out.trans (M11.out.below.mono B1.out.size))
            clear m11
            go_wp2
            go_ret
            exact ⟨rfl, BF.out⟩
end Go.Proofs.Ytaecihkhcedijaa
