/- The reference's graph: Level, Heads, Sorted. -/
import Derived.Test.YtihnnffhpgbgjaaRread
import Derived.Test.YtihnnffhpgbgjaaPrch
import Derived.Test.YtihnnffhpgbgjaaOrd7
namespace Go.Proofs.Ytihnnffhpgbgjaa
open Go.RowKit Go.Maps Go.ChangeMaps Go.MapKept
open Gp
attribute [local go_sem ↓] Go.wp_at_zero Go.wp_at_succ

theorem top_snoc (l : List Int) (v : Int) : top (l ++ [v]) = max (top l) (v + 1) := by unfold top; rw [List.foldl_append]; rfl
theorem top_congr {l m : List Int} (h : ∀ v, v ∈ l ↔ v ∈ m) : top l = top m := by
  refine top_eq (top_nonneg m) (fun v hv => top_ge ((h v).1 hv)) ?_
  rcases top_is m with e | ⟨v, hv, e⟩
  · exact .inl e
  · exact .inr ⟨v, (h v).2 hv, e⟩
/-- The levels met among the first nodes. -/
noncomputable def tps (G : List Nd) (n : Nd) (j : Nat) : Int := top (((G.take j).filter fun m => n.2.contains m.1).map fun m => lev G m.1)
section
variable {G : List Nd} {n m : Nd} {j k : Nat}
theorem tps_yes (hm : G[j]? = some m) (h : n.2.contains m.1 = true) : tps G n (j + 1) = max (tps G n j) (lev G m.1 + 1) := by
  unfold tps
  rw [List.take_add_one, hm, List.filter_append, List.map_append, show List.filter (fun m => n.2.contains m.1) (some m).toList = [m] by simpa using h, List.map_singleton, top_snoc]
theorem tps_no (hm : G[j]? = some m) (h : n.2.contains m.1 = false) : tps G n (j + 1) = tps G n j := by
  unfold tps
  rw [List.take_add_one, hm, List.filter_append, show List.filter (fun m => n.2.contains m.1) (some m).toList = [] by simpa using h, List.append_nil]
theorem before_take (ok : Ok G) (hn : G[k]? = some n) (hm : m ∈ G) (h : m.1 < n.1) : m ∈ G.take k := by
  obtain ⟨i, hi, rfl⟩ := List.getElem_of_mem hm
  obtain ⟨hk, rfl⟩ := List.getElem?_eq_some_iff.1 hn
  by_cases hik : i < k
  · exact List.mem_take_iff_getElem.2 ⟨i, by omega, rfl⟩
  · exfalso
    have ha := ok.asc
    unfold ids at ha
    rw [List.pairwise_map] at ha
    by_cases e : i = k
    · subst e; omega
    · have := (List.pairwise_iff_getElem.1 ha) k i hk hi (by omega)
      omega
theorem tps_end (ok : Ok G) (hn : G[k]? = some n) : tps G n k = lev G n.1 := by
  have hnG := List.mem_of_getElem? hn
  rw [lev_eq ok (ids_of hnG), par_of ok.asc hnG]
  unfold tps
  refine top_congr fun v => ?_
  constructor
  · intro h
    obtain ⟨m, hm, rfl⟩ := List.mem_map.1 h
    have := (List.mem_filter.1 hm).2
    exact List.mem_map.2 ⟨m.1, by simpa using this, rfl⟩
  · intro h
    obtain ⟨p, hp, rfl⟩ := List.mem_map.1 h
    obtain ⟨m, hm, rfl⟩ := mem_ids.1 (ok.cl n hnG p hp)
    refine List.mem_map.2 ⟨m, List.mem_filter.2 ⟨before_take ok hn hm ?_, by simpa using hp⟩, rfl⟩
    exact ((right_iff.1 (ok.rt n hnG)).2.2 m.1 hp).2
end
section
variable {w w' : World} {r : Nat} {G : List Nd}
/-- What the nodes at two places give, in every world that has grown. -/
theorem NodesAt.two {v : Value} {l : List Nd} {k j : Nat} {n m : Nd} (hv : NodesAt w v l) (hn : l[k]? = some n) (hm : l[j]? = some m) : ∃ b off cap pa pc, v = .slice (some ⟨b, off, none⟩) l.length cap ∧
    (w.cell? ⟨b, off + k * 2 + 1, none⟩ = some (.slice pa n.2.length pc) ∧ w.cell? ⟨b, off + j * 2, none⟩ = some (.int .i64 m.1)) ∧ NumsAt w (.slice pa n.2.length pc) n.2 := by
  obtain ⟨b, off, cap, pa, pc, hv1, _, _, c1, hp⟩ := hv.at_ hn
  obtain ⟨b2, off2, cap2, _, _, hv2, _, d0, _, _⟩ := hv.at_ hm
  rw [hv1] at hv2
  cases hv2
  exact ⟨b, off, cap, pa, pc, hv1, ⟨c1, d0⟩, hp⟩
set_option maxHeartbeats 4000000 in
set_option maxRecDepth 100000 in
theorem rlevel_any (h : RAt w r G) (x : Int) (hG : G.length ≤ 100) : Calls Try.prog 14 #[.pointer (some ⟨r, 0, none⟩), .int .i64 x] w (Reads w (.int .i64 (lev G x))) := by
  have OK := Lib.hid h.ok
  obtain ⟨v, c0, hv⟩ := h.at_
  have HV := Lib.hid hv
  have HC0 := Lib.hid c0
  have B0 := Lib.hid ((OMem.start w).rowNil 3 1)
  obtain ⟨a, cap, rfl, -⟩ := hv
  clear h
  unfold Reads
  go_enter Try.func14, Try.ntmps14
  go_wp2
  clear c0
  go_loopw [5, 6] (fun lv i wr => ∃ k : Nat, k ≤ G.length ∧ i = .int .i64 k ∧ Hid (x ∉ (ids G).take k) ∧ OMem w wr [.row 3 1 lv ((G.take k).map fun n => lev G n.1).length (intVs ((G.take k).map fun n => lev G n.1))]) (fun _ i _ => G.length - (RowKit.intOf i).toNat)
  case atStart => exact ⟨0, Nat.zero_le _, rfl, Lib.hid (by simp), B0.out⟩
  case round =>
    obtain ⟨k, hk, rfl, HX, M⟩ := hrel
    have HM := Lib.hid M
    have c0 := below_cell HC0.out M.below
    by_cases hlt : k < G.length
    · obtain ⟨n, hn⟩ : ∃ n, G[k]? = some n := ⟨_, List.getElem?_eq_getElem hlt⟩
      have HNK := Lib.hid hn
      have hkl : ((G.take k).map fun n => lev G n.1).length = k := by rw [List.length_map, List.length_take]; omega
      have HKL := Lib.hid hkl
      obtain ⟨la, lc, rfl⟩ := own_form (M.rowAt (i := 0) rfl)
      have M2 : OMem w wr [.row 3 1 (.slice la k lc) k (intVs ((G.take k).map fun n => lev G n.1))] := by rw [hkl] at M; exact M
      rw [hkl]
      rcases (M2.rowAt (i := 0) rfl).2 with ⟨hla, hk0⟩ | ⟨g, lc2, _, hla, _⟩
      · subst hk0
        cases hla
        have HM1 := Lib.hid (show OMem w wr [.row 3 1 (.slice none 0 0) 0 (intVs ((G.take 0).map fun n => lev G n.1))] from M2)
        clear M M2 hn hkl HM
        go_wp2
        go_loopw [7, 8] (fun t j wq => j = .int .i64 ((0 : Nat) : Int) ∧ t = .int .i64 (tps G n 0) ∧ OMem w wq [.row 3 1 (.slice none 0 0) 0 (intVs ((G.take 0).map fun n => lev G n.1))]) (fun _ j _ => 0)
        case atStart => exact ⟨rfl, rfl, HM1.out⟩
        case round =>
          obtain ⟨rfl, rfl, M⟩ := hrel
          have HM := Lib.hid M
          clear M
          have HE := Lib.hid (tps_end OK.out HNK.out)
          have hkl := HKL.out
          obtain ⟨ya, yc, w5, r5, m5⟩ := (show OMem w wr [.row 3 1 (.slice none 0 0) ((G.take 0).map fun n => lev G n.1).length (intVs ((G.take 0).map fun n => lev G n.1))] by rw [hkl]; exact HM.out).pushN (i := 0) rfl (lev G n.1) (by rw [hkl]; omega)
          rw [hkl] at r5 m5
          have R5 := Lib.hid r5
          have M5 := Lib.hid (show OMem w w5 [.row 3 1 (.slice ya (0 + 1) yc) (0 + 1) (intVs ((G.take (0 + 1)).map fun n => lev G n.1))] from by
            rw [List.take_add_one, HNK.out, List.map_append]; exact m5)
          obtain ⟨b1, off1, cap1, pa, pc, e1, _, d0, _, _⟩ := (HV.out.keep M5.out.below).at_ HNK.out
          cases e1
          rw [Nat.zero_mul, Nat.add_zero] at d0
          have d1 := below_cell HC0.out M5.out.below
          have HJ1 := Lib.hid (show ((G.take (0 + 1)).map fun n => lev G n.1).length = 0 + 1 by rw [List.length_map, List.length_take]; omega)
          clear r5 m5 hkl
          rw [HE.out]
          go_wp2_with (at_builtin; refine Hid.out ?_)
          refine Lib.hid ?_
          refine Lib.wpList_append_run _ rfl _ _ _ _ rfl _ _ rfl rfl _ _ R5.out ?_
          by_cases hx : n.1 = x
          · have HB5 := Lib.hid M5.out.below
            subst hx
            go_wp2
            go_ret
            exact ⟨rfl, HB5.out⟩
          · have HX2 := Lib.hid (show x ∉ (ids G).take (0 + 1) by
              rw [List.take_add_one, ids_at HNK.out]
              intro q
              rcases List.mem_append.1 q with q | q
              · exact HX.out q
              · simp at q; exact hx q.symm)
            go_wp2
            go_roundw
            case rel => exact ⟨0 + 1, by omega, by go_num, HX2, by rw [HJ1.out]; exact M5.out⟩
            case measure => simp [RowKit.intOf]; omega
      · cases hla
        have HM1 := Lib.hid (show OMem w wr [.row 3 1 (.slice (some ⟨g, 0, none⟩) k lc) k (intVs ((G.take k).map fun n => lev G n.1))] from M2)
        clear M M2 hn hkl HM
        go_wp2
        go_loopw [7, 8] (fun t j wq => ∃ i : Nat, i ≤ k ∧ j = .int .i64 i ∧ t = .int .i64 (tps G n i) ∧ OMem w wq [.row 3 1 (.slice (some ⟨g, 0, none⟩) k lc) k (intVs ((G.take k).map fun n => lev G n.1))]) (fun _ j _ => k - (RowKit.intOf j).toNat)
        case atStart => exact ⟨0, Nat.zero_le _, rfl, rfl, HM1.out⟩
        case round =>
          obtain ⟨j, hj, rfl, rfl, M⟩ := hrel
          have HM := Lib.hid M
          have HBq := Lib.hid M.below
          have HMn := Lib.hid (M.fresh (below_drew wr))
          clear M
          by_cases hjk : j < k
          · obtain ⟨m, hm⟩ : ∃ n, G[j]? = some n := ⟨_, List.getElem?_eq_getElem (by omega)⟩
            obtain ⟨b1, off1, cap1, pa, pc, e1, hcc, hp⟩ := (HV.out.keep HBq.out).two HNK.out hm
            cases e1
            have hjG : j < G.length := by omega
            have S0 := And.intro (below_cell HC0.out (HBq.out.trans ((below_drew wr).mono HBq.out.size))) (And.intro (below_cell hcc.1 (below_drew wr)) (below_cell hcc.2 (below_drew wr)))
            have HS := s_has m.1 (hp.keep (below_drew wr)) (by have := (OK.out.rt n (List.mem_of_getElem? HNK.out)); have := par_few OK.out n.1; rw [par_at OK.out HNK.out] at this; omega)
            have mr := HM.out.rowAt (i := 0) rfl
            have hlc := own_at mr (j := j) (y := .int .i64 (lev G m.1)) (by
              unfold intVs
              rw [List.getElem?_map, List.getElem?_map, List.getElem?_take_of_lt hjk, hm]; rfl)
            have LC := Lib.hid (below_cell hlc (below_drew wr))
            have hmG := ids_of (List.mem_of_getElem? hm)
            have hlp := And.intro (lev_nonneg OK.out hmG) (lev_lt OK.out hmG)
            cases hc : n.2.contains m.1 with
            | true =>
              have HT := Lib.hid (tps_yes hm hc)
              rw [hc] at HS
              have HS := Lib.hid HS
              clear hcc hp mr hlc hm hc hmG
              go_wp2
              refine region_till 16 (fun w' => w'.cell? ⟨r, 0, none⟩ = some (.slice (some ⟨b1, off1, none⟩) G.length cap) ∧ w'.cell? ⟨b1, off1 + k * 2 + 1, none⟩ = some (.slice pa n.2.length pc) ∧ w'.cell? ⟨b1, off1 + j * 2, none⟩ = some (.int .i64 m.1)) (by kernel_rfl) ?_
              refine till_take 0 24 false (v := ?v0p) (by kernel_rfl) (by kernel_rfl) (by kernel_rfl) (by kernel_rfl) (by kernel_rfl) (fun _ _ _ h => h) ?hw0p S0 ?hy0p ?rest0p
              case hw0p => (simp only [List.getElem?_toArray, List.getElem?_cons_zero, Option.elim]; rfl)
              case hy0p => (simp only [List.getElem?_toArray, List.getElem?_cons_zero, Option.elim]; intro wx _; go_simp; with_reducible rfl)
              simp only [dstOf, List.getElem?_toArray, List.getElem?_cons_zero, Option.bind, Act.put, List.setIfInBounds_toArray, List.set_cons_zero, List.set_cons_succ]
              refine till_take 1 24 false (v := ?v1p) (by kernel_rfl) (by kernel_rfl) (by kernel_rfl) (by kernel_rfl) (by kernel_rfl) (fun _ _ _ h => h) ?hw1p S0 ?hy1p ?rest1p
              case hw1p => (simp only [List.getElem?_toArray, List.getElem?_cons_zero, List.getElem?_cons_succ, Option.elim]; rfl)
              case hy1p => (simp only [List.getElem?_toArray, List.getElem?_cons_zero, List.getElem?_cons_succ, Option.elim]; intro wx _; go_simp; with_reducible rfl)
              simp only [dstOf, List.getElem?_toArray, List.getElem?_cons_zero, List.getElem?_cons_succ, Option.bind, Act.put, List.setIfInBounds_toArray, List.set_cons_zero, List.set_cons_succ]
              refine till_take 2 24 false (v := ?v2p) (by kernel_rfl) (by kernel_rfl) (by kernel_rfl) (by kernel_rfl) (by kernel_rfl) (fun _ _ _ h => h) ?hw2p S0 ?hy2p ?rest2p
              case hw2p => (simp only [List.getElem?_toArray, List.getElem?_cons_zero, List.getElem?_cons_succ, Option.elim]; rfl)
              case hy2p => (simp only [List.getElem?_toArray, List.getElem?_cons_zero, List.getElem?_cons_succ, Option.elim]; intro wx _; go_simp; with_reducible rfl)
              simp only [dstOf, List.getElem?_toArray, List.getElem?_cons_zero, List.getElem?_cons_succ, Option.bind, Act.put, List.setIfInBounds_toArray, List.set_cons_zero, List.set_cons_succ]
              refine till_take 3 24 true (v := ?v3p) (by kernel_rfl) (by kernel_rfl) (by kernel_rfl) (by kernel_rfl) (by kernel_rfl) (fun _ _ _ h => h) ?hw3p S0 ?hy3p ?rest3p
              case hw3p => (simp only [List.getElem?_toArray, List.getElem?_cons_zero, List.getElem?_cons_succ, Option.elim]; rfl)
              case hy3p => (simp only [List.getElem?_toArray, List.getElem?_cons_zero, List.getElem?_cons_succ, Option.elim]; intro wx hx; have x0 := (hx trivial).1; have x1 := (hx trivial).2.1; have x2 := (hx trivial).2.2; go_simp; with_reducible rfl)
              simp only [dstOf, List.getElem?_toArray, List.getElem?_cons_zero, List.getElem?_cons_succ, Option.bind, Act.put, List.setIfInBounds_toArray, List.set_cons_zero, List.set_cons_succ]
              refine till_take 4 24 false (v := ?v4p) (by kernel_rfl) (by kernel_rfl) (by kernel_rfl) (by kernel_rfl) (by kernel_rfl) (fun _ _ _ h => h) ?hw4p S0 ?hy4p ?rest4p
              case hw4p => (simp only [List.getElem?_toArray, List.getElem?_cons_zero, List.getElem?_cons_succ, Option.elim]; rfl)
              case hy4p => (simp only [List.getElem?_toArray, List.getElem?_cons_zero, List.getElem?_cons_succ, Option.elim]; intro wx _; go_simp; with_reducible rfl)
              simp only [dstOf, List.getElem?_toArray, List.getElem?_cons_zero, List.getElem?_cons_succ, Option.bind, Act.put, List.setIfInBounds_toArray, List.set_cons_zero, List.set_cons_succ]
              refine till_take 5 24 false (v := ?v5p) (by kernel_rfl) (by kernel_rfl) (by kernel_rfl) (by kernel_rfl) (by kernel_rfl) (fun _ _ _ h => h) ?hw5p S0 ?hy5p ?rest5p
              case hw5p => (simp only [List.getElem?_toArray, List.getElem?_cons_zero, List.getElem?_cons_succ, Option.elim]; rfl)
              case hy5p => (simp only [List.getElem?_toArray, List.getElem?_cons_zero, List.getElem?_cons_succ, Option.elim]; intro wx _; go_simp; with_reducible rfl)
              simp only [dstOf, List.getElem?_toArray, List.getElem?_cons_zero, List.getElem?_cons_succ, Option.bind, Act.put, List.setIfInBounds_toArray, List.set_cons_zero, List.set_cons_succ]
              refine till_take 6 24 false (v := ?v6p) (by kernel_rfl) (by kernel_rfl) (by kernel_rfl) (by kernel_rfl) (by kernel_rfl) (fun _ _ _ h => h) ?hw6p S0 ?hy6p ?rest6p
              case hw6p => (simp only [List.getElem?_toArray, List.getElem?_cons_zero, List.getElem?_cons_succ, Option.elim]; rfl)
              case hy6p => (simp only [List.getElem?_toArray, List.getElem?_cons_zero, List.getElem?_cons_succ, Option.elim]; intro wx _; go_simp; with_reducible rfl)
              simp only [dstOf, List.getElem?_toArray, List.getElem?_cons_zero, List.getElem?_cons_succ, Option.bind, Act.put, List.setIfInBounds_toArray, List.set_cons_zero, List.set_cons_succ]
              refine till_take 7 24 true (v := ?v7p) (by kernel_rfl) (by kernel_rfl) (by kernel_rfl) (by kernel_rfl) (by kernel_rfl) (fun _ _ _ h => h) ?hw7p S0 ?hy7p ?rest7p
              case hw7p => (simp only [List.getElem?_toArray, List.getElem?_cons_zero, List.getElem?_cons_succ, Option.elim]; rfl)
              case hy7p => (simp only [List.getElem?_toArray, List.getElem?_cons_zero, List.getElem?_cons_succ, Option.elim]; intro wx hx; have x0 := (hx trivial).1; have x1 := (hx trivial).2.1; have x2 := (hx trivial).2.2; go_simp; with_reducible rfl)
              simp only [dstOf, List.getElem?_toArray, List.getElem?_cons_zero, List.getElem?_cons_succ, Option.bind, Act.put, List.setIfInBounds_toArray, List.set_cons_zero, List.set_cons_succ]
              refine till_take 8 24 false (v := ?v8p) (by kernel_rfl) (by kernel_rfl) (by kernel_rfl) (by kernel_rfl) (by kernel_rfl) (fun _ _ _ h => h) ?hw8p S0 ?hy8p ?rest8p
              case hw8p => (simp only [List.getElem?_toArray, List.getElem?_cons_zero, List.getElem?_cons_succ, Option.elim]; rfl)
              case hy8p => (simp only [List.getElem?_toArray, List.getElem?_cons_zero, List.getElem?_cons_succ, Option.elim]; intro wx _; go_simp; with_reducible rfl)
              simp only [dstOf, List.getElem?_toArray, List.getElem?_cons_zero, List.getElem?_cons_succ, Option.bind, Act.put, List.setIfInBounds_toArray, List.set_cons_zero, List.set_cons_succ]
              refine till_take 9 24 false (v := ?v9p) (by kernel_rfl) (by kernel_rfl) (by kernel_rfl) (by kernel_rfl) (by kernel_rfl) (fun _ _ _ h => h) ?hw9p S0 ?hy9p ?rest9p
              case hw9p => (simp only [List.getElem?_toArray, List.getElem?_cons_zero, List.getElem?_cons_succ, Option.elim]; rfl)
              case hy9p => (simp only [List.getElem?_toArray, List.getElem?_cons_zero, List.getElem?_cons_succ, Option.elim]; intro wx _; go_simp; with_reducible rfl)
              simp only [dstOf, List.getElem?_toArray, List.getElem?_cons_zero, List.getElem?_cons_succ, Option.bind, Act.put, List.setIfInBounds_toArray, List.set_cons_zero, List.set_cons_succ]
              refine till_take 10 24 false (v := ?v10p) (by kernel_rfl) (by kernel_rfl) (by kernel_rfl) (by kernel_rfl) (by kernel_rfl) (fun _ _ _ h => h) ?hw10p S0 ?hy10p ?rest10p
              case hw10p => (simp only [List.getElem?_toArray, List.getElem?_cons_zero, List.getElem?_cons_succ, Option.elim]; rfl)
              case hy10p => (simp only [List.getElem?_toArray, List.getElem?_cons_zero, List.getElem?_cons_succ, Option.elim]; intro wx _; go_simp; with_reducible rfl)
              simp only [dstOf, List.getElem?_toArray, List.getElem?_cons_zero, List.getElem?_cons_succ, Option.bind, Act.put, List.setIfInBounds_toArray, List.set_cons_zero, List.set_cons_succ]
              refine till_take 11 24 true (v := ?v11p) (by kernel_rfl) (by kernel_rfl) (by kernel_rfl) (by kernel_rfl) (by kernel_rfl) (fun _ _ _ h => h) ?hw11p S0 ?hy11p ?rest11p
              case hw11p => (simp only [List.getElem?_toArray, List.getElem?_cons_zero, List.getElem?_cons_succ, Option.elim]; rfl)
              case hy11p => (simp only [List.getElem?_toArray, List.getElem?_cons_zero, List.getElem?_cons_succ, Option.elim]; intro wx hx; have x0 := (hx trivial).1; have x1 := (hx trivial).2.1; have x2 := (hx trivial).2.2; go_simp; with_reducible rfl)
              simp only [dstOf, List.getElem?_toArray, List.getElem?_cons_zero, List.getElem?_cons_succ, Option.bind, Act.put, List.setIfInBounds_toArray, List.set_cons_zero, List.set_cons_succ]
              refine till_take 12 24 false (v := ?v12p) (by kernel_rfl) (by kernel_rfl) (by kernel_rfl) (by kernel_rfl) (by kernel_rfl) (fun _ _ _ h => h) ?hw12p S0 ?hy12p ?rest12p
              case hw12p => (simp only [List.getElem?_toArray, List.getElem?_cons_zero, List.getElem?_cons_succ, Option.elim]; rfl)
              case hy12p => (simp only [List.getElem?_toArray, List.getElem?_cons_zero, List.getElem?_cons_succ, Option.elim]; intro wx _; go_simp; with_reducible rfl)
              simp only [dstOf, List.getElem?_toArray, List.getElem?_cons_zero, List.getElem?_cons_succ, Option.bind, Act.put, List.setIfInBounds_toArray, List.set_cons_zero, List.set_cons_succ]
              refine till_take 13 24 false (v := ?v13p) (by kernel_rfl) (by kernel_rfl) (by kernel_rfl) (by kernel_rfl) (by kernel_rfl) (fun _ _ _ h => h) ?hw13p S0 ?hy13p ?rest13p
              case hw13p => (simp only [List.getElem?_toArray, List.getElem?_cons_zero, List.getElem?_cons_succ, Option.elim]; rfl)
              case hy13p => (simp only [List.getElem?_toArray, List.getElem?_cons_zero, List.getElem?_cons_succ, Option.elim]; intro wx _; go_simp; with_reducible rfl)
              simp only [dstOf, List.getElem?_toArray, List.getElem?_cons_zero, List.getElem?_cons_succ, Option.bind, Act.put, List.setIfInBounds_toArray, List.set_cons_zero, List.set_cons_succ]
              refine till_take 14 24 false (v := ?v14p) (by kernel_rfl) (by kernel_rfl) (by kernel_rfl) (by kernel_rfl) (by kernel_rfl) (fun _ _ _ h => h) ?hw14p S0 ?hy14p ?rest14p
              case hw14p => (simp only [List.getElem?_toArray, List.getElem?_cons_zero, List.getElem?_cons_succ, Option.elim]; rfl)
              case hy14p => (simp only [List.getElem?_toArray, List.getElem?_cons_zero, List.getElem?_cons_succ, Option.elim]; intro wx _; go_simp; with_reducible rfl)
              simp only [dstOf, List.getElem?_toArray, List.getElem?_cons_zero, List.getElem?_cons_succ, Option.bind, Act.put, List.setIfInBounds_toArray, List.set_cons_zero, List.set_cons_succ]
              refine till_take 15 24 true (v := ?v15p) (by kernel_rfl) (by kernel_rfl) (by kernel_rfl) (by kernel_rfl) (by kernel_rfl) (fun _ _ _ h => h) ?hw15p S0 ?hy15p ?rest15p
              case hw15p => (simp only [List.getElem?_toArray, List.getElem?_cons_zero, List.getElem?_cons_succ, Option.elim]; rfl)
              case hy15p => (simp only [List.getElem?_toArray, List.getElem?_cons_zero, List.getElem?_cons_succ, Option.elim]; intro wx hx; have x0 := (hx trivial).1; have x1 := (hx trivial).2.1; have x2 := (hx trivial).2.2; go_simp; with_reducible rfl)
              simp only [dstOf, List.getElem?_toArray, List.getElem?_cons_zero, List.getElem?_cons_succ, Option.bind, Act.put, List.setIfInBounds_toArray, List.set_cons_zero, List.set_cons_succ]
              refine till_step 16 (by kernel_rfl) (by kernel_rfl) (fun K hK => ?_)
              simp only [List.getElem?_toArray, List.getElem?_cons_zero, List.getElem?_cons_succ, Option.elim]
              rw [if_pos (by rfl)]
              go_simp
              go_at_call 41
              refine (HS.out).mono ?_
              rintro e w5 ⟨rfl, rfl⟩
              refine hK.out _ _ ?_
              clear hK K
              try simp only [Act.put, List.setIfInBounds_toArray, List.set_cons_zero, List.set_cons_succ]
              refine till_end (by kernel_rfl) ?_ _
              have lc := LC.out
              generalize lev G m.1 = lp at HT lc hlp
              generalize tps G n j = tp at HT ⊢
              by_cases hmx : tp < lp + 1
              · go_wp2
                go_roundw
                case rel => exact ⟨j + 1, by omega, by go_num, by rw [HT.out, show max tp (lp + 1) = lp + 1 from Int.max_eq_right (by omega)], HMn.out⟩
                case measure => simp [RowKit.intOf]; omega
              · go_wp2
                go_roundw
                case rel => exact ⟨j + 1, by omega, by go_num, by rw [HT.out, show max tp (lp + 1) = tp from Int.max_eq_left (by omega)], HMn.out⟩
                case measure => simp [RowKit.intOf]; omega
            | false =>
              have HT := Lib.hid (tps_no hm hc)
              rw [hc] at HS
              have HS := Lib.hid HS
              clear hcc hp mr hlc hm hc hmG
              go_wp2
              refine region_till 16 (fun w' => w'.cell? ⟨r, 0, none⟩ = some (.slice (some ⟨b1, off1, none⟩) G.length cap) ∧ w'.cell? ⟨b1, off1 + k * 2 + 1, none⟩ = some (.slice pa n.2.length pc) ∧ w'.cell? ⟨b1, off1 + j * 2, none⟩ = some (.int .i64 m.1)) (by kernel_rfl) ?_
              refine till_take 0 24 false (v := ?v0bp) (by kernel_rfl) (by kernel_rfl) (by kernel_rfl) (by kernel_rfl) (by kernel_rfl) (fun _ _ _ h => h) ?hw0bp S0 ?hy0bp ?rest0bp
              case hw0bp => (simp only [List.getElem?_toArray, List.getElem?_cons_zero, Option.elim]; rfl)
              case hy0bp => (simp only [List.getElem?_toArray, List.getElem?_cons_zero, Option.elim]; intro wx _; go_simp; with_reducible rfl)
              simp only [dstOf, List.getElem?_toArray, List.getElem?_cons_zero, Option.bind, Act.put, List.setIfInBounds_toArray, List.set_cons_zero, List.set_cons_succ]
              refine till_take 1 24 false (v := ?v1bp) (by kernel_rfl) (by kernel_rfl) (by kernel_rfl) (by kernel_rfl) (by kernel_rfl) (fun _ _ _ h => h) ?hw1bp S0 ?hy1bp ?rest1bp
              case hw1bp => (simp only [List.getElem?_toArray, List.getElem?_cons_zero, List.getElem?_cons_succ, Option.elim]; rfl)
              case hy1bp => (simp only [List.getElem?_toArray, List.getElem?_cons_zero, List.getElem?_cons_succ, Option.elim]; intro wx _; go_simp; with_reducible rfl)
              simp only [dstOf, List.getElem?_toArray, List.getElem?_cons_zero, List.getElem?_cons_succ, Option.bind, Act.put, List.setIfInBounds_toArray, List.set_cons_zero, List.set_cons_succ]
              refine till_take 2 24 false (v := ?v2bp) (by kernel_rfl) (by kernel_rfl) (by kernel_rfl) (by kernel_rfl) (by kernel_rfl) (fun _ _ _ h => h) ?hw2bp S0 ?hy2bp ?rest2bp
              case hw2bp => (simp only [List.getElem?_toArray, List.getElem?_cons_zero, List.getElem?_cons_succ, Option.elim]; rfl)
              case hy2bp => (simp only [List.getElem?_toArray, List.getElem?_cons_zero, List.getElem?_cons_succ, Option.elim]; intro wx _; go_simp; with_reducible rfl)
              simp only [dstOf, List.getElem?_toArray, List.getElem?_cons_zero, List.getElem?_cons_succ, Option.bind, Act.put, List.setIfInBounds_toArray, List.set_cons_zero, List.set_cons_succ]
              refine till_take 3 24 true (v := ?v3bp) (by kernel_rfl) (by kernel_rfl) (by kernel_rfl) (by kernel_rfl) (by kernel_rfl) (fun _ _ _ h => h) ?hw3bp S0 ?hy3bp ?rest3bp
              case hw3bp => (simp only [List.getElem?_toArray, List.getElem?_cons_zero, List.getElem?_cons_succ, Option.elim]; rfl)
              case hy3bp => (simp only [List.getElem?_toArray, List.getElem?_cons_zero, List.getElem?_cons_succ, Option.elim]; intro wx hx; have x0 := (hx trivial).1; have x1 := (hx trivial).2.1; have x2 := (hx trivial).2.2; go_simp; with_reducible rfl)
              simp only [dstOf, List.getElem?_toArray, List.getElem?_cons_zero, List.getElem?_cons_succ, Option.bind, Act.put, List.setIfInBounds_toArray, List.set_cons_zero, List.set_cons_succ]
              refine till_take 4 24 false (v := ?v4bp) (by kernel_rfl) (by kernel_rfl) (by kernel_rfl) (by kernel_rfl) (by kernel_rfl) (fun _ _ _ h => h) ?hw4bp S0 ?hy4bp ?rest4bp
              case hw4bp => (simp only [List.getElem?_toArray, List.getElem?_cons_zero, List.getElem?_cons_succ, Option.elim]; rfl)
              case hy4bp => (simp only [List.getElem?_toArray, List.getElem?_cons_zero, List.getElem?_cons_succ, Option.elim]; intro wx _; go_simp; with_reducible rfl)
              simp only [dstOf, List.getElem?_toArray, List.getElem?_cons_zero, List.getElem?_cons_succ, Option.bind, Act.put, List.setIfInBounds_toArray, List.set_cons_zero, List.set_cons_succ]
              refine till_take 5 24 false (v := ?v5bp) (by kernel_rfl) (by kernel_rfl) (by kernel_rfl) (by kernel_rfl) (by kernel_rfl) (fun _ _ _ h => h) ?hw5bp S0 ?hy5bp ?rest5bp
              case hw5bp => (simp only [List.getElem?_toArray, List.getElem?_cons_zero, List.getElem?_cons_succ, Option.elim]; rfl)
              case hy5bp => (simp only [List.getElem?_toArray, List.getElem?_cons_zero, List.getElem?_cons_succ, Option.elim]; intro wx _; go_simp; with_reducible rfl)
              simp only [dstOf, List.getElem?_toArray, List.getElem?_cons_zero, List.getElem?_cons_succ, Option.bind, Act.put, List.setIfInBounds_toArray, List.set_cons_zero, List.set_cons_succ]
              refine till_take 6 24 false (v := ?v6bp) (by kernel_rfl) (by kernel_rfl) (by kernel_rfl) (by kernel_rfl) (by kernel_rfl) (fun _ _ _ h => h) ?hw6bp S0 ?hy6bp ?rest6bp
              case hw6bp => (simp only [List.getElem?_toArray, List.getElem?_cons_zero, List.getElem?_cons_succ, Option.elim]; rfl)
              case hy6bp => (simp only [List.getElem?_toArray, List.getElem?_cons_zero, List.getElem?_cons_succ, Option.elim]; intro wx _; go_simp; with_reducible rfl)
              simp only [dstOf, List.getElem?_toArray, List.getElem?_cons_zero, List.getElem?_cons_succ, Option.bind, Act.put, List.setIfInBounds_toArray, List.set_cons_zero, List.set_cons_succ]
              refine till_take 7 24 true (v := ?v7bp) (by kernel_rfl) (by kernel_rfl) (by kernel_rfl) (by kernel_rfl) (by kernel_rfl) (fun _ _ _ h => h) ?hw7bp S0 ?hy7bp ?rest7bp
              case hw7bp => (simp only [List.getElem?_toArray, List.getElem?_cons_zero, List.getElem?_cons_succ, Option.elim]; rfl)
              case hy7bp => (simp only [List.getElem?_toArray, List.getElem?_cons_zero, List.getElem?_cons_succ, Option.elim]; intro wx hx; have x0 := (hx trivial).1; have x1 := (hx trivial).2.1; have x2 := (hx trivial).2.2; go_simp; with_reducible rfl)
              simp only [dstOf, List.getElem?_toArray, List.getElem?_cons_zero, List.getElem?_cons_succ, Option.bind, Act.put, List.setIfInBounds_toArray, List.set_cons_zero, List.set_cons_succ]
              refine till_take 8 24 false (v := ?v8bp) (by kernel_rfl) (by kernel_rfl) (by kernel_rfl) (by kernel_rfl) (by kernel_rfl) (fun _ _ _ h => h) ?hw8bp S0 ?hy8bp ?rest8bp
              case hw8bp => (simp only [List.getElem?_toArray, List.getElem?_cons_zero, List.getElem?_cons_succ, Option.elim]; rfl)
              case hy8bp => (simp only [List.getElem?_toArray, List.getElem?_cons_zero, List.getElem?_cons_succ, Option.elim]; intro wx _; go_simp; with_reducible rfl)
              simp only [dstOf, List.getElem?_toArray, List.getElem?_cons_zero, List.getElem?_cons_succ, Option.bind, Act.put, List.setIfInBounds_toArray, List.set_cons_zero, List.set_cons_succ]
              refine till_take 9 24 false (v := ?v9bp) (by kernel_rfl) (by kernel_rfl) (by kernel_rfl) (by kernel_rfl) (by kernel_rfl) (fun _ _ _ h => h) ?hw9bp S0 ?hy9bp ?rest9bp
              case hw9bp => (simp only [List.getElem?_toArray, List.getElem?_cons_zero, List.getElem?_cons_succ, Option.elim]; rfl)
              case hy9bp => (simp only [List.getElem?_toArray, List.getElem?_cons_zero, List.getElem?_cons_succ, Option.elim]; intro wx _; go_simp; with_reducible rfl)
              simp only [dstOf, List.getElem?_toArray, List.getElem?_cons_zero, List.getElem?_cons_succ, Option.bind, Act.put, List.setIfInBounds_toArray, List.set_cons_zero, List.set_cons_succ]
              refine till_take 10 24 false (v := ?v10bp) (by kernel_rfl) (by kernel_rfl) (by kernel_rfl) (by kernel_rfl) (by kernel_rfl) (fun _ _ _ h => h) ?hw10bp S0 ?hy10bp ?rest10bp
              case hw10bp => (simp only [List.getElem?_toArray, List.getElem?_cons_zero, List.getElem?_cons_succ, Option.elim]; rfl)
              case hy10bp => (simp only [List.getElem?_toArray, List.getElem?_cons_zero, List.getElem?_cons_succ, Option.elim]; intro wx _; go_simp; with_reducible rfl)
              simp only [dstOf, List.getElem?_toArray, List.getElem?_cons_zero, List.getElem?_cons_succ, Option.bind, Act.put, List.setIfInBounds_toArray, List.set_cons_zero, List.set_cons_succ]
              refine till_take 11 24 true (v := ?v11bp) (by kernel_rfl) (by kernel_rfl) (by kernel_rfl) (by kernel_rfl) (by kernel_rfl) (fun _ _ _ h => h) ?hw11bp S0 ?hy11bp ?rest11bp
              case hw11bp => (simp only [List.getElem?_toArray, List.getElem?_cons_zero, List.getElem?_cons_succ, Option.elim]; rfl)
              case hy11bp => (simp only [List.getElem?_toArray, List.getElem?_cons_zero, List.getElem?_cons_succ, Option.elim]; intro wx hx; have x0 := (hx trivial).1; have x1 := (hx trivial).2.1; have x2 := (hx trivial).2.2; go_simp; with_reducible rfl)
              simp only [dstOf, List.getElem?_toArray, List.getElem?_cons_zero, List.getElem?_cons_succ, Option.bind, Act.put, List.setIfInBounds_toArray, List.set_cons_zero, List.set_cons_succ]
              refine till_take 12 24 false (v := ?v12bp) (by kernel_rfl) (by kernel_rfl) (by kernel_rfl) (by kernel_rfl) (by kernel_rfl) (fun _ _ _ h => h) ?hw12bp S0 ?hy12bp ?rest12bp
              case hw12bp => (simp only [List.getElem?_toArray, List.getElem?_cons_zero, List.getElem?_cons_succ, Option.elim]; rfl)
              case hy12bp => (simp only [List.getElem?_toArray, List.getElem?_cons_zero, List.getElem?_cons_succ, Option.elim]; intro wx _; go_simp; with_reducible rfl)
              simp only [dstOf, List.getElem?_toArray, List.getElem?_cons_zero, List.getElem?_cons_succ, Option.bind, Act.put, List.setIfInBounds_toArray, List.set_cons_zero, List.set_cons_succ]
              refine till_take 13 24 false (v := ?v13bp) (by kernel_rfl) (by kernel_rfl) (by kernel_rfl) (by kernel_rfl) (by kernel_rfl) (fun _ _ _ h => h) ?hw13bp S0 ?hy13bp ?rest13bp
              case hw13bp => (simp only [List.getElem?_toArray, List.getElem?_cons_zero, List.getElem?_cons_succ, Option.elim]; rfl)
              case hy13bp => (simp only [List.getElem?_toArray, List.getElem?_cons_zero, List.getElem?_cons_succ, Option.elim]; intro wx _; go_simp; with_reducible rfl)
              simp only [dstOf, List.getElem?_toArray, List.getElem?_cons_zero, List.getElem?_cons_succ, Option.bind, Act.put, List.setIfInBounds_toArray, List.set_cons_zero, List.set_cons_succ]
              refine till_take 14 24 false (v := ?v14bp) (by kernel_rfl) (by kernel_rfl) (by kernel_rfl) (by kernel_rfl) (by kernel_rfl) (fun _ _ _ h => h) ?hw14bp S0 ?hy14bp ?rest14bp
              case hw14bp => (simp only [List.getElem?_toArray, List.getElem?_cons_zero, List.getElem?_cons_succ, Option.elim]; rfl)
              case hy14bp => (simp only [List.getElem?_toArray, List.getElem?_cons_zero, List.getElem?_cons_succ, Option.elim]; intro wx _; go_simp; with_reducible rfl)
              simp only [dstOf, List.getElem?_toArray, List.getElem?_cons_zero, List.getElem?_cons_succ, Option.bind, Act.put, List.setIfInBounds_toArray, List.set_cons_zero, List.set_cons_succ]
              refine till_take 15 24 true (v := ?v15bp) (by kernel_rfl) (by kernel_rfl) (by kernel_rfl) (by kernel_rfl) (by kernel_rfl) (fun _ _ _ h => h) ?hw15bp S0 ?hy15bp ?rest15bp
              case hw15bp => (simp only [List.getElem?_toArray, List.getElem?_cons_zero, List.getElem?_cons_succ, Option.elim]; rfl)
              case hy15bp => (simp only [List.getElem?_toArray, List.getElem?_cons_zero, List.getElem?_cons_succ, Option.elim]; intro wx hx; have x0 := (hx trivial).1; have x1 := (hx trivial).2.1; have x2 := (hx trivial).2.2; go_simp; with_reducible rfl)
              simp only [dstOf, List.getElem?_toArray, List.getElem?_cons_zero, List.getElem?_cons_succ, Option.bind, Act.put, List.setIfInBounds_toArray, List.set_cons_zero, List.set_cons_succ]
              refine till_step 16 (by kernel_rfl) (by kernel_rfl) (fun K hK => ?_)
              simp only [List.getElem?_toArray, List.getElem?_cons_zero, List.getElem?_cons_succ, Option.elim]
              rw [if_pos (by rfl)]
              go_simp
              go_at_call 41
              refine (HS.out).mono ?_
              rintro e w5 ⟨rfl, rfl⟩
              refine hK.out _ _ ?_
              clear hK K
              try simp only [Act.put, List.setIfInBounds_toArray, List.set_cons_zero, List.set_cons_succ]
              refine till_end (by kernel_rfl) ?_ _
              go_wp2
              go_roundw
              case rel => exact ⟨j + 1, by omega, by go_num, by rw [HT.out], HMn.out⟩
              case measure => simp [RowKit.intOf]; omega
          · obtain rfl : j = k := by omega
            have HE := Lib.hid (tps_end OK.out HNK.out)
            have hkl := HKL.out
            obtain ⟨ya, yc, w5, r5, m5⟩ := (show OMem w wr [.row 3 1 ((.slice (some ⟨g, 0, none⟩) j lc)) ((G.take j).map fun n => lev G n.1).length (intVs ((G.take j).map fun n => lev G n.1))] by rw [hkl]; exact HM.out).pushN (i := 0) rfl (lev G n.1) (by rw [hkl]; omega)
            rw [hkl] at r5 m5
            have R5 := Lib.hid r5
            have M5 := Lib.hid (show OMem w w5 [.row 3 1 (.slice ya (j + 1) yc) (j + 1) (intVs ((G.take (j + 1)).map fun n => lev G n.1))] from by
              rw [List.take_add_one, HNK.out, List.map_append]; exact m5)
            obtain ⟨b1, off1, cap1, pa, pc, e1, _, d0, _, _⟩ := (HV.out.keep M5.out.below).at_ HNK.out
            cases e1
            have d1 := below_cell HC0.out M5.out.below
            have HJ1 := Lib.hid (show ((G.take (j + 1)).map fun n => lev G n.1).length = j + 1 by rw [List.length_map, List.length_take]; omega)
            clear r5 m5 hkl
            rw [HE.out]
            go_wp2_with (at_builtin; refine Hid.out ?_)
            refine Lib.hid ?_
            refine Lib.wpList_append_run _ rfl _ _ _ _ rfl _ _ rfl rfl _ _ R5.out ?_
            by_cases hx : n.1 = x
            · have HB5 := Lib.hid M5.out.below
              subst hx
              go_wp2
              go_ret
              exact ⟨rfl, HB5.out⟩
            · have HX2 := Lib.hid (show x ∉ (ids G).take (j + 1) by
                rw [List.take_add_one, ids_at HNK.out]
                intro q
                rcases List.mem_append.1 q with q | q
                · exact HX.out q
                · simp at q; exact hx q.symm)
              go_wp2
              go_roundw
              case rel => exact ⟨j + 1, by omega, by go_num, HX2, by rw [HJ1.out]; exact M5.out⟩
              case measure => simp [RowKit.intOf]; omega
    · obtain rfl : k = G.length := by omega
      have hx := HX.out
      rw [List.take_of_length_le (by simp [ids])] at hx
      have HL := Lib.hid (lev_no hx)
      have HB := Lib.hid M.below
      clear M hx
      go_wp2
      go_ret
      rw [HL.out]
      exact ⟨rfl, HB.out⟩
end
end Go.Proofs.Ytihnnffhpgbgjaa
