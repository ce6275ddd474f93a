/- The reference: Newton's factors, Newton's form. -/
import Derived.Test.YtemokedoeneibaaSRsp
import Derived.Test.YtemokedoeneibaaWin
namespace Go.Proofs.Ytemokedoeneibaa
open Go.RowKit Go.Maps Go.ChangeMaps Go.MapKept
open Sp
attribute [local go_sem ↓] Go.wp_at_zero Go.wp_at_succ

section
variable {w : World}
set_option maxHeartbeats 2000000 in
set_option maxRecDepth 100000 in
theorem r_poly {v : Value} {l : List Pt} (hv : SharesAt w v l) (hg : Good l) (hn : l.length ≤ 100) :
    Calls Try.prog 32 #[v] w fun e w' => ∃ u d, e = .returned u ∧ IntsAt w' u d ∧ New l d ∧ Below w.heap.size w w' := by
  have HV := Lib.hid hv
  have HG := Lib.hid hg
  obtain ⟨a, cap, rfl, _⟩ := hv
  obtain ⟨n, hnl⟩ : ∃ n, n = l.length := ⟨_, rfl⟩
  rw [← hnl] at HV hn ⊢
  have HNL := Lib.hid hnl
  obtain ⟨w1, hr1, ho1, hg1⟩ := make_ints w n (by omega)
  have M1 := Lib.hid (show OMem w w1 [.row 3 1 (.slice (some ⟨w.heap.size, 0, none⟩) n n) n (intVs (List.replicate n 0))] from (OMem.start w).rowMade hg1 ho1)
  clear ho1 hg1 hnl hg
  go_enter Try.func32, Try.ntmps32
  go_wp2
  generalize hB : w.heap.size = B at *
  have HB := Lib.hid hB
  clear hr1 hB
  go_loopw [4] (fun i wr => ∃ (m : Nat) (L : List Int), m ≤ n ∧ i = .int .i64 (m : Int) ∧ L.length = n ∧ Hid (Upto L (l.map (·.2)) m) ∧ OMem w wr [.row 3 1 (.slice (some ⟨B, 0, none⟩) n n) n (intVs L)]) (fun i _ => n - (intOf i).toNat)
  case atStart => exact ⟨0, _, Nat.zero_le _, rfl, by simp, Lib.hid (fun j hj => by omega), M1.out⟩
  case round =>
    obtain ⟨m, L, hm, rfl, hL, HU, M⟩ := hrel
    have HL := Lib.hid hL
    by_cases hlt : m < n
    · obtain ⟨q, hq⟩ : ∃ q, l[m]? = some q := ⟨_, List.getElem?_eq_getElem (by rw [← HNL.out]; exact hlt)⟩
      have hvx := HV.out.keep M.below
      rw [HNL.out] at hvx
      obtain ⟨b, off, cap', h1, _, hc⟩ := hvx.form (by rw [← HNL.out]; omega)
      rw [← HNL.out] at h1
      cases h1
      obtain ⟨d0, d1⟩ := hc m q hq
      obtain ⟨p, hp⟩ : ∃ p, L[m]? = some p := ⟨_, List.getElem?_eq_getElem (by omega)⟩
      have HN := Lib.hid (upto_set HU.out (show (l.map (·.2))[m]? = some q.2 by rw [List.getElem?_map, hq]; rfl) (by omega))
      have ho := M.rowAt (i := 0) rfl
      have c0 := own_at ho (intVs_get hp)
      have f0 := own_fz ho m
      have m6 := M.rowSet (i := 0) rfl m (.int .i64 q.2)
      rw [intVs_set] at m6
      have M6 := Lib.hid (show OMem w (wr.setCell ⟨B, m, none⟩ (.int .i64 q.2)) [.row 3 1 (.slice (some ⟨B, 0, none⟩) n n) n (intVs (L.set m q.2))] from m6)
      clear ho m6 M hp hL hc hq hvx
      go_wp2
      go_roundw
      case rel => exact ⟨m + 1, _, by omega, by go_num, by rw [List.length_set]; exact HL.out, HN, M6.out⟩
      case measure => simp [intOf]; omega
    · obtain rfl : n = m := by omega
      have hl : L = l.map (·.2) := upto_end (by rw [List.length_map, ← HNL.out]; exact HU.out) (by rw [hL, List.length_map, ← HNL.out])
      subst hl
      have HM := Lib.hid M
      clear M hL HU HL
      go_wp2
      go_loopw [5] (fun s wr => ∃ (s' : Nat) (d : List Int), (s' + 1 ≤ n ∨ s' = 0) ∧ s = .int .i64 ((s' : Int) + 1) ∧ Hid (Lev l d s' n) ∧ OMem w wr [.row 3 1 (.slice (some ⟨B, 0, none⟩) n n) n (intVs d)]) (fun s _ => n - (intOf s).toNat)
      case atStart => exact ⟨0, _, .inr rfl, rfl, Lib.hid (lev_start (fun q hq => (HG.out.rg q hq).2) (by rw [← HNL.out]; omega)), HM.out⟩
      case round =>
        obtain ⟨s, d, hs, rfl, HLv, M⟩ := hrel
        have HM := Lib.hid M
        clear M
        by_cases hlt : s + 1 < n
        · have hlt2 : (s : Int) + 1 < (n : Int) := by omega
          go_wp2
          go_loopw [6] (fun i wr => ∃ (j : Nat) (d : List Int), s ≤ j ∧ j + 1 ≤ n ∧ i = .int .i64 (j : Int) ∧ Hid (Lev l d s j) ∧ OMem w wr [.row 3 1 (.slice (some ⟨B, 0, none⟩) n n) n (intVs d)]) (fun i _ => (intOf i).toNat)
          case atStart => exact ⟨n - 1, d, by omega, by omega, by congr 1; omega, Lib.hid (lev_at HLv.out (by rw [← HNL.out]; omega) (by rw [← HNL.out]; omega)), HM.out⟩
          case round =>
            obtain ⟨j, d, hsj, hjn, rfl, HLv, M⟩ := hrel
            by_cases hsj2 : s + 1 ≤ j
            · have hdl : d.length = n := by rw [HNL.out]; exact HLv.out.1
              obtain ⟨b, hb⟩ : ∃ b, d[j]? = some b := ⟨_, List.getElem?_eq_getElem (by omega)⟩
              obtain ⟨a, ha⟩ : ∃ a, d[j - 1]? = some a := ⟨_, List.getElem?_eq_getElem (by omega)⟩
              have har := HLv.out.2.1 a (List.mem_of_getElem? ha)
              have hbr := HLv.out.2.1 b (List.mem_of_getElem? hb)
              obtain ⟨r, hr⟩ : ∃ r, l[j]? = some r := ⟨_, List.getElem?_eq_getElem (by rw [← HNL.out]; omega)⟩
              obtain ⟨p, hp⟩ : ∃ p, l[j - (s + 1)]? = some p := ⟨_, List.getElem?_eq_getElem (by rw [← HNL.out]; omega)⟩
              have hrr := HG.out.rg r (List.mem_of_getElem? hr)
              have hpr := HG.out.rg p (List.mem_of_getElem? hp)
              have hvx := HV.out.keep M.drew.below
              rw [HNL.out] at hvx
              obtain ⟨lb, off, cap', h1, _, hc⟩ := hvx.form (by rw [← HNL.out]; omega)
              rw [← HNL.out] at h1
              cases h1
              have ho := M.drew.rowAt (i := 0) rfl
              have S0 := And.intro (own_at ho (intVs_get hb)) (And.intro (own_at ho (intVs_get ha)) (And.intro (hc j r hr).1 (hc (j - (s + 1)) p hp).1))
              have f0 := own_fz ho j
              have hne := small_off (place_ne HG.out.nd hp hr (by omega)) hrr.1 hpr.1
              have hz : 0 < (r.1 - p.1) % P ∧ (r.1 - p.1) % P < P := by
                have h1 := mod_in (r.1 - p.1)
                have h2 : (r.1 - p.1) % P ≠ 0 := fun h => hne (Int.dvd_of_emod_eq_zero h)
                omega
              have HI := fun w => r_inverse (w := w) hz
              have HI := Lib.hid HI
              have H1 := Lib.hid (fun w => g_mod (w := w) (b - a))
              have H2 := Lib.hid (fun w => g_mod (w := w) (r.1 - p.1))
              have HSet := Lib.hid (fun (u : Int) (hu : P ∣ u * ((r.1 - p.1) % P) - 1) => lev_set (c := (b - a) % P * u % P) HLv.out hr hp hsj2 ha hb (inv_dvd hu) (dif_dvd _ _) (mod_in _))
              obtain ⟨j1, hj1⟩ : ∃ j1, j1 = j - 1 := ⟨_, rfl⟩
              obtain ⟨j2, hj2⟩ : ∃ j2, j2 = j - (s + 1) := ⟨_, rfl⟩
              have hj3 : ((j : Int) - 1) = (j1 : Int) := by omega
              have hj4 : ((j : Int) - ((s : Int) + 1)) = (j2 : Int) := by omega
              rw [← hj1, ← hj2] at S0
              have hb1 : j1 < n := by omega
              have hb2 : j2 < n := by omega
              have hb3 : j < n := by omega
              have hab := mod_in (b - a)
              have hP := P_eq
              have hle : (s : Int) + 1 ≤ (j : Int) := by omega
              have HM := Lib.hid M
              clear hc ho hvx hz hne hp hr ha hb M hdl
              go_wp2
              have hw1 : IntKind.i64.wrap ((j : Int) - 1) = (j1 : Int) := by rw [IntKind.wrap_i64]; omega
              have hw2 : IntKind.i64.wrap ((j : Int) - ((s : Int) + 1)) = (j2 : Int) := by rw [IntKind.wrap_i64]; omega
              have hw3 : IntKind.i64.wrap (b - a) = b - a := by rw [IntKind.wrap_i64]; omega
              have hw4 : IntKind.i64.wrap (r.1 - p.1) = r.1 - p.1 := by rw [IntKind.wrap_i64]; omega
              have HJ1 := Lib.hid hj1
              clear hj1 hj2 hj3 hj4 hP
              refine region_till 31 (fun wx => wx.cell? ⟨B, j, none⟩ = some (.int .i64 b) ∧ wx.cell? ⟨B, j1, none⟩ = some (.int .i64 a) ∧ wx.cell? ⟨lb, off + j * 2, none⟩ = some (.int .i64 r.1) ∧ wx.cell? ⟨lb, off + j2 * 2, none⟩ = some (.int .i64 p.1)) (by kernel_rfl) ?_
              refine till_take 0 60 false (v := ?v0) (by kernel_rfl) (by kernel_rfl) (by kernel_rfl) (by kernel_rfl) (by kernel_rfl) (fun _ _ _ h => h) ?hw0 S0 ?hy0 ?rest0
              case hw0 => (simp only [List.getElem?_toArray, List.getElem?_cons_zero, Option.elim]; rfl)
              case hy0 => (simp only [List.getElem?_toArray, List.getElem?_cons_zero, Option.elim]; intro wx _; go_simp; with_reducible rfl)
              simp only [dstOf, List.getElem?_toArray, List.getElem?_cons_zero, Option.bind, Act.put, List.setIfInBounds_toArray, List.set_cons_zero, List.set_cons_succ]
              refine till_take 1 60 false (v := ?v1) (by kernel_rfl) (by kernel_rfl) (by kernel_rfl) (by kernel_rfl) (by kernel_rfl) (fun _ _ _ h => h) ?hw1 S0 ?hy1 ?rest1
              case hw1 => (simp only [List.getElem?_toArray, List.getElem?_cons_zero, List.getElem?_cons_succ, Option.elim]; rfl)
              case hy1 => (simp only [List.getElem?_toArray, List.getElem?_cons_zero, List.getElem?_cons_succ, Option.elim]; intro wx _; go_simp; with_reducible rfl)
              simp only [dstOf, List.getElem?_toArray, List.getElem?_cons_zero, List.getElem?_cons_succ, Option.bind, Act.put, List.setIfInBounds_toArray, List.set_cons_zero, List.set_cons_succ]
              refine till_take 2 60 false (v := ?v2) (by kernel_rfl) (by kernel_rfl) (by kernel_rfl) (by kernel_rfl) (by kernel_rfl) (fun _ _ _ h => h) ?hw2 S0 ?hy2 ?rest2
              case hw2 => (simp only [List.getElem?_toArray, List.getElem?_cons_zero, List.getElem?_cons_succ, Option.elim]; rfl)
              case hy2 => (simp only [List.getElem?_toArray, List.getElem?_cons_zero, List.getElem?_cons_succ, Option.elim]; intro wx _; go_simp; with_reducible rfl)
              simp only [dstOf, List.getElem?_toArray, List.getElem?_cons_zero, List.getElem?_cons_succ, Option.bind, Act.put, List.setIfInBounds_toArray, List.set_cons_zero, List.set_cons_succ]
              refine till_take 3 60 false (v := ?v3) (by kernel_rfl) (by kernel_rfl) (by kernel_rfl) (by kernel_rfl) (by kernel_rfl) (fun _ _ _ h => h) ?hw3 S0 ?hy3 ?rest3
              case hw3 => (simp only [List.getElem?_toArray, List.getElem?_cons_zero, List.getElem?_cons_succ, Option.elim]; rfl)
              case hy3 => (simp only [List.getElem?_toArray, List.getElem?_cons_zero, List.getElem?_cons_succ, Option.elim]; intro wx _; go_simp; with_reducible rfl)
              simp only [dstOf, List.getElem?_toArray, List.getElem?_cons_zero, List.getElem?_cons_succ, Option.bind, Act.put, List.setIfInBounds_toArray, List.set_cons_zero, List.set_cons_succ]
              refine till_take 4 60 false (v := ?v4) (by kernel_rfl) (by kernel_rfl) (by kernel_rfl) (by kernel_rfl) (by kernel_rfl) (fun _ _ _ h => h) ?hw4 S0 ?hy4 ?rest4
              case hw4 => (simp only [List.getElem?_toArray, List.getElem?_cons_zero, List.getElem?_cons_succ, Option.elim]; rfl)
              case hy4 => (simp only [List.getElem?_toArray, List.getElem?_cons_zero, List.getElem?_cons_succ, Option.elim]; intro wx _; go_simp; with_reducible rfl)
              simp only [dstOf, List.getElem?_toArray, List.getElem?_cons_zero, List.getElem?_cons_succ, Option.bind, Act.put, List.setIfInBounds_toArray, List.set_cons_zero, List.set_cons_succ]
              refine till_take 5 60 true (v := ?v5) (by kernel_rfl) (by kernel_rfl) (by kernel_rfl) (by kernel_rfl) (by kernel_rfl) (fun _ _ _ h => h) ?hw5 S0 ?hy5 ?rest5
              case hw5 => (simp only [List.getElem?_toArray, List.getElem?_cons_zero, List.getElem?_cons_succ, Option.elim]; rfl)
              case hy5 => (simp only [List.getElem?_toArray, List.getElem?_cons_zero, List.getElem?_cons_succ, Option.elim]; intro wx hx; have x0 := (hx trivial).1; have x1 := (hx trivial).2.1; have x2 := (hx trivial).2.2.1; have x3 := (hx trivial).2.2.2; go_simp; with_reducible rfl)
              simp only [dstOf, List.getElem?_toArray, List.getElem?_cons_zero, List.getElem?_cons_succ, Option.bind, Act.put, List.setIfInBounds_toArray, List.set_cons_zero, List.set_cons_succ]
              refine till_take 6 60 false (v := ?v6) (by kernel_rfl) (by kernel_rfl) (by kernel_rfl) (by kernel_rfl) (by kernel_rfl) (fun _ _ _ h => h) ?hw6 S0 ?hy6 ?rest6
              case hw6 => (simp only [List.getElem?_toArray, List.getElem?_cons_zero, List.getElem?_cons_succ, Option.elim]; rfl)
              case hy6 => (simp only [List.getElem?_toArray, List.getElem?_cons_zero, List.getElem?_cons_succ, Option.elim]; intro wx _; go_simp; with_reducible rfl)
              simp only [dstOf, List.getElem?_toArray, List.getElem?_cons_zero, List.getElem?_cons_succ, Option.bind, Act.put, List.setIfInBounds_toArray, List.set_cons_zero, List.set_cons_succ]
              refine till_take 7 60 false (v := ?v7) (by kernel_rfl) (by kernel_rfl) (by kernel_rfl) (by kernel_rfl) (by kernel_rfl) (fun _ _ _ h => h) ?hw7 S0 ?hy7 ?rest7
              case hw7 => (simp only [List.getElem?_toArray, List.getElem?_cons_zero, List.getElem?_cons_succ, Option.elim]; rfl)
              case hy7 => (simp only [List.getElem?_toArray, List.getElem?_cons_zero, List.getElem?_cons_succ, Option.elim]; intro wx _; go_simp; with_reducible rfl)
              simp only [dstOf, List.getElem?_toArray, List.getElem?_cons_zero, List.getElem?_cons_succ, Option.bind, Act.put, List.setIfInBounds_toArray, List.set_cons_zero, List.set_cons_succ]
              refine till_take 8 60 false (v := ?v8) (by kernel_rfl) (by kernel_rfl) (by kernel_rfl) (by kernel_rfl) (by kernel_rfl) (fun _ _ _ h => h) ?hw8 S0 ?hy8 ?rest8
              case hw8 => (simp only [List.getElem?_toArray, List.getElem?_cons_zero, List.getElem?_cons_succ, Option.elim]; rfl)
              case hy8 => (simp only [List.getElem?_toArray, List.getElem?_cons_zero, List.getElem?_cons_succ, Option.elim]; intro wx _; go_simp; with_reducible rfl)
              simp only [dstOf, List.getElem?_toArray, List.getElem?_cons_zero, List.getElem?_cons_succ, Option.bind, Act.put, List.setIfInBounds_toArray, List.set_cons_zero, List.set_cons_succ]
              refine till_take 9 60 false (v := ?v9) (by kernel_rfl) (by kernel_rfl) (by kernel_rfl) (by kernel_rfl) (by kernel_rfl) (fun _ _ _ h => h) ?hw9 S0 ?hy9 ?rest9
              case hw9 => (simp only [List.getElem?_toArray, List.getElem?_cons_zero, List.getElem?_cons_succ, Option.elim]; rfl)
              case hy9 => (simp only [List.getElem?_toArray, List.getElem?_cons_zero, List.getElem?_cons_succ, Option.elim]; intro wx _; go_simp; with_reducible rfl)
              simp only [dstOf, List.getElem?_toArray, List.getElem?_cons_zero, List.getElem?_cons_succ, Option.bind, Act.put, List.setIfInBounds_toArray, List.set_cons_zero, List.set_cons_succ]
              refine till_take 10 60 true (v := ?v10) (by kernel_rfl) (by kernel_rfl) (by kernel_rfl) (by kernel_rfl) (by kernel_rfl) (fun _ _ _ h => h) ?hw10 S0 ?hy10 ?rest10
              case hw10 => (simp only [List.getElem?_toArray, List.getElem?_cons_zero, List.getElem?_cons_succ, Option.elim]; rfl)
              case hy10 => (simp only [List.getElem?_toArray, List.getElem?_cons_zero, List.getElem?_cons_succ, Option.elim]; intro wx hx; have x0 := (hx trivial).1; have x1 := (hx trivial).2.1; have x2 := (hx trivial).2.2.1; have x3 := (hx trivial).2.2.2; go_simp; with_reducible rfl)
              simp only [dstOf, List.getElem?_toArray, List.getElem?_cons_zero, List.getElem?_cons_succ, Option.bind, Act.put, List.setIfInBounds_toArray, List.set_cons_zero, List.set_cons_succ]
              refine till_take 11 60 false (v := ?v11) (by kernel_rfl) (by kernel_rfl) (by kernel_rfl) (by kernel_rfl) (by kernel_rfl) (fun _ _ _ h => h) ?hw11 S0 ?hy11 ?rest11
              case hw11 => (simp only [List.getElem?_toArray, List.getElem?_cons_zero, List.getElem?_cons_succ, Option.elim]; rfl)
              case hy11 => (simp only [List.getElem?_toArray, List.getElem?_cons_zero, List.getElem?_cons_succ, Option.elim]; intro wx _; go_simp; with_reducible rfl)
              simp only [dstOf, List.getElem?_toArray, List.getElem?_cons_zero, List.getElem?_cons_succ, Option.bind, Act.put, List.setIfInBounds_toArray, List.set_cons_zero, List.set_cons_succ]
              refine till_take 13 60 false (v := ?v13) (by kernel_rfl) (by kernel_rfl) (by kernel_rfl) (by kernel_rfl) (by kernel_rfl) (fun _ _ _ h => h) ?hw13 S0 ?hy13 ?rest13
              case hw13 => (simp only [List.getElem?_toArray, List.getElem?_cons_zero, List.getElem?_cons_succ, Option.elim]; rfl)
              case hy13 => (simp only [List.getElem?_toArray, List.getElem?_cons_zero, List.getElem?_cons_succ, Option.elim]; intro wx _; go_simp; with_reducible rfl)
              simp only [dstOf, List.getElem?_toArray, List.getElem?_cons_zero, List.getElem?_cons_succ, Option.bind, Act.put, List.setIfInBounds_toArray, List.set_cons_zero, List.set_cons_succ]
              refine till_take 14 60 false (v := ?v14) (by kernel_rfl) (by kernel_rfl) (by kernel_rfl) (by kernel_rfl) (by kernel_rfl) (fun _ _ _ h => h) ?hw14 S0 ?hy14 ?rest14
              case hw14 => (simp only [List.getElem?_toArray, List.getElem?_cons_zero, List.getElem?_cons_succ, Option.elim]; rfl)
              case hy14 => (simp only [List.getElem?_toArray, List.getElem?_cons_zero, List.getElem?_cons_succ, Option.elim]; intro wx _; go_simp; with_reducible rfl)
              simp only [dstOf, List.getElem?_toArray, List.getElem?_cons_zero, List.getElem?_cons_succ, Option.bind, Act.put, List.setIfInBounds_toArray, List.set_cons_zero, List.set_cons_succ]
              refine till_take 15 60 false (v := ?v15) (by kernel_rfl) (by kernel_rfl) (by kernel_rfl) (by kernel_rfl) (by kernel_rfl) (fun _ _ _ h => h) ?hw15 S0 ?hy15 ?rest15
              case hw15 => (simp only [List.getElem?_toArray, List.getElem?_cons_zero, List.getElem?_cons_succ, Option.elim]; rfl)
              case hy15 => (simp only [List.getElem?_toArray, List.getElem?_cons_zero, List.getElem?_cons_succ, Option.elim]; intro wx _; go_simp; with_reducible rfl)
              simp only [dstOf, List.getElem?_toArray, List.getElem?_cons_zero, List.getElem?_cons_succ, Option.bind, Act.put, List.setIfInBounds_toArray, List.set_cons_zero, List.set_cons_succ]
              refine till_take 16 60 false (v := ?v16) (by kernel_rfl) (by kernel_rfl) (by kernel_rfl) (by kernel_rfl) (by kernel_rfl) (fun _ _ _ h => h) ?hw16 S0 ?hy16 ?rest16
              case hw16 => (simp only [List.getElem?_toArray, List.getElem?_cons_zero, List.getElem?_cons_succ, Option.elim]; rfl)
              case hy16 => (simp only [List.getElem?_toArray, List.getElem?_cons_zero, List.getElem?_cons_succ, Option.elim]; intro wx _; go_simp; with_reducible rfl)
              simp only [dstOf, List.getElem?_toArray, List.getElem?_cons_zero, List.getElem?_cons_succ, Option.bind, Act.put, List.setIfInBounds_toArray, List.set_cons_zero, List.set_cons_succ]
              refine till_take 17 60 true (v := ?v17) (by kernel_rfl) (by kernel_rfl) (by kernel_rfl) (by kernel_rfl) (by kernel_rfl) (fun _ _ _ h => h) ?hw17 S0 ?hy17 ?rest17
              case hw17 => (simp only [List.getElem?_toArray, List.getElem?_cons_zero, List.getElem?_cons_succ, Option.elim]; rfl)
              case hy17 => (simp only [List.getElem?_toArray, List.getElem?_cons_zero, List.getElem?_cons_succ, Option.elim]; intro wx hx; have x0 := (hx trivial).1; have x1 := (hx trivial).2.1; have x2 := (hx trivial).2.2.1; have x3 := (hx trivial).2.2.2; go_simp; with_reducible rfl)
              simp only [dstOf, List.getElem?_toArray, List.getElem?_cons_zero, List.getElem?_cons_succ, Option.bind, Act.put, List.setIfInBounds_toArray, List.set_cons_zero, List.set_cons_succ]
              refine till_take 18 60 false (v := ?v18) (by kernel_rfl) (by kernel_rfl) (by kernel_rfl) (by kernel_rfl) (by kernel_rfl) (fun _ _ _ h => h) ?hw18 S0 ?hy18 ?rest18
              case hw18 => (simp only [List.getElem?_toArray, List.getElem?_cons_zero, List.getElem?_cons_succ, Option.elim]; rfl)
              case hy18 => (simp only [List.getElem?_toArray, List.getElem?_cons_zero, List.getElem?_cons_succ, Option.elim]; intro wx _; go_simp; with_reducible rfl)
              simp only [dstOf, List.getElem?_toArray, List.getElem?_cons_zero, List.getElem?_cons_succ, Option.bind, Act.put, List.setIfInBounds_toArray, List.set_cons_zero, List.set_cons_succ]
              refine till_take 19 60 false (v := ?v19) (by kernel_rfl) (by kernel_rfl) (by kernel_rfl) (by kernel_rfl) (by kernel_rfl) (fun _ _ _ h => h) ?hw19 S0 ?hy19 ?rest19
              case hw19 => (simp only [List.getElem?_toArray, List.getElem?_cons_zero, List.getElem?_cons_succ, Option.elim]; rfl)
              case hy19 => (simp only [List.getElem?_toArray, List.getElem?_cons_zero, List.getElem?_cons_succ, Option.elim]; intro wx _; go_simp; with_reducible rfl)
              simp only [dstOf, List.getElem?_toArray, List.getElem?_cons_zero, List.getElem?_cons_succ, Option.bind, Act.put, List.setIfInBounds_toArray, List.set_cons_zero, List.set_cons_succ]
              refine till_take 20 60 false (v := ?v20) (by kernel_rfl) (by kernel_rfl) (by kernel_rfl) (by kernel_rfl) (by kernel_rfl) (fun _ _ _ h => h) ?hw20 S0 ?hy20 ?rest20
              case hw20 => (simp only [List.getElem?_toArray, List.getElem?_cons_zero, List.getElem?_cons_succ, Option.elim]; rfl)
              case hy20 => (simp only [List.getElem?_toArray, List.getElem?_cons_zero, List.getElem?_cons_succ, Option.elim]; intro wx _; go_simp; with_reducible rfl)
              simp only [dstOf, List.getElem?_toArray, List.getElem?_cons_zero, List.getElem?_cons_succ, Option.bind, Act.put, List.setIfInBounds_toArray, List.set_cons_zero, List.set_cons_succ]
              refine till_take 21 60 false (v := ?v21) (by kernel_rfl) (by kernel_rfl) (by kernel_rfl) (by kernel_rfl) (by kernel_rfl) (fun _ _ _ h => h) ?hw21 S0 ?hy21 ?rest21
              case hw21 => (simp only [List.getElem?_toArray, List.getElem?_cons_zero, List.getElem?_cons_succ, Option.elim]; rfl)
              case hy21 => (simp only [List.getElem?_toArray, List.getElem?_cons_zero, List.getElem?_cons_succ, Option.elim]; intro wx _; go_simp; with_reducible rfl)
              simp only [dstOf, List.getElem?_toArray, List.getElem?_cons_zero, List.getElem?_cons_succ, Option.bind, Act.put, List.setIfInBounds_toArray, List.set_cons_zero, List.set_cons_succ]
              refine till_take 22 60 false (v := ?v22) (by kernel_rfl) (by kernel_rfl) (by kernel_rfl) (by kernel_rfl) (by kernel_rfl) (fun _ _ _ h => h) ?hw22 S0 ?hy22 ?rest22
              case hw22 => (simp only [List.getElem?_toArray, List.getElem?_cons_zero, List.getElem?_cons_succ, Option.elim]; rfl)
              case hy22 => (simp only [List.getElem?_toArray, List.getElem?_cons_zero, List.getElem?_cons_succ, Option.elim]; intro wx _; go_simp; with_reducible rfl)
              simp only [dstOf, List.getElem?_toArray, List.getElem?_cons_zero, List.getElem?_cons_succ, Option.bind, Act.put, List.setIfInBounds_toArray, List.set_cons_zero, List.set_cons_succ]
              refine till_take 23 60 false (v := ?v23) (by kernel_rfl) (by kernel_rfl) (by kernel_rfl) (by kernel_rfl) (by kernel_rfl) (fun _ _ _ h => h) ?hw23 S0 ?hy23 ?rest23
              case hw23 => (simp only [List.getElem?_toArray, List.getElem?_cons_zero, List.getElem?_cons_succ, Option.elim]; rfl)
              case hy23 => (simp only [List.getElem?_toArray, List.getElem?_cons_zero, List.getElem?_cons_succ, Option.elim]; intro wx _; go_simp; with_reducible rfl)
              simp only [dstOf, List.getElem?_toArray, List.getElem?_cons_zero, List.getElem?_cons_succ, Option.bind, Act.put, List.setIfInBounds_toArray, List.set_cons_zero, List.set_cons_succ]
              refine till_take 24 60 true (v := ?v24) (by kernel_rfl) (by kernel_rfl) (by kernel_rfl) (by kernel_rfl) (by kernel_rfl) (fun _ _ _ h => h) ?hw24 S0 ?hy24 ?rest24
              case hw24 => (simp only [List.getElem?_toArray, List.getElem?_cons_zero, List.getElem?_cons_succ, Option.elim]; rfl)
              case hy24 => (simp only [List.getElem?_toArray, List.getElem?_cons_zero, List.getElem?_cons_succ, Option.elim]; intro wx hx; have x0 := (hx trivial).1; have x1 := (hx trivial).2.1; have x2 := (hx trivial).2.2.1; have x3 := (hx trivial).2.2.2; go_simp; with_reducible rfl)
              simp only [dstOf, List.getElem?_toArray, List.getElem?_cons_zero, List.getElem?_cons_succ, Option.bind, Act.put, List.setIfInBounds_toArray, List.set_cons_zero, List.set_cons_succ]
              refine till_take 25 60 false (v := ?v25) (by kernel_rfl) (by kernel_rfl) (by kernel_rfl) (by kernel_rfl) (by kernel_rfl) (fun _ _ _ h => h) ?hw25 S0 ?hy25 ?rest25
              case hw25 => (simp only [List.getElem?_toArray, List.getElem?_cons_zero, List.getElem?_cons_succ, Option.elim]; rfl)
              case hy25 => (simp only [List.getElem?_toArray, List.getElem?_cons_zero, List.getElem?_cons_succ, Option.elim]; intro wx _; go_simp; with_reducible rfl)
              simp only [dstOf, List.getElem?_toArray, List.getElem?_cons_zero, List.getElem?_cons_succ, Option.bind, Act.put, List.setIfInBounds_toArray, List.set_cons_zero, List.set_cons_succ]
              refine till_before 12 (by kernel_rfl) (fun K hK => ?_)
              simp only [List.getElem?_toArray, List.getElem?_cons_zero, List.getElem?_cons_succ, Option.elim]
              rw [if_pos (by rfl)]
              go_simp
              go_at_call 16
              refine (H1.out _).mono ?_
              rintro e w2 ⟨rfl, rfl⟩
              refine hK.out _ _ (S0) ?_
              clear hK K
              try simp only [Act.put, List.setIfInBounds_toArray, List.set_cons_zero, List.set_cons_succ]
              refine till_before 26 (by kernel_rfl) (fun K hK => ?_)
              simp only [List.getElem?_toArray, List.getElem?_cons_zero, List.getElem?_cons_succ, Option.elim]
              rw [if_pos (by rfl)]
              go_simp
              go_at_call 16
              refine (H2.out _).mono ?_
              rintro e w2 ⟨rfl, rfl⟩
              refine hK.out _ _ (S0) ?_
              clear hK K
              try simp only [Act.put, List.setIfInBounds_toArray, List.set_cons_zero, List.set_cons_succ]
              refine till_before 27 (by kernel_rfl) (fun K hK => ?_)
              simp only [List.getElem?_toArray, List.getElem?_cons_zero, List.getElem?_cons_succ, Option.elim]
              rw [if_pos (by rfl)]
              go_simp
              go_at_call 34
              refine (HI.out _).mono ?_
              rintro e w2 ⟨u, rfl, hu0, hu1, hu2, rfl⟩
              refine hK.out _ _ (S0) ?_
              clear hK K
              try simp only [Act.put, List.setIfInBounds_toArray, List.set_cons_zero, List.set_cons_succ]
              have HS2 := Lib.hid (HSet.out u hu2)
              have b3 : 0 ≤ (b - a) % P * u := Int.mul_nonneg hab.1 hu0
              have b4 : (b - a) % P * u ≤ 2147483647 * 2147483647 := Int.mul_le_mul (by have := P_eq; omega) (by have := P_eq; omega) hu0 (by decide)
              have hw5 : IntKind.i64.wrap ((b - a) % P * u) = (b - a) % P * u := by rw [IntKind.wrap_i64]; omega
              have ht : ((b - a) % P * u).tmod 2147483647 = (b - a) % P * u % 2147483647 := Int.tmod_eq_emod_of_nonneg b3
              clear hu2 HSet
              refine till_take 28 60 false (v := ?v28) (by kernel_rfl) (by kernel_rfl) (by kernel_rfl) (by kernel_rfl) (by kernel_rfl) (fun _ _ _ h => h) ?hw28 S0 ?hy28 ?rest28
              case hw28 => (simp only [List.getElem?_toArray, List.getElem?_cons_zero, List.getElem?_cons_succ, Option.elim]; rfl)
              case hy28 => (simp only [List.getElem?_toArray, List.getElem?_cons_zero, List.getElem?_cons_succ, Option.elim]; intro wx _; go_simp; with_reducible rfl)
              simp only [dstOf, List.getElem?_toArray, List.getElem?_cons_zero, List.getElem?_cons_succ, Option.bind, Act.put, List.setIfInBounds_toArray, List.set_cons_zero, List.set_cons_succ]
              refine till_take 29 60 false (v := ?v29) (by kernel_rfl) (by kernel_rfl) (by kernel_rfl) (by kernel_rfl) (by kernel_rfl) (fun _ _ _ h => h) ?hw29 S0 ?hy29 ?rest29
              case hw29 => (simp only [List.getElem?_toArray, List.getElem?_cons_zero, List.getElem?_cons_succ, Option.elim]; rfl)
              case hy29 => (simp only [List.getElem?_toArray, List.getElem?_cons_zero, List.getElem?_cons_succ, Option.elim]; intro wx _; go_simp; with_reducible rfl)
              simp only [dstOf, List.getElem?_toArray, List.getElem?_cons_zero, List.getElem?_cons_succ, Option.bind, Act.put, List.setIfInBounds_toArray, List.set_cons_zero, List.set_cons_succ]
              refine till_take 30 60 false (v := ?v30) (by kernel_rfl) (by kernel_rfl) (by kernel_rfl) (by kernel_rfl) (by kernel_rfl) (fun _ _ _ h => h) ?hw30 S0 ?hy30 ?rest30
              case hw30 => (simp only [List.getElem?_toArray, List.getElem?_cons_zero, List.getElem?_cons_succ, Option.elim]; rfl)
              case hy30 => (simp only [List.getElem?_toArray, List.getElem?_cons_zero, List.getElem?_cons_succ, Option.elim]; intro wx _; go_simp; with_reducible rfl)
              simp only [dstOf, List.getElem?_toArray, List.getElem?_cons_zero, List.getElem?_cons_succ, Option.bind, Act.put, List.setIfInBounds_toArray, List.set_cons_zero, List.set_cons_succ]
              refine till_step 31 (by kernel_rfl) (by kernel_rfl) (fun K hK => ?_)
              simp only [List.getElem?_toArray, List.getElem?_cons_zero, List.getElem?_cons_succ, Option.elim]
              rw [if_pos (by rfl)]
              have x0 := S0.1
              go_simp
              refine hK.out _ _ ?_
              clear hK K
              try simp only [Act.put, List.setIfInBounds_toArray, List.set_cons_zero, List.set_cons_succ]
              refine till_end (by kernel_rfl) ?_ _
              have m5 := (HM.out.rowSet (i := 0) rfl j (.int .i64 ((b - a) % P * u % 2147483647))).drew
              rw [intVs_set] at m5
              have M5 := Lib.hid (show OMem w (wr.setCell ⟨B, j, none⟩ (.int .i64 ((b - a) % P * u % 2147483647))).drew [.row 3 1 (.slice (some ⟨B, 0, none⟩) n n) n (intVs (d.set j ((b - a) % P * u % P)))] from m5)
              have hjj : (j : Int) - 1 = (j1 : Int) := by have := HJ1.out; omega
              clear hw1 hw2 hw3 hw4 hw5 ht m5 x0 f0 S0
              go_wp2
              go_roundw
              case rel => exact ⟨j1, _, by have := HJ1.out; omega, by have := HJ1.out; omega, rfl, by rw [HJ1.out]; exact HS2, M5.out⟩
              case measure => simp only [intOf]; have := HJ1.out; omega
            · obtain rfl : s = j := by omega
              have hle : ¬ (s : Int) + 1 ≤ (s : Int) := by omega
              have HM := Lib.hid M
              have HN := Lib.hid (lev_next HLv.out (i := n) (by rw [← HNL.out]; omega))
              clear M
              go_wp2
              go_roundw
              case rel => exact ⟨s + 1, _, .inl (by omega), by go_num, HN, HM.out⟩
              case measure => simp [intOf]; omega
        · have hge : ¬ (s : Int) + 1 < (n : Int) := by omega
          have HI := Lib.hid (show IntsAt wr (.slice (some ⟨B, 0, none⟩) n n) d from RowAt.of_own (by have h1 := HM.out.rowAt (i := 0) rfl; have h2 := HLv.out.1; rw [intVs_length, h2, ← HNL.out]; exact h1))
          have HNw := Lib.hid (⟨HLv.out.1, HLv.out.2.1, lev_end HLv.out (by rw [← HNL.out]; omega) (by rw [← HNL.out]; omega)⟩ : New l d)
          have HBl := Lib.hid HM.out.below
          clear HM
          go_wp2
          go_ret
          refine ⟨_, rfl, d, HI.out, HNw.out, ?_⟩
          have := HBl.out
          rwa [HB.out] at this
end
end Go.Proofs.Ytemokedoeneibaa
