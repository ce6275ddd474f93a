/- The reference: at, On, Join, Fits. -/
import Derived.Test.YtemokedoeneibaaSPoly
namespace Go.Proofs.Ytemokedoeneibaa
open Go.RowKit Go.Maps Go.ChangeMaps Go.MapKept
open Sp
attribute [local go_sem ↓] Go.wp_at_zero Go.wp_at_succ

section
variable {w : World}
set_option maxHeartbeats 2000000 in
set_option maxRecDepth 100000 in
theorem r_at {v u : Value} {l : List Pt} {d : List Int} {x : Int} (hv : SharesAt w v l) (hu : IntsAt w u d) (hg : Good l) (hnw : New l d) (hx : 0 ≤ x ∧ x ≤ 20) (hn : l.length ≤ 100) :
    Calls Try.prog 33 #[v, u, .int .i64 x] w fun e w' => e = .returned (.int .i64 (lag l x)) ∧ Below w.heap.size w w' := by
  have HV := Lib.hid hv
  have HU := Lib.hid hu
  have HG := Lib.hid hg
  have HN := Lib.hid hnw
  obtain ⟨a, cap, rfl, _⟩ := hv
  obtain ⟨a2, cap2, rfl, _⟩ := hu.form
  have hdl : d.length = l.length := hnw.len
  rw [hdl] at HU ⊢
  have HDL := Lib.hid hdl
  clear hdl hg hnw hu
  go_enter Try.func33, Try.ntmps33
  go_wp2
  go_loopw [7, 8] (fun y i wr => ∃ (m : Nat) (Y : Int), m ≤ l.length ∧ y = .int .i64 Y ∧ (0 ≤ Y ∧ Y < P) ∧ Hid (P ∣ Y - nv ((d.zip (l.map (·.1))).drop m) x) ∧ i = .int .i64 ((m : Int) - 1) ∧ Below w.heap.size w wr) (fun _ i _ => (intOf i + 1).toNat)
  case atStart => exact ⟨l.length, 0, Nat.le_refl _, rfl, by decide, Lib.hid (by rw [List.drop_of_length_le (by rw [List.length_zip, List.length_map]; omega)]; exact ⟨0, by simp [nv]⟩), rfl, Below.refl _ _⟩
  case round =>
    obtain ⟨m, Y, hm, rfl, hY, HY, rfl, hb⟩ := hrel
    have HB := Lib.hid hb
    by_cases h0 : 0 < m
    · obtain ⟨m, rfl⟩ : ∃ n, m = n + 1 := ⟨m - 1, by omega⟩
      obtain ⟨q, hq⟩ : ∃ q, l[m]? = some q := ⟨_, List.getElem?_eq_getElem (by omega)⟩
      obtain ⟨c, hc⟩ : ∃ c, d[m]? = some c := ⟨_, List.getElem?_eq_getElem (by rw [HDL.out]; omega)⟩
      have hqr := HG.out.rg q (List.mem_of_getElem? hq)
      have hcr := HN.out.rg c (List.mem_of_getElem? hc)
      have hst := nv_get hc (show (l.map (·.1))[m]? = some q.1 by rw [List.getElem?_map, hq]; rfl) x
      have HS := Lib.hid (show P ∣ (Y * ((x - q.1) % P) + c) % P - nv ((d.zip (l.map (·.1))).drop m) x by rw [hst]; exact nv_step HY.out (mod_same _))
      obtain ⟨b, off, cap', h1, _, hcl⟩ := (HV.out.keep hb).form (by omega)
      cases h1
      obtain ⟨c0, -⟩ := hcl m q hq
      have hux := HU.out.keep hb
      obtain ⟨a3, cap3, h1, hcl2⟩ := hux.form
      rw [HDL.out] at h1
      cases h1
      obtain ⟨b2, off2, h1, c1⟩ := hcl2 m (by rw [HDL.out]; omega)
      subst h1
      have hdm : d[m]'(by rw [HDL.out]; omega) = c := by have := List.getElem?_eq_getElem (l := d) (i := m) (by rw [HDL.out]; omega); rw [hc] at this; exact (Option.some.inj this).symm
      rw [hdm] at c1
      have hmr := mod_in (x - q.1)
      have b3 : 0 ≤ Y * ((x - q.1) % P) := Int.mul_nonneg hY.1 hmr.1
      have b4 : Y * ((x - q.1) % P) ≤ 2147483647 * 2147483647 := Int.mul_le_mul (by have := P_eq; omega) (by have := P_eq; omega) hmr.1 (by decide)
      have hw1 : IntKind.i64.wrap (x - q.1) = x - q.1 := by rw [IntKind.wrap_i64]; omega
      have hw2 : IntKind.i64.wrap (Y * ((x - q.1) % P)) = Y * ((x - q.1) % P) := by rw [IntKind.wrap_i64]; omega
      have hw3 : IntKind.i64.wrap (Y * ((x - q.1) % P) + c) = Y * ((x - q.1) % P) + c := by rw [IntKind.wrap_i64]; have := P_eq; omega
      have ht : (Y * ((x - q.1) % P) + c).tmod 2147483647 = (Y * ((x - q.1) % P) + c) % 2147483647 := Int.tmod_eq_emod_of_nonneg (by omega)
      have H1 := Lib.hid (fun w => Calls.same (g_mod (w := w) (x - q.1)))
      have hi : ((m + 1 : Nat) : Int) - 1 = (m : Int) := by omega
      clear hst hq hc hcl hcl2 hux hb hdm
      rw [hi]
      clear hi
      go_wp2
      go_quiet (first | (go_at_call 16; refine Calls.quiet_of_same (H1.out _)))
      have HS2 := Lib.hid (show P ∣ (Y * ((x - q.1) % P) + c) % 2147483647 - nv ((d.zip (l.map (·.1))).drop m) x from HS.out)
      have hrg := mod_in (Y * ((x - q.1) % P) + c)
      clear hw1 hw2 hw3 ht
      go_wp2
      go_roundw
      case rel => exact ⟨m, _, by omega, rfl, hrg, HS2, rfl, HB.out.trans ((drewN_below wr nq).mono HB.out.size)⟩
      case measure => simp only [intOf]; omega
    · obtain rfl : m = 0 := by omega
      have hi : ((0 : Nat) : Int) - 1 = -1 := rfl
      rw [hi]
      have HR := Lib.hid (show Y = lag l x by
        rw [← new_lag HG.out.diff HN.out x, ← mod_small hY]
        exact emod_same (by have := HY.out; rwa [List.drop_zero] at this))
      go_wp2
      go_ret
      exact ⟨ret_int HR.out, HB.out⟩
/-- What On answers. -/
noncomputable def onV (l : List Pt) (k : Nat) : Int := if fitB l k = true then lag (l.take k) 0 else 0
set_option maxHeartbeats 2000000 in
set_option maxRecDepth 100000 in
theorem r_on {v : Value} {l : List Pt} {k : Nat} (hv : SharesAt w v l) (hg : Good l) (h0 : 0 < l.length) (hk1 : 1 ≤ k) (hk2 : k ≤ 20) (hn : l.length ≤ 100) :
    Calls Try.prog 26 #[v, .int .i64 (k : Int)] w fun e w' => e = .returned (.tuple #[.int .i64 (onV l k), .bool (fitB l k)]) ∧ Below w.heap.size w w' := by
  have HV := Lib.hid hv
  have HG := Lib.hid hg
  obtain ⟨b, off, cap, rfl, hcap, _⟩ := hv.form h0
  by_cases hkl : k ≤ l.length
  · have hnk : ¬ l.length < k := by omega
    have hkc : k ≤ cap := by omega
    have HP := Lib.hid (r_poly (hv.take hkl) (hg.take k) (by rw [List.length_take]; omega))
    clear hg
    go_enter Try.func26, Try.ntmps26
    go_wp2_with (go_at_call 32; refine (HP.out).mono ?_; rintro e w1 ⟨u, d, rfl, hu, hnw, hb1⟩; refine Hid.out ?_)
    refine Lib.hid ?_
    have HU := Lib.hid hu
    have HW := Lib.hid hnw
    have HB1 := Lib.hid hb1
    clear hu hnw hb1 HP
    go_wp2
    go_loopw [8] (fun i wr => ∃ (m : Nat), k + m ≤ l.length ∧ i = .int .i64 ((k + m : Nat) : Int) ∧ Hid (∀ j q, k ≤ j → j < k + m → l[j]? = some q → lag (l.take k) q.1 = q.2) ∧ Below w1.heap.size w1 wr) (fun i _ => l.length - (intOf i).toNat)
    case atStart => exact ⟨0, hkl, rfl, Lib.hid fun j q h1 h2 => by omega, Below.refl _ _⟩
    case round =>
      obtain ⟨m, hm, rfl, HA, hb⟩ := hrel
      have HB := Lib.hid hb
      by_cases hlt : k + m < l.length
      · obtain ⟨q, hq⟩ : ∃ q, l[k + m]? = some q := ⟨_, List.getElem?_eq_getElem hlt⟩
        have hbw := HB1.out.trans (hb.mono HB1.out.size)
        have hqr := HG.out.rg q (List.mem_of_getElem? hq)
        have HT := Lib.hid (r_at ((HV.out.keep (hbw.trans ((below_drew wr).mono hbw.size))).take hkl) (HU.out.keep (hb.trans ((below_drew wr).mono hb.size))) (HG.out.take k) HW.out hqr.1 (by rw [List.length_take]; omega))
        have hc := (HV.out.keep hbw).at_ hq
        have SS := Lib.hid (fun wx (hx : Below wr.heap.size wr wx) => (⟨below_cell hc.1 hx, below_cell hc.2 hx⟩ : wx.cell? ⟨b, off + (k + m) * 2, none⟩ = some (.int .i64 q.1) ∧ wx.cell? ⟨b, off + (k + m) * 2 + 1, none⟩ = some (.int .i64 q.2)))
        have HQ := Lib.hid hq
        clear hq hb hc hbw hcap
        have S0 := SS.out _ (below_drew wr)
        have HM := Lib.hid hm
        obtain ⟨i, hi⟩ : ∃ i, i = k + m := ⟨_, rfl⟩
        rw [← hi] at HQ SS S0 hlt ⊢
        have HI := Lib.hid hi
        clear hi hm
        go_wp2
        refine region_till 13 (fun wx => wx.cell? ⟨b, off + i * 2, none⟩ = some (.int .i64 q.1) ∧ wx.cell? ⟨b, off + i * 2 + 1, none⟩ = some (.int .i64 q.2)) (by kernel_rfl) ?_
        refine till_take 0 40 false (v := ?v0) (by kernel_rfl) (by kernel_rfl) (by kernel_rfl) (by kernel_rfl) (by kernel_rfl) (fun _ _ _ h => h) ?hw0 S0 ?hy0 ?rest0
        case hw0 => (simp only [List.getElem?_toArray, List.getElem?_cons_zero, Option.elim]; rfl)
        case hy0 => (simp only [List.getElem?_toArray, List.getElem?_cons_zero, Option.elim]; intro wx _; go_simp; with_reducible rfl)
        simp only [dstOf, List.getElem?_toArray, List.getElem?_cons_zero, Option.bind, Act.put, List.setIfInBounds_toArray, List.set_cons_zero, List.set_cons_succ]
        refine till_take 1 40 false (v := ?v1) (by kernel_rfl) (by kernel_rfl) (by kernel_rfl) (by kernel_rfl) (by kernel_rfl) (fun _ _ _ h => h) ?hw1 S0 ?hy1 ?rest1
        case hw1 => (simp only [List.getElem?_toArray, List.getElem?_cons_zero, List.getElem?_cons_succ, Option.elim]; rfl)
        case hy1 => (simp only [List.getElem?_toArray, List.getElem?_cons_zero, List.getElem?_cons_succ, Option.elim]; intro wx _; go_simp; with_reducible rfl)
        simp only [dstOf, List.getElem?_toArray, List.getElem?_cons_zero, List.getElem?_cons_succ, Option.bind, Act.put, List.setIfInBounds_toArray, List.set_cons_zero, List.set_cons_succ]
        refine till_take 2 40 false (v := ?v2) (by kernel_rfl) (by kernel_rfl) (by kernel_rfl) (by kernel_rfl) (by kernel_rfl) (fun _ _ _ h => h) ?hw2 S0 ?hy2 ?rest2
        case hw2 => (simp only [List.getElem?_toArray, List.getElem?_cons_zero, List.getElem?_cons_succ, Option.elim]; rfl)
        case hy2 => (simp only [List.getElem?_toArray, List.getElem?_cons_zero, List.getElem?_cons_succ, Option.elim]; intro wx _; go_simp; with_reducible rfl)
        simp only [dstOf, List.getElem?_toArray, List.getElem?_cons_zero, List.getElem?_cons_succ, Option.bind, Act.put, List.setIfInBounds_toArray, List.set_cons_zero, List.set_cons_succ]
        refine till_take 3 40 false (v := ?v3) (by kernel_rfl) (by kernel_rfl) (by kernel_rfl) (by kernel_rfl) (by kernel_rfl) (fun _ _ _ h => h) ?hw3 S0 ?hy3 ?rest3
        case hw3 => (simp only [List.getElem?_toArray, List.getElem?_cons_zero, List.getElem?_cons_succ, Option.elim]; rfl)
        case hy3 => (simp only [List.getElem?_toArray, List.getElem?_cons_zero, List.getElem?_cons_succ, Option.elim]; intro wx _; go_simp; with_reducible rfl)
        simp only [dstOf, List.getElem?_toArray, List.getElem?_cons_zero, List.getElem?_cons_succ, Option.bind, Act.put, List.setIfInBounds_toArray, List.set_cons_zero, List.set_cons_succ]
        refine till_take 4 40 false (v := ?v4) (by kernel_rfl) (by kernel_rfl) (by kernel_rfl) (by kernel_rfl) (by kernel_rfl) (fun _ _ _ h => h) ?hw4 S0 ?hy4 ?rest4
        case hw4 => (simp only [List.getElem?_toArray, List.getElem?_cons_zero, List.getElem?_cons_succ, Option.elim]; rfl)
        case hy4 => (simp only [List.getElem?_toArray, List.getElem?_cons_zero, List.getElem?_cons_succ, Option.elim]; intro wx _; go_simp; with_reducible rfl)
        simp only [dstOf, List.getElem?_toArray, List.getElem?_cons_zero, List.getElem?_cons_succ, Option.bind, Act.put, List.setIfInBounds_toArray, List.set_cons_zero, List.set_cons_succ]
        refine till_take 5 40 false (v := ?v5) (by kernel_rfl) (by kernel_rfl) (by kernel_rfl) (by kernel_rfl) (by kernel_rfl) (fun _ _ _ h => h) ?hw5 S0 ?hy5 ?rest5
        case hw5 => (simp only [List.getElem?_toArray, List.getElem?_cons_zero, List.getElem?_cons_succ, Option.elim]; rfl)
        case hy5 => (simp only [List.getElem?_toArray, List.getElem?_cons_zero, List.getElem?_cons_succ, Option.elim]; intro wx _; go_simp; with_reducible rfl)
        simp only [dstOf, List.getElem?_toArray, List.getElem?_cons_zero, List.getElem?_cons_succ, Option.bind, Act.put, List.setIfInBounds_toArray, List.set_cons_zero, List.set_cons_succ]
        refine till_take 6 40 true (v := ?v6) (by kernel_rfl) (by kernel_rfl) (by kernel_rfl) (by kernel_rfl) (by kernel_rfl) (fun _ _ _ h => h) ?hw6 S0 ?hy6 ?rest6
        case hw6 => (simp only [List.getElem?_toArray, List.getElem?_cons_zero, List.getElem?_cons_succ, Option.elim]; rfl)
        case hy6 => (simp only [List.getElem?_toArray, List.getElem?_cons_zero, List.getElem?_cons_succ, Option.elim]; intro wx hx; have x0 := (hx trivial).1; have x1 := (hx trivial).2; go_simp; with_reducible rfl)
        simp only [dstOf, List.getElem?_toArray, List.getElem?_cons_zero, List.getElem?_cons_succ, Option.bind, Act.put, List.setIfInBounds_toArray, List.set_cons_zero, List.set_cons_succ]
        refine till_take 8 40 false (v := ?v8) (by kernel_rfl) (by kernel_rfl) (by kernel_rfl) (by kernel_rfl) (by kernel_rfl) (fun _ _ _ h => h) ?hw8 S0 ?hy8 ?rest8
        case hw8 => (simp only [List.getElem?_toArray, List.getElem?_cons_zero, List.getElem?_cons_succ, Option.elim]; rfl)
        case hy8 => (simp only [List.getElem?_toArray, List.getElem?_cons_zero, List.getElem?_cons_succ, Option.elim]; intro wx _; go_simp; with_reducible rfl)
        simp only [dstOf, List.getElem?_toArray, List.getElem?_cons_zero, List.getElem?_cons_succ, Option.bind, Act.put, List.setIfInBounds_toArray, List.set_cons_zero, List.set_cons_succ]
        refine till_take 9 40 false (v := ?v9) (by kernel_rfl) (by kernel_rfl) (by kernel_rfl) (by kernel_rfl) (by kernel_rfl) (fun _ _ _ h => h) ?hw9 S0 ?hy9 ?rest9
        case hw9 => (simp only [List.getElem?_toArray, List.getElem?_cons_zero, List.getElem?_cons_succ, Option.elim]; rfl)
        case hy9 => (simp only [List.getElem?_toArray, List.getElem?_cons_zero, List.getElem?_cons_succ, Option.elim]; intro wx _; go_simp; with_reducible rfl)
        simp only [dstOf, List.getElem?_toArray, List.getElem?_cons_zero, List.getElem?_cons_succ, Option.bind, Act.put, List.setIfInBounds_toArray, List.set_cons_zero, List.set_cons_succ]
        refine till_take 10 40 false (v := ?v10) (by kernel_rfl) (by kernel_rfl) (by kernel_rfl) (by kernel_rfl) (by kernel_rfl) (fun _ _ _ h => h) ?hw10 S0 ?hy10 ?rest10
        case hw10 => (simp only [List.getElem?_toArray, List.getElem?_cons_zero, List.getElem?_cons_succ, Option.elim]; rfl)
        case hy10 => (simp only [List.getElem?_toArray, List.getElem?_cons_zero, List.getElem?_cons_succ, Option.elim]; intro wx _; go_simp; with_reducible rfl)
        simp only [dstOf, List.getElem?_toArray, List.getElem?_cons_zero, List.getElem?_cons_succ, Option.bind, Act.put, List.setIfInBounds_toArray, List.set_cons_zero, List.set_cons_succ]
        refine till_take 11 40 false (v := ?v11) (by kernel_rfl) (by kernel_rfl) (by kernel_rfl) (by kernel_rfl) (by kernel_rfl) (fun _ _ _ h => h) ?hw11 S0 ?hy11 ?rest11
        case hw11 => (simp only [List.getElem?_toArray, List.getElem?_cons_zero, List.getElem?_cons_succ, Option.elim]; rfl)
        case hy11 => (simp only [List.getElem?_toArray, List.getElem?_cons_zero, List.getElem?_cons_succ, Option.elim]; intro wx _; go_simp; with_reducible rfl)
        simp only [dstOf, List.getElem?_toArray, List.getElem?_cons_zero, List.getElem?_cons_succ, Option.bind, Act.put, List.setIfInBounds_toArray, List.set_cons_zero, List.set_cons_succ]
        refine till_take 12 40 true (v := ?v12) (by kernel_rfl) (by kernel_rfl) (by kernel_rfl) (by kernel_rfl) (by kernel_rfl) (fun _ _ _ h => h) ?hw12 S0 ?hy12 ?rest12
        case hw12 => (simp only [List.getElem?_toArray, List.getElem?_cons_zero, List.getElem?_cons_succ, Option.elim]; rfl)
        case hy12 => (simp only [List.getElem?_toArray, List.getElem?_cons_zero, List.getElem?_cons_succ, Option.elim]; intro wx hx; have x0 := (hx trivial).1; have x1 := (hx trivial).2; go_simp; with_reducible rfl)
        simp only [dstOf, List.getElem?_toArray, List.getElem?_cons_zero, List.getElem?_cons_succ, Option.bind, Act.put, List.setIfInBounds_toArray, List.set_cons_zero, List.set_cons_succ]
        refine till_before 7 (by kernel_rfl) (fun K hK => ?_)
        simp only [List.getElem?_toArray, List.getElem?_cons_zero, List.getElem?_cons_succ, Option.elim]
        rw [if_pos (by rfl)]
        go_simp
        go_at_call 33
        refine (HT.out).mono ?_
        rintro e w2 ⟨rfl, m2⟩
        refine hK.out _ _ (SS.out _ ((below_drew wr).trans m2)) ?_
        clear hK K
        try simp only [Act.put, List.setIfInBounds_toArray, List.set_cons_zero, List.set_cons_succ]
        have M2 := Lib.hid (HB.out.trans (((below_drew wr).trans m2).mono HB.out.size))
        clear m2 S0
        refine till_step 13 (by kernel_rfl) (by kernel_rfl) (fun K hK => ?_)
        simp only [List.getElem?_toArray, List.getElem?_cons_zero, List.getElem?_cons_succ, Option.elim]
        rw [if_pos (by rfl)]
        go_simp
        refine hK.out _ _ ?_
        clear hK K
        try simp only [Act.put, List.setIfInBounds_toArray, List.set_cons_zero, List.set_cons_succ]
        refine till_end (by kernel_rfl) ?_ _
        by_cases he : lag (l.take k) q.1 = q.2
        · have HN := Lib.hid (fun (j : Nat) (r : Pt) (h1 : k ≤ j) (h2 : j < k + (m + 1)) (h3 : l[j]? = some r) => (by
            by_cases hj : j < k + m
            · exact HA.out j r h1 hj h3
            · obtain rfl : j = k + m := by omega
              have := HQ.out.symm.trans (HI.out ▸ h3)
              cases this
              exact he : lag (l.take k) r.1 = r.2))
          go_wp2
          go_roundw
          case rel => exact ⟨m + 1, by have := HI.out; omega, by have := HI.out; subst this; go_num, HN, M2.out⟩
          case measure => simp [intOf]; omega
        · have HR := Lib.hid (fitB_no HG.out (by omega) (show k ≤ i by have := HI.out; omega) HQ.out he)
          have M3 := Lib.hid (HB1.out.trans (M2.out.mono HB1.out.size))
          go_wp2
          go_ret2
          unfold onV
          rw [HR.out]
          exact ⟨rfl, M3.out⟩
      · have HR := Lib.hid (fitB_yes HG.out hkl fun j q h1 h2 => HA.out j q h1 (by have := (List.getElem?_eq_some_iff.1 h2).1; omega) h2)
        have hbw := HB1.out.trans (hb.mono HB1.out.size)
        have HT := Lib.hid (r_at (x := 0) ((HV.out.keep hbw).take hkl) (HU.out.keep hb) (HG.out.take k) HW.out (by decide) (by rw [List.length_take]; omega))
        have HBW := Lib.hid hbw
        clear hbw hb hcap
        obtain ⟨i, hi⟩ : ∃ i, i = k + m := ⟨_, rfl⟩
        rw [← hi] at hlt ⊢
        clear hi hm HA
        go_wp2_with (go_at_call 33; refine (HT.out).mono ?_; rintro e w2 ⟨rfl, m2⟩; refine Hid.out ?_)
        refine Lib.hid ?_
        have M2 := Lib.hid (HBW.out.trans (m2.mono HBW.out.size))
        clear m2
        go_wp2
        go_ret2
        unfold onV
        rw [HR.out]
        exact ⟨rfl, M2.out⟩
  · have hnk : l.length < k := by omega
    have HR := Lib.hid (fitB_few HG.out (show l.length ≤ k by omega))
    have HP := Lib.hid (r_poly hv hg hn)
    have HTK := Lib.hid (show l.take k = l from List.take_of_length_le (by omega))
    clear hg
    go_enter Try.func26, Try.ntmps26
    go_wp2_with (go_at_call 32; refine (HP.out).mono ?_; rintro e w1 ⟨u, d, rfl, hu, hnw, hb1⟩; refine Hid.out ?_)
    refine Lib.hid ?_
    have HU := Lib.hid hu
    have HW := Lib.hid hnw
    have HB1 := Lib.hid hb1
    clear hu hnw hb1 HP
    go_wp2
    go_loopw [8] (fun i wr => i = .int .i64 (k : Int) ∧ w1 = wr) (fun i _ => l.length - (intOf i).toNat)
    case atStart => exact ⟨rfl, rfl⟩
    case round =>
      obtain ⟨rfl, rfl⟩ := hrel
      have HT := Lib.hid (r_at (x := 0) (HV.out.keep HB1.out) HU.out HG.out HW.out (by decide) hn)
      go_wp2_with (go_at_call 33; refine (HT.out).mono ?_; rintro e w2 ⟨rfl, m2⟩; refine Hid.out ?_)
      refine Lib.hid ?_
      have M2 := Lib.hid (HB1.out.trans (m2.mono HB1.out.size))
      clear m2
      go_wp2
      go_ret2
      unfold onV
      rw [HR.out, HTK.out]
      exact ⟨rfl, M2.out⟩
end
end Go.Proofs.Ytemokedoeneibaa
