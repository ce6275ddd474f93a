/- The reference: Inverse, Wrong, Same. -/
import Derived.Test.YtemokedoeneibaaSSplit
namespace Go.Proofs.Ytemokedoeneibaa
open Go.RowKit Go.Maps Go.ChangeMaps Go.MapKept
open Sp
attribute [local go_sem ↓] Go.wp_at_zero Go.wp_at_succ

theorem euc_done {f : Nat} {a b x y : Int} (h : b ≤ 0) : euc f a b x y = (a, x) := by
  cases f with
  | zero => rfl
  | succ f => unfold euc; rw [if_pos h]
theorem euc_go {f : Nat} {a b x y : Int} (h : ¬ b ≤ 0) : euc (f + 1) a b x y = euc f b (a - a / b * b) y ((x - a / b * y) % P) := by
  conv => lhs; unfold euc
  rw [if_neg h]
section
variable {w : World}
set_option maxHeartbeats 1000000 in
set_option maxRecDepth 100000 in
theorem r_inverse {n : Int} (hn : 0 < n ∧ n < P) :
    Calls Try.prog 34 #[.int .i64 n] w fun e w' => ∃ b, e = .returned (.int .i64 b) ∧ 0 ≤ b ∧ b < P ∧ P ∣ b * n - 1 ∧ w = w' := by
  obtain ⟨h1, h2, h3⟩ := euc_inv hn.1 hn.2 (f := n.toNat + 1) (by omega)
  have HI := Lib.hid (⟨h2, h3, h1⟩ : 0 ≤ (euc (n.toNat + 1) P n 0 1).2 ∧ (euc (n.toNat + 1) P n 0 1).2 < P ∧ P ∣ (euc (n.toNat + 1) P n 0 1).2 * n - 1)
  clear h1 h2 h3
  have HS : Hid (euc (n.toNat + 1) P n 0 1 = euc (n.toNat + 1) P n 0 1) := Lib.hid rfl
  generalize hR : euc (n.toNat + 1) P n 0 1 = R at HI
  rw [hR] at HS
  have HS2 := Lib.hid hR
  clear hR HS
  have hP := P_eq
  go_enter Try.func34, Try.ntmps34
  go_wp2
  go_loopw [3, 4, 5, 6, 7, 8, 9] (fun va vb vx vy _ _ _ wr => ∃ (a b x y : Int) (f : Nat), va = .int .i64 a ∧ vb = .int .i64 b ∧ vx = .int .i64 x ∧ vy = .int .i64 y ∧ (0 ≤ a ∧ a ≤ P) ∧ (0 ≤ b ∧ b < P) ∧ (0 ≤ x ∧ x < P) ∧ (0 ≤ y ∧ y < P) ∧ b < (f : Int) ∧ Hid (euc f a b x y = R) ∧ w = wr) (fun _ vb _ _ _ _ _ _ => (intOf vb).toNat)
  case atStart => exact ⟨P, n, 0, 1, n.toNat + 1, rfl, rfl, rfl, rfl, by omega, by omega, by omega, by omega, by omega, HS2, rfl⟩
  case round =>
    obtain ⟨a, b, x, y, f, rfl, rfl, rfl, rfl, ha, hb, hx, hy, hf, H, rfl⟩ := hrel
    by_cases h0 : 0 < b
    · obtain ⟨f, rfl⟩ : ∃ g, f = g + 1 := ⟨f - 1, by omega⟩
      have HN := Lib.hid ((euc_go (by omega)).symm.trans H.out)
      have hb0 : b ≠ 0 := by omega
      have q0 : 0 ≤ a / b := Int.ediv_nonneg ha.1 hb.1
      have q1 : a / b * b ≤ a := Int.ediv_mul_le a hb0
      have q2 : a < a / b * b + b := by have := Int.lt_ediv_add_one_mul_self a h0; rwa [Int.add_mul, Int.one_mul] at this
      have q3 : a / b ≤ a := by
        have := Int.mul_le_mul_of_nonneg_left (show 1 ≤ b by omega) q0
        omega
      have q4 : 0 ≤ a / b * y := Int.mul_nonneg q0 hy.1
      have q5 : a / b * y ≤ 2147483647 * 2147483647 := Int.mul_le_mul (by omega) (by omega) hy.1 (by decide)
      have q6 := mod_in (a / b * y)
      have q7 : 0 ≤ a / b * b := Int.mul_nonneg q0 hb.1
      have q8 := mod_in (x - a / b * y)
      have HX := Lib.hid (g_mod (w := w) (x - a / b * y % 2147483647))
      have HZ := Lib.hid (⟨q8, HN.out⟩ : (0 ≤ (x - a / b * y) % 2147483647 ∧ (x - a / b * y) % 2147483647 < P) ∧ euc f b (a - a / b * b) y ((x - a / b * y) % 2147483647) = R)
      clear H HN q8
      go_wp2_with (go_at_call 16; refine (HX.out).mono ?_; rintro e w1 ⟨rfl, rfl⟩; refine Hid.out ?_)
      refine Lib.hid ?_
      go_wp2
      go_roundw
      case rel => exact ⟨b, _, y, _, f, rfl, rfl, rfl, rfl, by omega, by omega, hy, HZ.out.1, by omega, Lib.hid HZ.out.2, by trivial⟩
      case measure => simp only [intOf]; omega
    · have HN := Lib.hid (euc_done (f := f) (a := a) (x := x) (y := y) (show b ≤ 0 by omega))
      have HE := Lib.hid (show R.2 = x by rw [← H.out, HN.out])
      go_wp2
      go_ret
      have := HI.out
      rw [HE.out] at this
      exact ⟨x, rfl, this.1, this.2.1, this.2.2, rfl⟩
set_option maxHeartbeats 1000000 in
set_option maxRecDepth 100000 in
theorem r_wrong {v : Value} {l : List Pt} {k : Int} (hv : SharesAt w v l) (hn : l.length ≤ 100000) :
    Calls Try.prog 25 #[v, .int .i64 k] w fun e w' => e = .returned (.int .i64 (wrong l k)) ∧ Below w.heap.size w w' := by
  have HV := Lib.hid hv
  obtain ⟨a, cap, rfl, _⟩ := hv
  by_cases hk0 : k < 1
  · have HR := Lib.hid (wrong_k (l := l) (k := k) (decide_eq_false (by omega)))
    go_enter Try.func25, Try.ntmps25
    go_wp2
    go_ret
    exact ⟨ret_int HR.out.symm, Below.refl _ _⟩
  by_cases hk1 : 20 < k
  · have HR := Lib.hid (wrong_k (l := l) (k := k) (decide_eq_false (by omega)))
    go_enter Try.func25, Try.ntmps25
    go_wp2
    go_ret
    exact ⟨ret_int HR.out.symm, Below.refl _ _⟩
  have HK := Lib.hid (show isN k = true from decide_eq_true ⟨by omega, by omega⟩)
  go_enter Try.func25, Try.ntmps25
  go_wp2
  go_loopw [5] (fun i wr => ∃ (m : Nat), m ≤ l.length ∧ i = .int .i64 (m : Int) ∧ Hid ((l.take m).all okPt = true) ∧ w = wr) (fun i _ => l.length - (intOf i).toNat)
  case atStart => exact ⟨0, Nat.zero_le _, rfl, Lib.hid rfl, rfl⟩
  case round =>
    obtain ⟨m, hm, rfl, HA, rfl⟩ := hrel
    by_cases hlt : m < l.length
    · obtain ⟨q, hq⟩ : ∃ q, l[m]? = some q := ⟨_, List.getElem?_eq_getElem hlt⟩
      obtain ⟨b, off, cap', h1, _, hc⟩ := HV.out.form (by omega)
      cases h1
      obtain ⟨c0, c1⟩ := hc m q hq
      have HQ := Lib.hid hq
      clear hc
      by_cases h1 : q.1 < 1
      · have HW := Lib.hid (wrong_pt HK.out (List.mem_of_getElem? hq) (fun h => by have := of_decide_eq_true h; omega))
        clear hq
        go_wp2
        go_ret
        exact ⟨ret_int HW.out.symm, Below.refl _ _⟩
      by_cases h2 : 20 < q.1
      · have HW := Lib.hid (wrong_pt HK.out (List.mem_of_getElem? hq) (fun h => by have := of_decide_eq_true h; omega))
        clear hq
        go_wp2
        go_ret
        exact ⟨ret_int HW.out.symm, Below.refl _ _⟩
      by_cases h3 : q.2 < 0
      · have HW := Lib.hid (wrong_pt HK.out (List.mem_of_getElem? hq) (fun h => by have := of_decide_eq_true h; omega))
        clear hq
        go_wp2
        go_ret
        exact ⟨ret_int HW.out.symm, Below.refl _ _⟩
      by_cases h4 : 2147483647 ≤ q.2
      · have HW := Lib.hid (wrong_pt HK.out (List.mem_of_getElem? hq) (fun h => by have := of_decide_eq_true h; have := P_eq; omega))
        clear hq
        go_wp2
        go_ret
        exact ⟨ret_int HW.out.symm, Below.refl _ _⟩
      have HW := Lib.hid (take_all HA.out hq (decide_eq_true ⟨by omega, by omega, by omega, by have := P_eq; omega⟩))
      clear hq
      go_wp2
      go_roundw
      case rel => exact ⟨m + 1, by omega, by go_num, HW, by trivial⟩
      case measure => simp [intOf]; omega
    · obtain rfl : m = l.length := by omega
      have ha := HA.out
      rw [List.take_length] at ha
      have HA := Lib.hid ha
      clear ha
      go_wp2
      go_loopw [6] (fun i wr => ∃ (m : Nat), m ≤ l.length ∧ m ≤ 21 ∧ i = .int .i64 (m : Int) ∧ Hid (((l.take m).map (·.1)).Nodup) ∧ Below w.heap.size w wr) (fun i _ => l.length - (intOf i).toNat)
      case atStart => exact ⟨0, Nat.zero_le _, Nat.zero_le _, rfl, Lib.hid List.nodup_nil, Below.refl _ _⟩
      case round =>
        obtain ⟨m, hm, hm2, rfl, HN, hb⟩ := hrel
        have HB := Lib.hid hb
        by_cases hlt : m < l.length
        · by_cases h20 : m ≤ 20
          · obtain ⟨q, hq⟩ : ∃ q, l[m]? = some q := ⟨_, List.getElem?_eq_getElem hlt⟩
            have HQ := Lib.hid hq
            clear hq hb
            go_wp2
            go_loopw [7] (fun j wr => ∃ (j' : Nat), j' ≤ m ∧ j = .int .i64 (j' : Int) ∧ Hid (∀ r ∈ (l.take j').map (·.1), r ≠ q.1) ∧ Below w.heap.size w wr) (fun j _ => m - (intOf j).toNat)
            case atStart => exact ⟨0, Nat.zero_le _, rfl, Lib.hid (fun r hr => by simp at hr), HB.out⟩
            case round =>
              obtain ⟨j, hj, rfl, HJ, hb⟩ := hrel
              have HB2 := Lib.hid hb
              by_cases hjm : j < m
              · obtain ⟨r, hr⟩ : ∃ r, l[j]? = some r := ⟨_, List.getElem?_eq_getElem (by omega)⟩
                obtain ⟨b, off, cap', h1, _, hc⟩ := (HV.out.keep hb).form (by omega)
                cases h1
                obtain ⟨c0, -⟩ := hc m q HQ.out
                obtain ⟨c1, -⟩ := hc j r hr
                by_cases he : q.1 = r.1
                · have HW := Lib.hid (wrong_two HK.out HA.out HQ.out (List.mem_map.2 ⟨r, List.mem_of_getElem? (show (l.take m)[j]? = some r by rw [List.getElem?_take_of_lt hjm]; exact hr), he.symm⟩))
                  rw [he] at c0
                  clear he hc hb hr
                  go_wp2
                  go_quiet (fail)
                  go_wp2
                  go_ret
                  exact ⟨ret_int HW.out.symm, HB2.out.trans ((drewN_below _ _).mono HB2.out.size)⟩
                · have HJ2 := Lib.hid (fun x (hx : x ∈ (l.take (j + 1)).map (·.1)) => (by
                    rw [places_snoc hr] at hx
                    rcases List.mem_append.1 hx with z | z
                    · exact HJ.out x z
                    · simp at z; subst z; exact Ne.symm he : x ≠ q.1))
                  clear hc hb hr
                  go_wp2
                  go_quiet (fail)
                  go_wp2
                  go_roundw
                  case rel => exact ⟨j + 1, by omega, by go_num, HJ2, HB2.out.trans ((drewN_below _ _).mono HB2.out.size)⟩
                  case measure => simp [intOf]; omega
              · obtain rfl : j = m := by omega
                have HN2 := Lib.hid (nodup_add HN.out HQ.out fun hm => HJ.out _ hm rfl)
                clear hb
                go_wp2
                go_roundw
                case rel => exact ⟨j + 1, by omega, by omega, by go_num, HN2, HB2.out⟩
                case measure => simp [intOf]; omega
          · exfalso
            have h21 : m = 21 := by omega
            have := places_few HN.out fun x hx => by
              obtain ⟨q, hq, rfl⟩ := List.mem_map.1 hx
              have := of_decide_eq_true (List.all_eq_true.1 HA.out q (List.mem_of_mem_take hq))
              omega
            rw [List.length_map, List.length_take] at this
            omega
        · obtain rfl : m = l.length := by omega
          have hnd := HN.out
          rw [List.take_length] at hnd
          have HW := Lib.hid (wrong_none HK.out HA.out hnd)
          clear hnd hb
          go_wp2
          go_ret
          exact ⟨ret_int HW.out.symm, HB.out⟩
theorem pt_ne {a b : Pt} (h : a ≠ b) (h1 : a.1 = b.1) : a.2 ≠ b.2 := fun e => h (Prod.ext h1 e)
theorem pts_not {x y : List Pt} {k : Nat} {p q : Pt} (hp : x[k]? = some p) (hq : y[k]? = some q) (h : p ≠ q) : decide (x = y) = false := by
  rw [decide_eq_false_iff_not]; rintro rfl; rw [hp] at hq; cases hq; exact h rfl
theorem pts_len {x y : List Pt} (h : x.length ≠ y.length) : decide (x = y) = false := by
  rw [decide_eq_false_iff_not]; rintro rfl; exact h rfl
theorem pts_take {x y : List Pt} {k : Nat} {p : Pt} (h : x.take k = y.take k) (hp : x[k]? = some p) (hq : y[k]? = some p) : x.take (k + 1) = y.take (k + 1) := by
  rw [List.take_add_one, List.take_add_one, h, hp, hq]
set_option maxHeartbeats 1000000 in
set_option maxRecDepth 100000 in
theorem r_same {v u : Value} {x y : List Pt} (hv : SharesAt w v x) (hu : SharesAt w u y) (hx : x.length ≤ 100000) :
    Calls Try.prog 12 #[v, u] w fun e w' => e = .returned (.bool (decide (x = y))) ∧ Below w.heap.size w w' := by
  have HV := Lib.hid hv
  have HU := Lib.hid hu
  obtain ⟨a, cap, rfl, -⟩ := hv
  obtain ⟨b, cap', rfl, -⟩ := hu
  by_cases hxy : x.length = y.length
  · rw [← hxy] at HU ⊢
    have HXY := Lib.hid hxy
    clear hxy
    go_enter Try.func12, Try.ntmps12
    go_wp2
    go_loopw [5] (fun i wr => ∃ k : Nat, k ≤ x.length ∧ i = .int .i64 k ∧ Hid (x.take k = y.take k) ∧ Below w.heap.size w wr) (fun i _ => x.length - (intOf i).toNat)
    case atStart => exact ⟨0, Nat.zero_le _, rfl, Lib.hid (by simp), Below.refl _ _⟩
    case round =>
      obtain ⟨k, hk, rfl, HT, hb⟩ := hrel
      have HB := Lib.hid hb
      by_cases hlt : k < x.length
      · obtain ⟨p, hp⟩ : ∃ p, x[k]? = some p := ⟨_, List.getElem?_eq_getElem hlt⟩
        obtain ⟨q, hq⟩ : ∃ q, y[k]? = some q := ⟨_, List.getElem?_eq_getElem (by rw [← HXY.out]; exact hlt)⟩
        have hvx := HV.out.keep hb
        have huy := HU.out.keep hb
        rw [HXY.out] at huy
        obtain ⟨b1, off1, cap1, h1, _, hc⟩ := hvx.form (by omega)
        cases h1
        obtain ⟨b2, off2, cap2, h1, _, hd⟩ := huy.form (by rw [← HXY.out]; omega)
        rw [← HXY.out] at h1
        cases h1
        obtain ⟨c0, c1⟩ := hc k p hp
        obtain ⟨d0, d1⟩ := hd k q hq
        clear hc hd hvx huy hb
        by_cases he : p = q
        · subst he
          have HN := Lib.hid (pts_take HT.out hp hq)
          clear hp hq
          go_wp2
          go_quiet (fail)
          go_wp2
          go_roundw
          case rel => exact ⟨k + 1, by omega, by go_num, HN, HB.out.trans ((drewN_below _ _).mono HB.out.size)⟩
          case measure => simp [intOf]; omega
        · have HR := Lib.hid (pts_not hp hq he)
          have hne := pt_ne he
          clear hp hq
          by_cases h1 : p.1 = q.1
          · have h2 := hne h1
            rw [h1] at c0
            clear h1 hne he
            go_wp2
            go_quiet (fail)
            go_wp2
            go_ret
            exact ⟨ret_bool HR.out.symm, HB.out.trans ((drewN_below _ _).mono HB.out.size)⟩
          · clear hne he
            go_wp2
            go_quiet (fail)
            go_wp2
            go_ret
            exact ⟨ret_bool HR.out.symm, HB.out.trans ((drewN_below _ _).mono HB.out.size)⟩
      · obtain rfl : k = x.length := by omega
        have ht := HT.out
        rw [List.take_length, List.take_of_length_le (by rw [HXY.out]; exact Nat.le_refl _)] at ht
        have HR := Lib.hid (decide_eq_true ht)
        clear ht hb
        go_wp2
        go_ret
        exact ⟨ret_bool HR.out.symm, HB.out⟩
  · have hne : ¬ ((x.length : Int) = (y.length : Int)) := by omega
    have HR := Lib.hid (pts_len hxy)
    go_enter Try.func12, Try.ntmps12
    go_wp2
    go_ret
    exact ⟨ret_bool HR.out.symm, Below.refl _ _⟩
end
end Go.Proofs.Ytemokedoeneibaa
