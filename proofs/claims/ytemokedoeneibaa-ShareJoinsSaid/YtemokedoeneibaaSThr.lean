/- The program's interpolation. -/
import Derived.Test.YtemokedoeneibaaSHeap
namespace Go.Proofs.Ytemokedoeneibaa
open Go.RowKit Go.Maps Go.ChangeMaps Go.MapKept
open Sp
attribute [local go_sem ↓] Go.wp_at_zero Go.wp_at_succ

section
variable {w : World}
set_option maxHeartbeats 1000000 in
set_option maxRecDepth 100000 in
theorem g_through {v : Value} {l : List Pt} {x : Int} (hv : SharesAt w v l) (hr : ∀ q ∈ l, (0 ≤ q.1 ∧ q.1 ≤ 20) ∧ 0 ≤ q.2 ∧ q.2 < P) (hd : (l.map (·.1)).Nodup) (hx : 0 ≤ x ∧ x ≤ 20) (hn : l.length ≤ 100) :
    Calls Try.prog 24 #[v, .int .i64 x] w fun e w' => e = .returned (.int .i64 (lag l x)) ∧ Below w.heap.size w w' := by
  have HV := Lib.hid hv
  have HR := Lib.hid hr
  have HD := Lib.hid hd
  obtain ⟨a, cap, rfl, _⟩ := hv
  clear hr hd
  go_enter Try.func24, Try.ntmps24
  go_wp2
  go_loopw [5, 14] (fun vv i wr => ∃ (k : Nat) (u : Int), k ≤ l.length ∧ i = .int .i64 (k : Int) ∧ vv = .int .i64 u ∧ (0 ≤ u ∧ u < P) ∧ Hid (Sum l x k u) ∧ Below w.heap.size w wr) (fun _ i _ => l.length - (intOf i).toNat)
  case atStart => exact ⟨0, 0, Nat.zero_le _, rfl, rfl, by decide, Lib.hid (sum_zero l x), Below.refl _ _⟩
  case round =>
    obtain ⟨k, u, hk, rfl, rfl, hu, HS, hb⟩ := hrel
    have HB := Lib.hid hb
    have HW := Lib.hid (HV.out.keep hb)
    clear hb
    by_cases hlt : k < l.length
    · obtain ⟨p, hp⟩ : ∃ p, l[k]? = some p := ⟨_, List.getElem?_eq_getElem hlt⟩
      obtain ⟨b, off, cap', h1, _, hc⟩ := HW.out.form (by omega)
      cases h1
      obtain ⟨c0, c1⟩ := hc k p hp
      have HC := Lib.hid hc
      have HP := Lib.hid hp
      have hpp := HR.out p (List.mem_of_getElem? hp)
      clear hc hp
      go_wp2
      have b1 : Below w.heap.size w (wr.alloc (.cells #[.int .i64 p.1, .int .i64 p.2] 39)) := HB.out.trans (((Below.refl _ _).alloc (Nat.le_refl _) _).mono HB.out.size)
      have s0 : (wr.alloc (.cells #[.int .i64 p.1, .int .i64 p.2] 39)).cell? ⟨wr.heap.size, 0, none⟩ = some (.int .i64 p.1) := by rw [Lib.cell_of_heap (MapKept.heap_alloc _ _).1]; rfl
      have HW1 := Lib.hid (HV.out.keep b1)
      clear HC HW HB c0 c1
      generalize wr.alloc (.cells #[.int .i64 p.1, .int .i64 p.2] 39) = w1 at *
      generalize wr.heap.size = B at *
      have S0 := Lib.hid s0
      have B1 := Lib.hid b1
      clear s0 b1
      go_loopw [8, 9, 23] (fun aa bb j wr => ∃ (m : Nat) (A C : Int), m ≤ l.length ∧ j = .int .i64 (m : Int) ∧ aa = .int .i64 A ∧ bb = .int .i64 C ∧ (0 ≤ A ∧ A < P) ∧ (0 ≤ C ∧ C < P) ∧ Hid (P ∣ A - p.2 * ev (zeros (oth l p.1 m)) x) ∧ Hid (P ∣ C - ev (zeros (oth l p.1 m)) p.1) ∧ Below w1.heap.size w1 wr) (fun _ _ j _ => l.length - (intOf j).toNat)
      case atStart => exact ⟨0, p.2, 1, Nat.zero_le _, rfl, rfl, rfl, hpp.2, by decide, Lib.hid ⟨0, by simp [oth_zero, zeros, ev]⟩, Lib.hid ⟨0, by simp [oth_zero, zeros, ev]⟩, Below.refl _ _⟩
      case round =>
        obtain ⟨m, A, C, hm, rfl, rfl, rfl, hA, hC, HA, HC, hb⟩ := hrel
        have HB := Lib.hid hb
        have s1 := below_cell S0.out hb
        by_cases hml : m < l.length
        · obtain ⟨q, hq⟩ : ∃ q, l[m]? = some q := ⟨_, List.getElem?_eq_getElem hml⟩
          obtain ⟨b', off', cap', h1, _, hc⟩ := (HW1.out.keep hb).form (by omega)
          cases h1
          obtain ⟨c0, c1⟩ := hc m q hq
          have hqq := HR.out q (List.mem_of_getElem? hq)
          have HQ := Lib.hid hq
          clear hc hq hb
          by_cases hmk : m = k
          · have hqp : q.1 = p.1 := by subst hmk; have := HQ.out.symm.trans HP.out; cases this; rfl
            have HO := Lib.hid (oth_skip HQ.out hqp)
            clear hqp
            subst hmk
            go_wp2
            go_roundw
            case rel => exact ⟨m + 1, A, C, by omega, by go_num, rfl, rfl, hA, hC, by rw [HO.out]; exact HA, by rw [HO.out]; exact HC, HB.out.alloc HB.out.size _⟩
            case measure => simp [intOf]; omega
          · have HO := Lib.hid (oth_snoc HQ.out (place_ne HD.out HP.out HQ.out hmk))
            have hik : ¬ (m : Int) = (k : Int) := by omega
            clear hmk
            have s2 := below_cell s1 ((Below.refl wr.heap.size wr).alloc (Nat.le_refl _) (.cells #[.int .i64 q.1, .int .i64 q.2] 39))
            have HA1 := Lib.hid (fac_step (c := q.1) HA.out)
            have HC1 := Lib.hid (fac_one (c := q.1) HC.out)
            go_wp2_with (go_at_call 30; refine (g_minus (by omega) (by omega)).mono ?_; rintro e w2 ⟨rfl, rfl⟩; refine Hid.out ?_)
            refine Lib.hid ?_
            go_wp2_with (go_at_call 29; refine (g_times hA (mod_in _)).mono ?_; rintro e w2 ⟨rfl, rfl⟩; refine Hid.out ?_)
            refine Lib.hid ?_
            go_wp2_with (go_at_call 30; refine (g_minus (by omega) (by omega)).mono ?_; rintro e w2 ⟨rfl, rfl⟩; refine Hid.out ?_)
            refine Lib.hid ?_
            go_wp2_with (go_at_call 29; refine (g_times hC (mod_in _)).mono ?_; rintro e w2 ⟨rfl, rfl⟩; refine Hid.out ?_)
            refine Lib.hid ?_
            go_wp2
            go_roundw
            case rel => exact ⟨m + 1, _, _, by omega, by go_num, rfl, rfl, mod_in _, mod_in _, by rw [HO.out]; exact HA1, by rw [HO.out]; exact HC1, HB.out.alloc HB.out.size _⟩
            case measure => simp [intOf]; omega
        · obtain rfl : m = l.length := by omega
          have hnd := not_dvd_of HC.out (oth_off (m := l.length) (fun q hq => (HR.out q hq).1) hpp.1)
          go_wp2_with (go_at_call 31; refine (g_inverse hC hnd).mono ?_; rintro e w2 ⟨z, rfl, hz0, hz1, hz2, rfl⟩; refine Hid.out ?_)
          refine Lib.hid ?_
          have HN := Lib.hid (sum_step HD.out HP.out HS.out HA.out HC.out hz2)
          clear hz2 hnd
          go_wp2_with (go_at_call 29; refine (g_times hA ⟨hz0, hz1⟩).mono ?_; rintro e w2 ⟨rfl, rfl⟩; refine Hid.out ?_)
          refine Lib.hid ?_
          go_wp2_with (go_at_call 28; refine (g_plus (by have := P_eq; omega) (by have := P_eq; have := mod_in (A * z); omega)).mono ?_; rintro e w2 ⟨rfl, rfl⟩; refine Hid.out ?_)
          refine Lib.hid ?_
          go_wp2
          go_roundw
          case rel => exact ⟨k + 1, _, by omega, by go_num, rfl, mod_in _, HN, B1.out.trans (HB.out.mono B1.out.size)⟩
          case measure => simp [intOf]; omega
    · obtain rfl : k = l.length := by omega
      have HE := Lib.hid (sum_end (diff_of HD.out fun y hy => by obtain ⟨q, hq, rfl⟩ := List.mem_map.1 hy; exact (HR.out q hq).1) HS.out hu)
      go_wp2
      go_ret
      exact ⟨ret_int HE.out, HB.out⟩
end
end Go.Proofs.Ytemokedoeneibaa
