/- The reference of layer 11: Same, Like. -/
import Derived.Test.YtenbdnkipkfpkaaDoorLq2
import Derived.BigQuiet
namespace Go.Proofs.YtenbdnkipkfpkaaDoor
open Go.RowKit Go.Maps Go.ChangeMaps Go.MapKept
open Lx
attribute [local go_sem ↓] Go.wp_at_zero Go.wp_at_succ
theorem list_not {α : Type} [DecidableEq α] {x y : List α} {k : Nat} {p q : α} (hp : x[k]? = some p) (hq : y[k]? = some q) (h : p ≠ q) : decide (x = y) = false := by
  rw [decide_eq_false_iff_not]; rintro rfl; rw [hp] at hq; cases hq; exact h rfl
theorem list_len {α : Type} [DecidableEq α] {x y : List α} (h : x.length ≠ y.length) : decide (x = y) = false := by
  rw [decide_eq_false_iff_not]; rintro rfl; exact h rfl
theorem list_take {α : Type} {x y : List α} {k : Nat} {p : α} (h : x.take k = y.take k) (hp : x[k]? = some p) (hq : y[k]? = some p) : x.take (k + 1) = y.take (k + 1) := by
  rw [List.take_add_one, List.take_add_one, h, hp, hq]
section
variable {w : World}
set_option maxHeartbeats 2000000 in
set_option maxRecDepth 100000 in
theorem q_same {v u : Value} {x y : List Tk} (hv : TkAt w v x) (hu : TkAt w u y) (hx : x.length ≤ 100000) :
    Calls Tryd.prog 15 #[v, u] w fun e w' => e = .returned (.bool (decide (x = y))) ∧ Below w.heap.size w w' := by
  have HV := Lib.hid hv
  have HU := Lib.hid hu
  obtain ⟨a, cap, rfl, -⟩ := hv
  obtain ⟨b, cap', rfl, -⟩ := hu
  by_cases hxy : x.length = y.length
  · rw [← hxy] at HU ⊢
    have HXY := Lib.hid hxy
    clear hxy
    go_enter Tryd.func15, Tryd.ntmps15
    go_wp2
    go_loopw [5] (fun i wr => ∃ k : Nat, k ≤ x.length ∧ i = .int .i64 k ∧ Hid (x.take k = y.take k) ∧ Below w.heap.size w wr) (fun i _ => x.length - (intOf i).toNat)
    case atStart => exact ⟨0, Nat.zero_le _, rfl, Lib.hid (by simp), Below.refl _ _⟩
    case round =>
      obtain ⟨k, hk, rfl, HT, hb⟩ := hrel
      have HB := Lib.hid hb
      by_cases hlt : k < x.length
      · obtain ⟨p, hp⟩ : ∃ p, x[k]? = some p := ⟨_, List.getElem?_eq_getElem hlt⟩
        obtain ⟨q, hq⟩ : ∃ q, y[k]? = some q := ⟨_, List.getElem?_eq_getElem (by rw [← HXY.out]; exact hlt)⟩
        have hvx := HV.out.keep hb
        have huy := HU.out.keep hb
        rw [HXY.out] at huy
        obtain ⟨b1, off1, cap1, h1, _, hc⟩ := hvx.form (by omega)
        cases h1
        obtain ⟨b2, off2, cap2, h1, _, hd⟩ := huy.form (by rw [← HXY.out]; omega)
        rw [← HXY.out] at h1
        cases h1
        obtain ⟨c0, c1, c2, c3⟩ := hc k p hp
        obtain ⟨d0, d1, d2, d3⟩ := hd k q hq
        clear hc hd hvx huy hb
        by_cases he : p = q
        · subst he
          have HN := Lib.hid (list_take HT.out hp hq)
          clear hp hq
          go_wp2
          go_quiet (fail)
          go_wp2
          go_roundw
          case rel => exact ⟨k + 1, by omega, by go_num, HN, HB.out.trans ((drewN_below _ _).mono HB.out.size)⟩
          case measure => simp [intOf]; omega
        · have HR := Lib.hid (list_not hp hq he)
          clear hp hq
          by_cases e1 : p.kind = q.kind
          · rw [← e1] at d0
            by_cases e2 : p.text = q.text
            · rw [← e2] at d1
              by_cases e3 : p.n = q.n
              · rw [← e3] at d2
                have e4 : (p.pos == q.pos) = false := by
                  rw [beq_eq_false_iff_ne]; intro e4
                  exact he (by cases p; cases q; simp_all)
                clear e1 e2 e3 he
                go_wp2
                go_quiet (fail)
                go_wp2
                go_ret
                exact ⟨ret_bool HR.out.symm, HB.out.trans ((drewN_below _ _).mono HB.out.size)⟩
              · have e3' : (p.n == q.n) = false := beq_eq_false_iff_ne.2 e3
                clear e1 e2 e3 he
                go_wp2
                go_quiet (fail)
                go_wp2
                go_ret
                exact ⟨ret_bool HR.out.symm, HB.out.trans ((drewN_below _ _).mono HB.out.size)⟩
            · have e2' := str_ne e2
              clear e1 e2 he
              go_wp2
              go_quiet (fail)
              go_wp2
              go_ret
              exact ⟨ret_bool HR.out.symm, HB.out.trans ((drewN_below _ _).mono HB.out.size)⟩
          · have e1' : (p.kind == q.kind) = false := beq_eq_false_iff_ne.2 e1
            clear e1 he
            go_wp2
            go_quiet (fail)
            go_wp2
            go_ret
            exact ⟨ret_bool HR.out.symm, HB.out.trans ((drewN_below _ _).mono HB.out.size)⟩
      · obtain rfl : k = x.length := by omega
        have ht := HT.out
        rw [List.take_length, List.take_of_length_le (by rw [HXY.out]; exact Nat.le_refl _)] at ht
        have HR := Lib.hid (decide_eq_true ht)
        clear ht hb
        go_wp2
        go_ret
        exact ⟨ret_bool HR.out.symm, HB.out⟩
  · have hne : ¬ ((x.length : Int) = (y.length : Int)) := by omega
    have HR := Lib.hid (list_len hxy)
    clear hxy
    go_enter Tryd.func15, Tryd.ntmps15
    go_wp2
    go_ret
    exact ⟨ret_bool HR.out.symm, Below.refl _ _⟩
end
end Go.Proofs.YtenbdnkipkfpkaaDoor
