/- The reference of layer 10: Ints, Same, Has, Few. -/
import Derived.Test.YtbjligjmckilcaaDoorWq
import Derived.BigQuiet
namespace Go.Proofs.YtbjligjmckilcaaDoor
open Go.RowKit Go.Maps Go.ChangeMaps Go.MapKept
open Wd
attribute [local go_sem ↓] Go.wp_at_zero Go.wp_at_succ
theorem list_not {α : Type} [DecidableEq α] {x y : List α} {k : Nat} {p q : α} (hp : x[k]? = some p) (hq : y[k]? = some q) (h : p ≠ q) : decide (x = y) = false := by
  rw [decide_eq_false_iff_not]; rintro rfl; rw [hp] at hq; cases hq; exact h rfl
theorem list_len {α : Type} [DecidableEq α] {x y : List α} (h : x.length ≠ y.length) : decide (x = y) = false := by
  rw [decide_eq_false_iff_not]; rintro rfl; exact h rfl
theorem list_take {α : Type} {x y : List α} {k : Nat} {p : α} (h : x.take k = y.take k) (hp : x[k]? = some p) (hq : y[k]? = some p) : x.take (k + 1) = y.take (k + 1) := by
  rw [List.take_add_one, List.take_add_one, h, hp, hq]
theorem str_ne {a b : S} (h : a ≠ b) : ((bs a).toList == (bs b).toList) = false := by
  rw [bs_toList, bs_toList]; exact beq_eq_false_iff_ne.2 h
def few (l : List S) (n : Int) : Bool := decide ((l.length : Int) ≤ n ∧ ∀ x ∈ l, x.length ≤ 300)
section
variable {w : World}
set_option maxHeartbeats 1000000 in
set_option maxRecDepth 100000 in
theorem q_ints {v u : Value} {x y : List Int} (hv : NumsAt w v x) (hu : NumsAt w u y) (hx : x.length ≤ 100000) :
    Calls Tryd.prog 16 #[v, u] w fun e w' => e = .returned (.bool (decide (x = y))) ∧ Below w.heap.size w w' := by
  have HV := Lib.hid hv
  have HU := Lib.hid hu
  obtain ⟨a, cap, rfl, -⟩ := hv
  obtain ⟨b, cap', rfl, -⟩ := hu
  by_cases hxy : x.length = y.length
  · rw [← hxy] at HU ⊢
    have HXY := Lib.hid hxy
    clear hxy
    go_enter Tryd.func16, Tryd.ntmps16
    go_wp2
    go_loopw [5] (fun i wr => ∃ k : Nat, k ≤ x.length ∧ i = .int .i64 k ∧ Hid (x.take k = y.take k) ∧ Below w.heap.size w wr) (fun i _ => x.length - (intOf i).toNat)
    case atStart => exact ⟨0, Nat.zero_le _, rfl, Lib.hid (by simp), Below.refl _ _⟩
    case round =>
      obtain ⟨k, hk, rfl, HT, hb⟩ := hrel
      have HB := Lib.hid hb
      by_cases hlt : k < x.length
      · obtain ⟨p, hp⟩ : ∃ p, x[k]? = some p := ⟨_, List.getElem?_eq_getElem hlt⟩
        obtain ⟨q, hq⟩ : ∃ q, y[k]? = some q := ⟨_, List.getElem?_eq_getElem (by rw [← HXY.out]; exact hlt)⟩
        have hvx := HV.out.keep hb
        have huy := HU.out.keep hb
        rw [HXY.out] at huy
        obtain ⟨b1, off1, cap1, h1, _, hc⟩ := hvx.form (by omega)
        cases h1
        obtain ⟨b2, off2, cap2, h1, _, hd⟩ := huy.form (by rw [← HXY.out]; omega)
        rw [← HXY.out] at h1
        cases h1
        have c0 := hc k p hp
        have d0 := hd k q hq
        clear hc hd hvx huy hb
        by_cases he : p = q
        · subst he
          have HN := Lib.hid (list_take HT.out hp hq)
          clear hp hq
          go_wp2
          go_quiet (fail)
          go_wp2
          go_roundw
          case rel => exact ⟨k + 1, by omega, by go_num, HN, HB.out.trans ((drewN_below _ _).mono HB.out.size)⟩
          case measure => simp [intOf]; omega
        · have HR := Lib.hid (list_not hp hq he)
          clear hp hq
          go_wp2
          go_quiet (fail)
          go_wp2
          go_ret
          exact ⟨ret_bool HR.out.symm, HB.out.trans ((drewN_below _ _).mono HB.out.size)⟩
      · obtain rfl : k = x.length := by omega
        have ht := HT.out
        rw [List.take_length, List.take_of_length_le (by rw [HXY.out]; exact Nat.le_refl _)] at ht
        have HR := Lib.hid (decide_eq_true ht)
        clear ht hb
        go_wp2
        go_ret
        exact ⟨ret_bool HR.out.symm, HB.out⟩
  · have hne : ¬ ((x.length : Int) = (y.length : Int)) := by omega
    have HR := Lib.hid (list_len hxy)
    go_enter Tryd.func16, Tryd.ntmps16
    go_wp2
    go_ret
    exact ⟨ret_bool HR.out.symm, Below.refl _ _⟩

set_option maxHeartbeats 1000000 in
set_option maxRecDepth 100000 in
theorem q_same {v u : Value} {x y : List S} (hv : TxAt w v x) (hu : TxAt w u y) (hx : x.length ≤ 100000) :
    Calls Tryd.prog 9 #[v, u] w fun e w' => e = .returned (.bool (decide (x = y))) ∧ Below w.heap.size w w' := by
  have HV := Lib.hid hv
  have HU := Lib.hid hu
  obtain ⟨a, cap, rfl, -⟩ := hv
  obtain ⟨b, cap', rfl, -⟩ := hu
  by_cases hxy : x.length = y.length
  · rw [← hxy] at HU ⊢
    have HXY := Lib.hid hxy
    clear hxy
    go_enter Tryd.func9, Tryd.ntmps9
    go_wp2
    go_loopw [5] (fun i wr => ∃ k : Nat, k ≤ x.length ∧ i = .int .i64 k ∧ Hid (x.take k = y.take k) ∧ Below w.heap.size w wr) (fun i _ => x.length - (intOf i).toNat)
    case atStart => exact ⟨0, Nat.zero_le _, rfl, Lib.hid (by simp), Below.refl _ _⟩
    case round =>
      obtain ⟨k, hk, rfl, HT, hb⟩ := hrel
      have HB := Lib.hid hb
      by_cases hlt : k < x.length
      · obtain ⟨p, hp⟩ : ∃ p, x[k]? = some p := ⟨_, List.getElem?_eq_getElem hlt⟩
        obtain ⟨q, hq⟩ : ∃ q, y[k]? = some q := ⟨_, List.getElem?_eq_getElem (by rw [← HXY.out]; exact hlt)⟩
        have hvx := HV.out.keep hb
        have huy := HU.out.keep hb
        rw [HXY.out] at huy
        obtain ⟨b1, off1, cap1, h1, _, hc⟩ := hvx.form (by omega)
        cases h1
        obtain ⟨b2, off2, cap2, h1, _, hd⟩ := huy.form (by rw [← HXY.out]; omega)
        rw [← HXY.out] at h1
        cases h1
        have c0 := hc k p hp
        have d0 := hd k q hq
        clear hc hd hvx huy hb
        by_cases he : p = q
        · subst he
          have HN := Lib.hid (list_take HT.out hp hq)
          clear hp hq
          go_wp2
          go_quiet (fail)
          go_wp2
          go_roundw
          case rel => exact ⟨k + 1, by omega, by go_num, HN, HB.out.trans ((drewN_below _ _).mono HB.out.size)⟩
          case measure => simp [intOf]; omega
        · have HR := Lib.hid (list_not hp hq he)
          have hne := str_ne he
          clear hp hq
          go_wp2
          go_quiet (fail)
          go_wp2
          go_ret
          exact ⟨ret_bool HR.out.symm, HB.out.trans ((drewN_below _ _).mono HB.out.size)⟩
      · obtain rfl : k = x.length := by omega
        have ht := HT.out
        rw [List.take_length, List.take_of_length_le (by rw [HXY.out]; exact Nat.le_refl _)] at ht
        have HR := Lib.hid (decide_eq_true ht)
        clear ht hb
        go_wp2
        go_ret
        exact ⟨ret_bool HR.out.symm, HB.out⟩
  · have hne : ¬ ((x.length : Int) = (y.length : Int)) := by omega
    have HR := Lib.hid (list_len hxy)
    go_enter Tryd.func9, Tryd.ntmps9
    go_wp2
    go_ret
    exact ⟨ret_bool HR.out.symm, Below.refl _ _⟩

set_option maxHeartbeats 1000000 in
set_option maxRecDepth 100000 in
theorem q_has {v : Value} {l : List S} {x : S} (hv : TxAt w v l) (hl : l.length ≤ 100000) :
    Calls Tryd.prog 30 #[v, .string (bs x)] w fun e w' => e = .returned (.bool (l.contains x)) ∧ w = w' := by
  have HV := Lib.hid hv
  obtain ⟨a, cap, rfl, -⟩ := hv
  go_enter Tryd.func30, Tryd.ntmps30
  go_wp2
  go_loopw [5] (fun i wr => ∃ k : Nat, k ≤ l.length ∧ i = .int .i64 k ∧ Hid (∀ y ∈ l.take k, y ≠ x) ∧ w = wr) (fun i _ => l.length - (intOf i).toNat)
  case atStart => exact ⟨0, Nat.zero_le _, rfl, Lib.hid (by simp), rfl⟩
  case round =>
    obtain ⟨k, hk, rfl, HT, rfl⟩ := hrel
    by_cases hlt : k < l.length
    · obtain ⟨p, hp⟩ : ∃ p, l[k]? = some p := ⟨_, List.getElem?_eq_getElem hlt⟩
      obtain ⟨b1, off1, cap1, h1, _, hc⟩ := HV.out.form (by omega)
      cases h1
      have c0 := hc k p hp
      clear hc
      by_cases he : p = x
      · subst he
        have HR := Lib.hid (show l.contains p = true by rw [List.contains_iff_mem]; exact List.mem_of_getElem? hp)
        clear hp
        go_wp2
        go_ret
        exact ⟨ret_bool HR.out.symm, rfl⟩
      · have HN := Lib.hid (show ∀ y ∈ l.take (k + 1), y ≠ x from fun y hy => by
          rw [List.take_add_one, hp] at hy
          rcases List.mem_append.1 hy with q | q
          · exact HT.out y q
          · simp at q; subst q; exact he)
        have hne := str_ne he
        clear hp
        go_wp2
        go_roundw
        case rel => exact ⟨k + 1, by omega, by go_num, HN, by trivial⟩
        case measure => simp [intOf]; omega
    · obtain rfl : k = l.length := by omega
      have HR := Lib.hid (show l.contains x = false by
        rw [Bool.eq_false_iff, Ne, List.contains_iff_mem]
        intro q
        exact HT.out x (by rw [List.take_length]; exact q) rfl)
      go_wp2
      go_ret
      exact ⟨ret_bool HR.out.symm, rfl⟩
set_option maxHeartbeats 1000000 in
set_option maxRecDepth 100000 in
theorem q_few {v : Value} {l : List S} (hv : TxAt w v l) :
    Calls Tryd.prog 8 #[v, .int .i64 20] w fun e w' => e = .returned (.bool (few l 20)) ∧ w = w' := by
  have HV := Lib.hid hv
  obtain ⟨a, cap, rfl, -⟩ := hv
  go_enter Tryd.func8, Tryd.ntmps8
  go_wp2
  go_loopw [5] (fun i wr => ∃ k : Nat, k ≤ l.length ∧ k ≤ 21 ∧ i = .int .i64 k ∧ Hid (∀ y ∈ l.take k, y.length ≤ 300) ∧ w = wr) (fun i _ => 21 - (intOf i).toNat)
  case atStart => exact ⟨0, Nat.zero_le _, by omega, rfl, Lib.hid (by simp), rfl⟩
  case round =>
    obtain ⟨k, hk, hk2, rfl, HT, rfl⟩ := hrel
    by_cases hlt : k < l.length
    · have hlt' : (k : Int) < (l.length : Int) := by omega
      by_cases h20 : k ≤ 20
      · obtain ⟨p, hp⟩ : ∃ p, l[k]? = some p := ⟨_, List.getElem?_eq_getElem hlt⟩
        obtain ⟨b1, off1, cap1, h1, _, hc⟩ := HV.out.form (by omega)
        cases h1
        have c0 := hc k p hp
        have hz := bs_size p
        clear hc
        by_cases he : 300 < p.length
        · have HR := Lib.hid (show few l 20 = false from decide_eq_false fun q => by have := q.2 p (List.mem_of_getElem? hp); omega)
          have he' : (300 : Int) < (p.length : Int) := by omega
          clear hp
          go_wp2
          go_ret
          exact ⟨ret_bool HR.out.symm, rfl⟩
        · have HN := Lib.hid (show ∀ y ∈ l.take (k + 1), y.length ≤ 300 from fun y hy => by
            rw [List.take_add_one, hp] at hy
            rcases List.mem_append.1 hy with q | q
            · exact HT.out y q
            · simp at q; subst q; omega)
          have he' : ¬ (300 : Int) < (p.length : Int) := by omega
          clear hp
          go_wp2
          go_roundw
          case rel => exact ⟨k + 1, by omega, by omega, by go_num, HN, by trivial⟩
          case measure => simp [intOf]; omega
      · have HR := Lib.hid (show few l 20 = false from decide_eq_false fun q => by have := q.1; omega)
        have h21 : ¬ (k : Int) ≤ 20 := by omega
        have h22 : ¬ (l.length : Int) ≤ 20 := by omega
        go_wp2
        go_ret
        exact ⟨ret_bool HR.out.symm, rfl⟩
    · obtain rfl : k = l.length := by omega
      have ht := HT.out
      rw [List.take_length] at ht
      by_cases h20 : l.length ≤ 20
      · have HR := Lib.hid (show few l 20 = true from decide_eq_true ⟨by omega, ht⟩)
        have h21 : (l.length : Int) ≤ 20 := by omega
        clear ht
        go_wp2
        go_ret
        exact ⟨ret_bool HR.out.symm, rfl⟩
      · have HR := Lib.hid (show few l 20 = false from decide_eq_false fun q => by have := q.1; omega)
        have h21 : ¬ (l.length : Int) ≤ 20 := by omega
        clear ht
        go_wp2
        go_ret
        exact ⟨ret_bool HR.out.symm, rfl⟩
end
end Go.Proofs.YtbjligjmckilcaaDoor
