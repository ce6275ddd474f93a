/- What the statements of layer 7 call besides the graphs: Same, Has, Few, Right; slices of nodes. -/
import Derived.Test.YtihnnffhpgbgjaaNums
import Derived.Test.YtihnnffhpgbgjaaGk
import Derived.Test.YtihnnffhpgbgjaaOrd4
namespace Go.Proofs.Ytihnnffhpgbgjaa
open Go.RowKit Go.Maps Go.ChangeMaps Go.MapKept
open Gp
attribute [local go_sem ↓] Go.wp_at_zero Go.wp_at_succ

/-- A slice of nodes that is read. -/
def NodesAt (w : World) (v : Value) (l : List Nd) : Prop := ∃ a cap, v = .slice a l.length cap ∧ (l.length ≤ cap ∧ (a = none → cap = 0)) ∧ ∀ (k : Nat) (n : Nd), l[k]? = some n → ∃ b off pv, a = some ⟨b, off, none⟩ ∧
  w.cell? ⟨b, off + k * 2, none⟩ = some (.int .i64 n.1) ∧ w.cell? ⟨b, off + k * 2 + 1, none⟩ = some pv ∧ NumsAt w pv n.2
theorem NodesAt.keep {w w' : World} {v : Value} {l : List Nd} (h : NodesAt w v l) (hb : Below w.heap.size w w') : NodesAt w' v l := by
  obtain ⟨a, cap, hv, hl, hc⟩ := h
  refine ⟨a, cap, hv, hl, fun k n hk => ?_⟩
  obtain ⟨b, off, pv, h1, c0, c1, hp⟩ := hc k n hk
  exact ⟨b, off, pv, h1, below_cell c0 hb, below_cell c1 hb, hp.keep hb⟩
theorem NodesAt.nil (w : World) : NodesAt w (.slice none 0 0) [] := ⟨none, 0, rfl, ⟨Nat.le_refl _, fun _ => rfl⟩, fun k u hk => by simp at hk⟩
theorem NodesAt.at_ {w : World} {v : Value} {l : List Nd} (h : NodesAt w v l) {k : Nat} {n : Nd} (hk : l[k]? = some n) : ∃ b off cap pa pc, v = .slice (some ⟨b, off, none⟩) l.length cap ∧ l.length ≤ cap ∧
    w.cell? ⟨b, off + k * 2, none⟩ = some (.int .i64 n.1) ∧ w.cell? ⟨b, off + k * 2 + 1, none⟩ = some (.slice pa n.2.length pc) ∧ NumsAt w (.slice pa n.2.length pc) n.2 := by
  obtain ⟨a, cap, hv, hl, hc⟩ := h
  obtain ⟨b, off, pv, rfl, c0, c1, hp⟩ := hc k n hk
  obtain ⟨pa, pc, rfl⟩ := hp.slice
  exact ⟨b, off, cap, pa, pc, hv, hl.1, c0, c1, hp⟩
theorem nums_not {x y : List Int} {k : Nat} {p q : Int} (hp : x[k]? = some p) (hq : y[k]? = some q) (h : p ≠ q) : decide (x = y) = false := by
  rw [decide_eq_false_iff_not]; rintro rfl; rw [hp] at hq; cases hq; exact h rfl
theorem nums_len {x y : List Int} (h : x.length ≠ y.length) : decide (x = y) = false := by
  rw [decide_eq_false_iff_not]; rintro rfl; exact h rfl
theorem nums_take {x y : List Int} {k : Nat} {p : Int} (h : x.take k = y.take k) (hp : x[k]? = some p) (hq : y[k]? = some p) : x.take (k + 1) = y.take (k + 1) := by
  rw [List.take_add_one, List.take_add_one, h, hp, hq]
section
variable {w : World}
set_option maxHeartbeats 1000000 in
set_option maxRecDepth 100000 in
theorem s_same {v u : Value} {x y : List Int} (hv : NumsAt w v x) (hu : NumsAt w u y) (hx : x.length ≤ 100000) :
    Calls Try.prog 17 #[v, u] w fun e w' => e = .returned (.bool (decide (x = y))) ∧ Below w.heap.size w w' := by
  have HV := Lib.hid hv
  have HU := Lib.hid hu
  obtain ⟨a, cap, rfl, -⟩ := hv
  obtain ⟨b, cap', rfl, -⟩ := hu
  by_cases hxy : x.length = y.length
  · rw [← hxy] at HU ⊢
    have HXY := Lib.hid hxy
    clear hxy
    go_enter Try.func17, Try.ntmps17
    go_wp2
    go_loopw [5] (fun i wr => ∃ k : Nat, k ≤ x.length ∧ i = .int .i64 k ∧ Hid (x.take k = y.take k) ∧ Below w.heap.size w wr) (fun i _ => x.length - (intOf i).toNat)
    case atStart => exact ⟨0, Nat.zero_le _, rfl, Lib.hid (by simp), Below.refl _ _⟩
    case round =>
      obtain ⟨k, hk, rfl, HT, hb⟩ := hrel
      have HB := Lib.hid hb
      by_cases hlt : k < x.length
      · obtain ⟨p, hp⟩ : ∃ p, x[k]? = some p := ⟨_, List.getElem?_eq_getElem hlt⟩
        obtain ⟨q, hq⟩ : ∃ q, y[k]? = some q := ⟨_, List.getElem?_eq_getElem (by rw [← HXY.out]; exact hlt)⟩
        have hvx := HV.out.keep hb
        have huy := HU.out.keep hb
        rw [HXY.out] at huy
        obtain ⟨b1, off1, cap1, h1, _, hc⟩ := hvx.form (by omega)
        cases h1
        obtain ⟨b2, off2, cap2, h1, _, hd⟩ := huy.form (by rw [← HXY.out]; omega)
        rw [← HXY.out] at h1
        cases h1
        have c0 := hc k p hp
        have d0 := hd k q hq
        clear hc hd hvx huy hb
        by_cases he : p = q
        · subst he
          have HN := Lib.hid (nums_take HT.out hp hq)
          clear hp hq
          go_wp2
          go_quiet (fail)
          go_wp2
          go_roundw
          case rel => exact ⟨k + 1, by omega, by go_num, HN, HB.out.trans ((drewN_below _ _).mono HB.out.size)⟩
          case measure => simp [intOf]; omega
        · have HR := Lib.hid (nums_not hp hq he)
          clear hp hq
          go_wp2
          go_quiet (fail)
          go_wp2
          go_ret
          exact ⟨ret_bool HR.out.symm, HB.out.trans ((drewN_below _ _).mono HB.out.size)⟩
      · obtain rfl : k = x.length := by omega
        have ht := HT.out
        rw [List.take_length, List.take_of_length_le (by rw [HXY.out]; exact Nat.le_refl _)] at ht
        have HR := Lib.hid (decide_eq_true ht)
        clear ht hb
        go_wp2
        go_ret
        exact ⟨ret_bool HR.out.symm, HB.out⟩
  · have hne : ¬ ((x.length : Int) = (y.length : Int)) := by omega
    have HR := Lib.hid (nums_len hxy)
    go_enter Try.func17, Try.ntmps17
    go_wp2
    go_ret
    exact ⟨ret_bool HR.out.symm, Below.refl _ _⟩
theorem has_yes {l : List Int} {k : Nat} {z : Int} (h : l[k]? = some z) : l.contains z = true := List.contains_iff_mem.2 (List.mem_of_getElem? h)
theorem has_no {l : List Int} {z : Int} (h : z ∉ l) : l.contains z = false := by rw [← Bool.not_eq_true, List.contains_iff_mem]; exact h
set_option maxHeartbeats 1000000 in
set_option maxRecDepth 100000 in
theorem s_has {v : Value} {l : List Int} (z : Int) (hv : NumsAt w v l) (hx : l.length ≤ 100000) :
    Calls Try.prog 41 #[v, .int .i64 z] w fun e w' => e = .returned (.bool (l.contains z)) ∧ w = w' := by
  have HV := Lib.hid hv
  obtain ⟨a, cap, rfl, -⟩ := hv
  go_enter Try.func41, Try.ntmps41
  go_wp2
  go_loopw [5] (fun i wr => ∃ k : Nat, k ≤ l.length ∧ i = .int .i64 k ∧ Hid (z ∉ l.take k) ∧ w = wr) (fun i _ => l.length - (intOf i).toNat)
  case atStart => exact ⟨0, Nat.zero_le _, rfl, Lib.hid (by simp), rfl⟩
  case round =>
    obtain ⟨k, hk, rfl, HT, rfl⟩ := hrel
    by_cases hlt : k < l.length
    · obtain ⟨p, hp⟩ : ∃ p, l[k]? = some p := ⟨_, List.getElem?_eq_getElem hlt⟩
      obtain ⟨b1, off1, cap1, h1, _, hc⟩ := HV.out.form (by omega)
      cases h1
      have c0 := hc k p hp
      clear hc
      by_cases he : p = z
      · subst he
        have HR := Lib.hid (has_yes hp)
        clear hp
        go_wp2
        go_ret
        exact ⟨ret_bool HR.out.symm, rfl⟩
      · have HN := Lib.hid (show z ∉ l.take (k + 1) by
          rw [List.take_add_one, hp]
          intro hm
          rcases List.mem_append.1 hm with q | q
          · exact HT.out q
          · simp at q; exact he q.symm)
        clear hp
        go_wp2
        go_roundw
        case rel => exact ⟨k + 1, by omega, by go_num, HN, by trivial⟩
        case measure => simp [intOf]; omega
    · obtain rfl : k = l.length := by omega
      have ht := HT.out
      rw [List.take_length] at ht
      have HR := Lib.hid (has_no ht)
      clear ht
      go_wp2
      go_ret
      exact ⟨ret_bool HR.out.symm, rfl⟩
/-- Few nodes, each with few parents. -/
def few (l : List Nd) (n : Nat) : Bool := decide (l.length ≤ n ∧ ∀ m ∈ l, m.2.length ≤ 30)
theorem few_not {l : List Nd} {n k : Nat} {m : Nd} (hk : l[k]? = some m) (h : 30 < m.2.length) : few l n = false := by
  unfold few; rw [decide_eq_false_iff_not]; exact fun q => by have := q.2 _ (List.mem_of_getElem? hk); omega
theorem few_len {l : List Nd} {n : Nat} (h : n < l.length) : few l n = false := by
  unfold few; rw [decide_eq_false_iff_not]; exact fun q => by have := q.1; omega
theorem few_yes {l : List Nd} {n : Nat} (h : l.length ≤ n) (h2 : ∀ m ∈ l, m.2.length ≤ 30) : few l n = true := decide_eq_true ⟨h, h2⟩
set_option maxHeartbeats 1000000 in
set_option maxRecDepth 100000 in
theorem few_any {v : Value} {l : List Nd} {n : Nat} (hv : NodesAt w v l) (hn : n ≤ 100000) :
    Calls Try.prog 6 #[v, .int .i64 (n : Int)] w fun e w' => e = .returned (.bool (few l n)) ∧ w = w' := by
  have HV := Lib.hid hv
  obtain ⟨a, cap, rfl, -⟩ := hv
  go_enter Try.func6, Try.ntmps6
  go_wp2
  go_loopw [5] (fun i wr => ∃ k : Nat, k ≤ l.length ∧ k ≤ n + 1 ∧ i = .int .i64 k ∧ Hid (∀ m ∈ l.take k, m.2.length ≤ 30) ∧ w = wr) (fun i _ => l.length - (intOf i).toNat)
  case atStart => exact ⟨0, Nat.zero_le _, Nat.zero_le _, rfl, Lib.hid (by simp), rfl⟩
  case round =>
    obtain ⟨k, hk, hkn, rfl, HT, rfl⟩ := hrel
    by_cases hlt : k < l.length
    · by_cases hln : k ≤ n
      · obtain ⟨m, hm⟩ : ∃ m, l[k]? = some m := ⟨_, List.getElem?_eq_getElem hlt⟩
        obtain ⟨b1, off1, cap1, pa, pc, h1, _, _, c1, _⟩ := HV.out.at_ hm
        cases h1
        by_cases hz : 30 < m.2.length
        · have HR := Lib.hid (few_not (n := n) hm hz)
          have hz2 : (30 : Int) < (m.2.length : Int) := by omega
          clear hm
          go_wp2
          go_ret
          exact ⟨ret_bool HR.out.symm, rfl⟩
        · have HN := Lib.hid (show ∀ r ∈ l.take (k + 1), r.2.length ≤ 30 by
            intro r hr
            rw [List.take_add_one, hm] at hr
            rcases List.mem_append.1 hr with q | q
            · exact HT.out r q
            · simp at q; subst q; omega)
          have hz2 : ¬ (30 : Int) < (m.2.length : Int) := by omega
          clear hm
          go_wp2
          go_roundw
          case rel => exact ⟨k + 1, by omega, by omega, by go_num, HN, by trivial⟩
          case measure => simp [intOf]; omega
      · have HR := Lib.hid (few_len (l := l) (n := n) (by omega))
        have hgt : ¬ ((l.length : Int) ≤ (n : Int)) := by omega
        have hgt2 : ¬ ((k : Int) ≤ (n : Int)) := by omega
        go_wp2
        go_ret
        exact ⟨ret_bool HR.out.symm, rfl⟩
    · obtain rfl : k = l.length := by omega
      have hs := HT.out
      rw [List.take_length] at hs
      by_cases hln : l.length ≤ n
      · have HR := Lib.hid (few_yes hln hs)
        have hle : ((l.length : Int) ≤ (n : Int)) := by omega
        clear hs
        go_wp2
        go_ret
        exact ⟨ret_bool HR.out.symm, rfl⟩
      · have HR := Lib.hid (few_len (l := l) (n := n) (by omega))
        have hgt : ¬ ((l.length : Int) ≤ (n : Int)) := by omega
        clear hs
        go_wp2
        go_ret
        exact ⟨ret_bool HR.out.symm, rfl⟩
end
end Go.Proofs.Ytihnnffhpgbgjaa
