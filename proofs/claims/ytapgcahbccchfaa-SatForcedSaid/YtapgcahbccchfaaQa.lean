/- The reference: Right, True, Check, opposite, implies, Ints, Bools. -/
import Derived.Test.YtapgcahbccchfaaCls
import Derived.Test.YtapgcahbccchfaaOrd7
namespace Go.Proofs.Ytapgcahbccchfaa
open Go.RowKit Go.Maps Go.ChangeMaps Go.MapKept
open St
attribute [local go_sem ↓] Go.wp_at_zero Go.wp_at_succ

def Inn (n : Int) (c : Cl) : Prop := (0 ≤ c.1 ∧ c.1 < 2 * n) ∧ (0 ≤ c.2 ∧ c.2 < 2 * n)
theorem right_not {l : List Cl} {n : Int} (h : ¬ ((0 ≤ n ∧ n ≤ 400) ∧ l.length ≤ 4000)) : right l n = false := decide_eq_false fun q => h ⟨q.1, q.2.1⟩
theorem right_out {l : List Cl} {n : Int} {k : Nat} {c : Cl} (hc : l[k]? = some c) (h : ¬ Inn n c) : right l n = false := decide_eq_false fun q => h (q.2.2 c (List.mem_of_getElem? hc))
theorem right_yes {l : List Cl} {n : Int} (h1 : 0 ≤ n ∧ n ≤ 400) (h2 : l.length ≤ 4000) (h : ∀ c ∈ l.take l.length, Inn n c) : right l n = true := by rw [List.take_length] at h; exact right_iff.2 ⟨h1, h2, h⟩
theorem take_all {α : Type} {l : List α} {k : Nat} {a : α} {P : α → Prop} (h : ∀ x ∈ l.take k, P x) (hk : l[k]? = some a) (ha : P a) : ∀ x ∈ l.take (k + 1), P x := by
  intro x hx
  rw [List.take_add_one, hk] at hx
  rcases List.mem_append.1 hx with q | q
  · exact h x q
  · simp at q; subst q; exact ha
section
variable {w : World}
set_option maxHeartbeats 1000000 in
set_option maxRecDepth 100000 in
theorem q_right {v : Value} {l : List Cl} {n : Int} (hv : ClAt w v l) (hl : l.length ≤ 100000) :
    Calls Try.prog 10 #[v, .int .i64 n] w fun e w' => e = .returned (.bool (right l n)) ∧ w = w' := by
  have HV := Lib.hid hv
  obtain ⟨a, cap, rfl, -⟩ := hv
  go_enter Try.func10, Try.ntmps10
  by_cases hn0 : n < 0
  · have HR := Lib.hid (right_not (l := l) (n := n) (by omega))
    go_wp2
    go_ret
    exact ⟨ret_bool HR.out.symm, rfl⟩
  · have hn1 : 0 ≤ n := by omega
    by_cases hn4 : 400 < n
    · have HR := Lib.hid (right_not (l := l) (n := n) (by omega))
      go_wp2
      go_ret
      exact ⟨ret_bool HR.out.symm, rfl⟩
    · by_cases hl4 : 4000 < l.length
      · have HR := Lib.hid (right_not (l := l) (n := n) (by omega))
        have hl5 : (4000 : Int) < (l.length : Int) := by omega
        go_wp2
        go_ret
        exact ⟨ret_bool HR.out.symm, rfl⟩
      · have hl5 : ¬ (4000 : Int) < (l.length : Int) := by omega
        go_wp2
        go_loopw [5] (fun i wr => ∃ k : Nat, k ≤ l.length ∧ i = .int .i64 k ∧ Hid (∀ c ∈ l.take k, Inn n c) ∧ w = wr) (fun i _ => l.length - (RowKit.intOf i).toNat)
        case atStart => exact ⟨0, Nat.zero_le _, rfl, Lib.hid (by simp), rfl⟩
        case round =>
          obtain ⟨k, hk, rfl, HT, rfl⟩ := hrel
          by_cases hlt : k < l.length
          · obtain ⟨⟨x, y⟩, hc⟩ : ∃ c, l[k]? = some c := ⟨_, List.getElem?_eq_getElem hlt⟩
            have HC := Lib.hid hc
            obtain ⟨b, off, cap', h1, _, hcs⟩ := HV.out.form (by omega)
            cases h1
            obtain ⟨c0, c1⟩ := hcs k _ hc
            have c0 : w.cell? ⟨b, off + k * 2, none⟩ = some (.int .i64 x) := c0
            have c1 : w.cell? ⟨b, off + k * 2 + 1, none⟩ = some (.int .i64 y) := c1
            clear hcs hc
            by_cases hx0 : x < 0
            · have HR := Lib.hid (right_out HC.out (fun q => by have := q.1.1; simp at this; omega) : right l n = false)
              go_wp2
              go_ret
              exact ⟨ret_bool HR.out.symm, rfl⟩
            · by_cases hx1 : 2 * n ≤ x
              · have HR := Lib.hid (right_out HC.out (fun q => by have := q.1.2; simp at this; omega) : right l n = false)
                go_wp2
                go_ret
                exact ⟨ret_bool HR.out.symm, rfl⟩
              · by_cases hy0 : y < 0
                · have HR := Lib.hid (right_out HC.out (fun q => by have := q.2.1; simp at this; omega) : right l n = false)
                  go_wp2
                  go_ret
                  exact ⟨ret_bool HR.out.symm, rfl⟩
                · by_cases hy1 : 2 * n ≤ y
                  · have HR := Lib.hid (right_out HC.out (fun q => by have := q.2.2; simp at this; omega) : right l n = false)
                    go_wp2
                    go_ret
                    exact ⟨ret_bool HR.out.symm, rfl⟩
                  · have HT2 := Lib.hid (take_all HT.out HC.out (show Inn n (x, y) from ⟨⟨by simp; omega, by simp; omega⟩, ⟨by simp; omega, by simp; omega⟩⟩))
                    go_wp2
                    go_roundw
                    case rel => exact ⟨k + 1, by omega, by go_num, HT2, by trivial⟩
                    case measure => (simp [RowKit.intOf]; try omega)
          · obtain rfl : k = l.length := by omega
            have HR := Lib.hid (right_yes (l := l) (n := n) ⟨hn1, by omega⟩ (by omega) HT.out)
            clear HT
            go_wp2
            go_ret
            exact ⟨ret_bool HR.out.symm, rfl⟩
set_option maxHeartbeats 1000000 in
theorem q_true {v : Value} {vs : List Bool} {x : Int} (hv : BoolsAt w v vs) (hx : 0 ≤ x ∧ x < 2 * (vs.length : Int)) (hl : vs.length ≤ 1000) :
    Calls Try.prog 25 #[v, .int .i64 x] w fun e w' => e = .returned (.bool (tru vs x)) ∧ w = w' := by
  obtain ⟨q, hq⟩ : ∃ q : Nat, x / 2 = (q : Int) := ⟨(x / 2).toNat, by omega⟩
  have hql : q < vs.length := by omega
  obtain ⟨b, off, cap, rfl, _, hc⟩ := hv.form (by omega)
  obtain ⟨z, hz⟩ : ∃ z, vs[q]? = some z := ⟨_, List.getElem?_eq_getElem hql⟩
  have c0 := hc q z hz
  have HR := Lib.hid (show tru vs x = (z == (x % 2 == 0)) by unfold tru; rw [hq, Int.toNat_natCast]; simp [List.getD, hz]; rfl)
  have hq2 : x.tdiv 2 = (q : Int) := by rw [Int.tdiv_eq_ediv_of_nonneg hx.1]; exact hq
  have hm : x.tmod 2 = x % 2 := Int.tmod_eq_emod_of_nonneg hx.1
  clear hc hz hv
  go_enter Try.func25, Try.ntmps25
  go_wp2
  go_ret
  exact ⟨ret_bool HR.out.symm, rfl⟩
theorem check_len {l : List Cl} {n : Int} {vs : List Bool} (h : (vs.length : Int) ≠ n) : check l n vs = false := by
  cases hc : check l n vs with
  | false => rfl
  | true => exact (h (len_of hc)).elim
theorem check_wrong {l : List Cl} {n : Int} {vs : List Bool} (h : right l n = false) : check l n vs = false := by unfold check; rw [h]; rfl
theorem check_miss {l : List Cl} {n : Int} {vs : List Bool} {k : Nat} {c : Cl} (hc : l[k]? = some c) (h1 : tru vs c.1 = false) (h2 : tru vs c.2 = false) : check l n vs = false := by
  cases hk : check l n vs with
  | false => rfl
  | true =>
    have := sat_iff.1 (check_iff.1 hk).2.2 c (List.mem_of_getElem? hc)
    rw [h1, h2] at this; simp at this
theorem check_all {l : List Cl} {n : Int} {vs : List Bool} (h : right l n = true) (hl : (vs.length : Int) = n) (hs : ∀ c ∈ l.take l.length, tru vs c.1 = true ∨ tru vs c.2 = true) : check l n vs = true := by
  rw [List.take_length] at hs; exact check_iff.2 ⟨h, hl, sat_iff.2 hs⟩
set_option maxHeartbeats 1000000 in
set_option maxRecDepth 100000 in
theorem q_check {v u : Value} {l : List Cl} {n : Int} {vs : List Bool} (hv : ClAt w v l) (hl : l.length ≤ 100000) (hu : BoolsAt w u vs) (hvs : vs.length ≤ 1000) :
    Calls Try.prog 12 #[v, .int .i64 n, u] w fun e w' => e = .returned (.bool (check l n vs)) ∧ w = w' := by
  have HV := Lib.hid hv
  have HU := Lib.hid hu
  have HQ := Lib.hid (q_right (n := n) hv hl)
  obtain ⟨a, cap, rfl, -⟩ := hv
  obtain ⟨ua, uc, rfl⟩ := hu.slice
  clear hu
  go_enter Try.func12, Try.ntmps12
  cases hr : right l n with
  | false =>
    have HR := Lib.hid (check_wrong (vs := vs) hr)
    rw [hr] at HQ
    clear hr
    go_wp2_with (go_at_call 10; refine (HQ.out).mono ?_; rintro e w2 ⟨rfl, rfl⟩; refine Hid.out ?_)
    refine Lib.hid ?_
    go_wp2
    go_ret
    exact ⟨ret_bool HR.out.symm, rfl⟩
  | true =>
    have HRI := Lib.hid hr
    rw [hr] at HQ
    clear hr
    by_cases hlen : (vs.length : Int) = n
    · subst hlen
      go_wp2_with (go_at_call 10; refine (HQ.out).mono ?_; rintro e w2 ⟨rfl, rfl⟩; refine Hid.out ?_)
      refine Lib.hid ?_
      go_wp2
      go_loopw [7] (fun i wr => ∃ k : Nat, k ≤ l.length ∧ i = .int .i64 k ∧ Hid (∀ c ∈ l.take k, tru vs c.1 = true ∨ tru vs c.2 = true) ∧ w = wr) (fun i _ => l.length - (RowKit.intOf i).toNat)
      case atStart => exact ⟨0, Nat.zero_le _, rfl, Lib.hid (by simp), rfl⟩
      case round =>
        obtain ⟨k, hk, rfl, HT, rfl⟩ := hrel
        by_cases hlt : k < l.length
        · obtain ⟨⟨x, y⟩, hc⟩ : ∃ c, l[k]? = some c := ⟨_, List.getElem?_eq_getElem hlt⟩
          have HC := Lib.hid hc
          have hin := (right_iff.1 HRI.out).2.2 _ (List.mem_of_getElem? hc)
          obtain ⟨b, off, cap', h1, _, hcs⟩ := HV.out.form (by omega)
          cases h1
          obtain ⟨c0, c1⟩ := hcs k _ hc
          have c0 : w.cell? ⟨b, off + k * 2, none⟩ = some (.int .i64 x) := c0
          have c1 : w.cell? ⟨b, off + k * 2 + 1, none⟩ = some (.int .i64 y) := c1
          have HX := q_true HU.out hin.1 hvs
          have HY := q_true HU.out hin.2 hvs
          clear hcs hc hin
          cases hx : tru vs x with
          | true =>
            have HT2 := Lib.hid (take_all HT.out HC.out (show tru vs (x, y).1 = true ∨ tru vs (x, y).2 = true from .inl hx))
            have HX := Lib.hid (hx ▸ HX)
            clear hx HY
            go_wp2_with (go_at_call 25; refine (HX.out).mono ?_; rintro e w3 ⟨rfl, rfl⟩; refine Hid.out ?_)
            refine Lib.hid ?_
            go_wp2
            go_roundw
            case rel => exact ⟨k + 1, by omega, by go_num, HT2, by trivial⟩
            case measure => (simp [RowKit.intOf]; try omega)
          | false =>
            cases hy : tru vs y with
            | true =>
              have HT2 := Lib.hid (take_all HT.out HC.out (show tru vs (x, y).1 = true ∨ tru vs (x, y).2 = true from .inr hy))
              rw [show tru vs (x, y).1 = false from hx] at HX
              rw [show tru vs (x, y).2 = true from hy] at HY
              have HX := Lib.hid HX
              have HY := Lib.hid HY
              clear hx hy
              go_wp2_with (go_at_call 25; refine (HX.out).mono ?_; rintro e w3 ⟨rfl, rfl⟩; refine Hid.out ?_)
              refine Lib.hid ?_
              go_wp2_with (go_at_call 25; refine (HY.out).mono ?_; rintro e w3 ⟨rfl, rfl⟩; refine Hid.out ?_)
              refine Lib.hid ?_
              go_wp2
              go_roundw
              case rel => exact ⟨k + 1, by omega, by go_num, HT2, by trivial⟩
              case measure => (simp [RowKit.intOf]; try omega)
            | false =>
              have HR := Lib.hid (check_miss (n := (vs.length : Int)) HC.out hx hy)
              rw [show tru vs (x, y).1 = false from hx] at HX
              rw [show tru vs (x, y).2 = false from hy] at HY
              have HX := Lib.hid HX
              have HY := Lib.hid HY
              clear hx hy
              go_wp2_with (go_at_call 25; refine (HX.out).mono ?_; rintro e w3 ⟨rfl, rfl⟩; refine Hid.out ?_)
              refine Lib.hid ?_
              go_wp2_with (go_at_call 25; refine (HY.out).mono ?_; rintro e w3 ⟨rfl, rfl⟩; refine Hid.out ?_)
              refine Lib.hid ?_
              go_wp2
              go_ret
              exact ⟨ret_bool HR.out.symm, rfl⟩
        · obtain rfl : k = l.length := by omega
          have HR := Lib.hid (check_all HRI.out rfl HT.out)
          clear HT
          go_wp2
          go_ret
          exact ⟨ret_bool HR.out.symm, rfl⟩
    · have HR := Lib.hid (check_len (l := l) hlen)
      go_wp2_with (go_at_call 10; refine (HQ.out).mono ?_; rintro e w2 ⟨rfl, rfl⟩; refine Hid.out ?_)
      refine Lib.hid ?_
      go_wp2
      go_ret
      exact ⟨ret_bool HR.out.symm, rfl⟩
set_option maxHeartbeats 1000000 in
theorem q_opp {x : Int} (h : 0 ≤ x ∧ x < 100000) : Calls Try.prog 30 #[.int .i64 x] w fun e w' => e = .returned (.int .i64 (opp x)) ∧ w = w' := by
  have hm : x.tmod 2 = x % 2 := Int.tmod_eq_emod_of_nonneg h.1
  go_enter Try.func30, Try.ntmps30
  by_cases h2 : x % 2 = 0
  · have HR := Lib.hid (show opp x = x + 1 by unfold opp; omega)
    go_wp2
    go_ret
    exact ⟨ret_int HR.out.symm, rfl⟩
  · have HR := Lib.hid (show opp x = x - 1 by unfold opp; omega)
    go_wp2
    go_ret
    exact ⟨ret_int HR.out.symm, rfl⟩
end
end Go.Proofs.Ytapgcahbccchfaa
