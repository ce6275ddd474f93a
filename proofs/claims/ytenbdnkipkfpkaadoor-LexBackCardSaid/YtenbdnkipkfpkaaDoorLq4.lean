/- The reference of layer 11: Like, Text. -/
import Derived.Test.YtenbdnkipkfpkaaDoorLq3
namespace Go.Proofs.YtenbdnkipkfpkaaDoor
open Go.RowKit Go.Maps Go.ChangeMaps Go.MapKept
open Lx
attribute [local go_sem ↓] Go.wp_at_zero Go.wp_at_succ
def bare (t : Tk) : Int × S × Int := (t.kind, t.text, t.n)
theorem likes_bare {l m : List Tk} (h : Likes l m) : l.map bare = m.map bare := by
  induction h with
  | nil => rfl
  | cons hl _ ih => rw [List.map_cons, List.map_cons, ih]; unfold bare; rw [hl.1, hl.2.1, hl.2.2]
section
variable {w : World}
set_option maxHeartbeats 4000000 in
set_option maxRecDepth 100000 in
theorem q_like {v u : Value} {x y : List Tk} (hv : TkAt w v x) (hu : TkAt w u y) (hx : x.length ≤ 100000) :
    Calls Tryd.prog 20 #[v, u] w fun e w' => e = .returned (.bool (decide (x.map bare = y.map bare))) ∧ Below w.heap.size w w' := by
  have HV := Lib.hid hv
  have HU := Lib.hid hu
  obtain ⟨a, cap, rfl, -⟩ := hv
  obtain ⟨b, cap', rfl, -⟩ := hu
  by_cases hxy : x.length = y.length
  · rw [← hxy] at HU ⊢
    have HXY := Lib.hid hxy
    clear hxy
    go_enter Tryd.func20, Tryd.ntmps20
    go_wp2
    go_loopw [5] (fun i wr => ∃ k : Nat, k ≤ x.length ∧ i = .int .i64 k ∧ Hid ((x.map bare).take k = (y.map bare).take k) ∧ Below w.heap.size w wr) (fun i _ => x.length - (intOf i).toNat)
    case atStart => exact ⟨0, Nat.zero_le _, rfl, Lib.hid (by simp), Below.refl _ _⟩
    case round =>
      obtain ⟨k, hk, rfl, HT, hb⟩ := hrel
      have HB := Lib.hid hb
      by_cases hlt : k < x.length
      · obtain ⟨p, hp⟩ : ∃ p, x[k]? = some p := ⟨_, List.getElem?_eq_getElem hlt⟩
        obtain ⟨q, hq⟩ : ∃ q, y[k]? = some q := ⟨_, List.getElem?_eq_getElem (by rw [← HXY.out]; exact hlt)⟩
        have hvx := HV.out.keep hb
        have huy := HU.out.keep hb
        rw [HXY.out] at huy
        obtain ⟨b1, off1, cap1, h1, _, hc⟩ := hvx.form (by omega)
        cases h1
        obtain ⟨b2, off2, cap2, h1, _, hd⟩ := huy.form (by rw [← HXY.out]; omega)
        rw [← HXY.out] at h1
        cases h1
        obtain ⟨c0, c1, c2, c3⟩ := hc k p hp
        obtain ⟨d0, d1, d2, d3⟩ := hd k q hq
        have hp2 : (x.map bare)[k]? = some (bare p) := by rw [List.getElem?_map, hp]; rfl
        have hq2 : (y.map bare)[k]? = some (bare q) := by rw [List.getElem?_map, hq]; rfl
        clear hc hd hvx huy hb hp hq c3 d3
        by_cases e1 : p.kind = q.kind
        · rw [← e1] at d0
          by_cases e2 : p.text = q.text
          · rw [← e2] at d1
            by_cases e3 : p.n = q.n
            · rw [← e3] at d2
              have e : bare q = bare p := by unfold bare; rw [e1, e2, e3]
              rw [e] at hq2
              have HN := Lib.hid (list_take HT.out hp2 hq2)
              clear e1 e2 e3 e hp2 hq2
              go_wp2
              go_quiet (fail)
              go_wp2
              go_roundw
              case rel => exact ⟨k + 1, by omega, by go_num, HN, HB.out.trans ((drewN_below _ _).mono HB.out.size)⟩
              case measure => simp [intOf]; omega
            · have HR := Lib.hid (list_not hp2 hq2 (fun e => e3 (congrArg (fun z => z.2.2) e)))
              have e3' : (p.n == q.n) = false := beq_eq_false_iff_ne.2 e3
              have e3n : (p.n != q.n) = true := by simpa using e3
              clear e1 e2 e3 hp2 hq2
              go_wp2
              go_quiet (fail)
              go_wp2
              go_ret
              exact ⟨ret_bool HR.out.symm, HB.out.trans ((drewN_below _ _).mono HB.out.size)⟩
          · have HR := Lib.hid (list_not hp2 hq2 (fun e => e2 (congrArg (fun z => z.2.1) e)))
            have e2' := str_ne e2
            clear e1 e2 hp2 hq2
            go_wp2
            go_quiet (fail)
            go_wp2
            go_ret
            exact ⟨ret_bool HR.out.symm, HB.out.trans ((drewN_below _ _).mono HB.out.size)⟩
        · have HR := Lib.hid (list_not hp2 hq2 (fun e => e1 (congrArg (fun z => z.1) e)))
          have e1' : (p.kind == q.kind) = false := beq_eq_false_iff_ne.2 e1
          have e1n : (p.kind != q.kind) = true := by simpa using e1
          clear e1 hp2 hq2
          go_wp2
          go_quiet (fail)
          go_wp2
          go_ret
          exact ⟨ret_bool HR.out.symm, HB.out.trans ((drewN_below _ _).mono HB.out.size)⟩
      · obtain rfl : k = x.length := by omega
        have ht := HT.out
        rw [List.take_of_length_le (by simp), List.take_of_length_le (by rw [HXY.out]; simp)] at ht
        have HR := Lib.hid (decide_eq_true ht)
        clear ht hb
        go_wp2
        go_ret
        exact ⟨ret_bool HR.out.symm, HB.out⟩
  · have hne : ¬ ((x.length : Int) = (y.length : Int)) := by omega
    have HR := Lib.hid (list_len (x := x.map bare) (y := y.map bare) (by simpa using hxy))
    clear hxy
    go_enter Tryd.func20, Tryd.ntmps20
    go_wp2
    go_ret
    exact ⟨ret_bool HR.out.symm, Below.refl _ _⟩
end
end Go.Proofs.YtenbdnkipkfpkaaDoor
