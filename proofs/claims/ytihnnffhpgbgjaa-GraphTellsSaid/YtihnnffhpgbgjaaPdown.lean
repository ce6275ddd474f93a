/- Parents, Past, Down, Before. -/
import Derived.Test.YtihnnffhpgbgjaaPasc
namespace Go.Proofs.Ytihnnffhpgbgjaa
open Go.RowKit Go.Maps Go.ChangeMaps Go.MapKept
open Gp
attribute [local go_sem ↓] Go.wp_at_zero Go.wp_at_succ

theorem setM_some (M : List Int) (x : Int) : (setM M x).isSome = true ↔ x ∈ M := by
  unfold setM
  by_cases h : x ∈ M
  · simp [h]
  · simp [h]
theorem met_len {G : List Nd} {M xs : List Int} {least : Int} (h : M.Nodup ∧ ∀ x, x ∈ M ↔ least ≤ x ∧ x ∈ down G xs) : M.length ≤ G.length := by
  have := h.1.length_le_of_subset (l₂ := ids G) fun y hy => (mem_down.1 ((h.2 y).1 hy).2).1
  rwa [show (ids G).length = G.length by simp [ids]] at this
section
variable {w : World} {b mb : Nat} {G : List Nd} {pv : Int → Value} {S : Nat → Prop}
set_option maxHeartbeats 1000000 in
theorem parents_in (h : GIn w b mb G pv S) (hG : G.length ≤ 100) (x : Int) :
    Calls Try.prog 18 #[.pointer (some ⟨b, 0, none⟩), .int .i64 x] w fun e w' => ∃ v, e = .returned v ∧ NumsAt w' v (par G x) ∧ Below w.heap.size w w' := by
  have c0 := h.c0
  obtain ⟨pa, pc, pl, ⟨_, hlook⟩, hnums, _⟩ := h.look x
  have hpl := par_few h.ok x
  have hfld := field_par pa (par G x).length pc pl w
  have HC := Lib.hid (clone_any hnums (by omega))
  clear h hnums
  generalize Value.slice pa (par G x).length pc = vu at hlook hfld HC
  go_enter Try.func18, Try.ntmps18
  go_wp2_with (go_at_call 39; refine (HC.out).mono ?_; rintro e w2 ⟨v2, rfl, o2, n2, b2⟩; refine Hid.out ?_)
  refine Lib.hid ?_
  have O2 := Lib.hid (NumsAt.of_own o2)
  clear o2 n2 HC
  go_wp2
  go_ret
  exact ⟨v2, rfl, O2.out, b2⟩
set_option maxHeartbeats 1000000 in
theorem past_in (h : GIn w b mb G pv S) (hG : G.length ≤ 100) (x : Int) :
    Calls Try.prog 20 #[.pointer (some ⟨b, 0, none⟩), .int .i64 x] w fun e w' => ∃ v, e = .returned v ∧ NumsAt w' v (past G x) ∧ Below w.heap.size w w' := by
  have c0 := h.c0
  obtain ⟨pa, pc, pl, ⟨_, hlook⟩, hnums, _⟩ := h.look x
  have hpl := par_few h.ok x
  have OK := Lib.hid h.ok
  have hfld := field_par pa (par G x).length pc pl w
  have HR := Lib.hid (reach_in h hnums (by omega) hG 0)
  clear h hnums
  generalize Value.slice pa (par G x).length pc = vu at hlook hfld HR
  go_enter Try.func20, Try.ntmps20
  go_wp2_with (go_at_call 42; refine (HR.out).mono ?_; rintro e w2 ⟨mm, M, rfl, n2, m2, hM, b2⟩; refine Hid.out ?_)
  refine Lib.hid ?_
  have ML := met_len hM
  have HA := Lib.hid (asc_set m2 (by omega) (past_asc (x := x) OK.out) fun y => by
    rw [setM_some, hM.2 y, down_par]
    exact ⟨fun q => ⟨(((mem_past OK.out).1 q).lt OK.out).1.1, q⟩, fun q => q.2⟩)
  have B2 := Lib.hid b2
  clear HR m2 hM b2
  go_wp2_with (go_at_call 43; refine (HA.out).mono ?_; rintro e w3 ⟨v3, rfl, h3, b3⟩; refine Hid.out ?_)
  refine Lib.hid ?_
  have O3 := Lib.hid h3
  have B3 := Lib.hid (B2.out.trans (b3.mono B2.out.size))
  clear h3 b3 HA
  go_wp2
  go_ret
  exact ⟨v3, rfl, O3.out, B3.out⟩
set_option maxHeartbeats 1000000 in
theorem down_in (h : GIn w b mb G pv S) (hG : G.length ≤ 100) {v : Value} {xs : List Int} (hv : NumsAt w v xs) (hx : xs.length ≤ 1000) :
    Calls Try.prog 26 #[.pointer (some ⟨b, 0, none⟩), v] w fun e w' => ∃ v, e = .returned v ∧ NumsAt w' v (down G xs) ∧ Below w.heap.size w w' := by
  have OK := Lib.hid h.ok
  have HR := Lib.hid (reach_in h hv hx hG 0)
  clear h hv
  go_enter Try.func26, Try.ntmps26
  go_wp2_with (go_at_call 42; refine (HR.out).mono ?_; rintro e w2 ⟨mm, M, rfl, n2, m2, hM, b2⟩; refine Hid.out ?_)
  refine Lib.hid ?_
  have ML := met_len hM
  have HA := Lib.hid (asc_set m2 (by omega) (down_asc (xs := xs) OK.out) fun y => by
    rw [setM_some, hM.2 y]
    exact ⟨fun q => ⟨(OK.out.range (mem_down.1 q).1).1, q⟩, fun q => q.2⟩)
  have B2 := Lib.hid b2
  clear HR m2 hM b2
  go_wp2_with (go_at_call 43; refine (HA.out).mono ?_; rintro e w3 ⟨v3, rfl, h3, b3⟩; refine Hid.out ?_)
  refine Lib.hid ?_
  have O3 := Lib.hid h3
  have B3 := Lib.hid (B2.out.trans (b3.mono B2.out.size))
  clear h3 b3 HA
  go_wp2
  go_ret
  exact ⟨v3, rfl, O3.out, B3.out⟩
set_option maxHeartbeats 1000000 in
theorem before_in (h : GIn w b mb G pv S) (hG : G.length ≤ 100) (x y : Int) :
    Calls Try.prog 15 #[.pointer (some ⟨b, 0, none⟩), .int .i64 x, .int .i64 y] w fun e w' => e = .returned (.bool (ancB G x y)) ∧ Below w.heap.size w w' := by
  generalize hr : ancB G x y = r
  have HQ := Lib.hid hr
  clear hr
  have c0 := h.c0
  obtain ⟨pa, pc, pl, ⟨_, hlook⟩, hnums, _⟩ := h.look y
  have hpl := par_few h.ok y
  have OK := Lib.hid h.ok
  have hfld := field_par pa (par G y).length pc pl w
  have HR := Lib.hid (reach_in h hnums (by omega) hG x)
  clear h hnums
  generalize Value.slice pa (par G y).length pc = vu at hlook hfld HR
  go_enter Try.func15, Try.ntmps15
  go_wp2_with (go_at_call 42; refine (HR.out).mono ?_; rintro e w2 ⟨mm, M, rfl, n2, m2, hM, b2⟩; refine Hid.out ?_)
  refine Lib.hid ?_
  have hq := (m2.look_ok (t := 60) (e := 4) Try.underlying60 (Try.zeroValue4 w2) x).2
  rw [setM_get, show M.contains x = r by
    rw [← HQ.out, Bool.eq_iff_iff, List.contains_iff_mem, hM.2 x, down_par, ancB_iff, mem_past OK.out]
    exact ⟨fun q => q.2, fun q => ⟨Int.le_refl _, q⟩⟩] at hq
  have B2 := Lib.hid b2
  clear HR m2 hM b2
  go_wp2
  go_ret
  exact ⟨rfl, B2.out⟩
end
end Go.Proofs.Ytihnnffhpgbgjaa
