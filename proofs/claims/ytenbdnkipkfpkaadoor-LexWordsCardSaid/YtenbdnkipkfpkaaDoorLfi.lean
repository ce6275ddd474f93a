/- Package lex: first. -/
import Derived.Test.YtenbdnkipkfpkaaDoorLnu
namespace Go.Proofs.YtenbdnkipkfpkaaDoor
open Go.RowKit Go.Maps Go.ChangeMaps Go.MapKept
open Lx
attribute [local go_sem ↓] Go.wp_at_zero Go.wp_at_succ
theorem tok_wordE {c : UInt8} {r : S} (h : letter c = true) (h2 : wordOk ((c :: r).takeWhile alnum) = true) : tokRes (c :: r) 0 = (⟨0, (c :: r).takeWhile alnum, 0, 0⟩, 0) := by
  have hc : alnum c = true := by unfold alnum; rw [h]; rfl
  rw [List.takeWhile_cons_of_pos hc] at h2 ⊢
  refine tok_word h ?_
  unfold wordOk at h2
  simp only [Bool.and_eq_true, decide_eq_true_eq, List.length_cons] at h2
  exact h2.1
theorem tok_longE {c : UInt8} {r : S} (h : letter c = true) (h2 : wordOk ((c :: r).takeWhile alnum) = false) : tokRes (c :: r) 0 = (⟨0, [], 0, 0⟩, 11) := by
  have hc : alnum c = true := by unfold alnum; rw [h]; rfl
  refine tok_long h fun h3 => ?_
  rw [List.takeWhile_cons_of_pos hc] at h2
  have ha : (r.takeWhile alnum).all alnum = true := by
    rw [List.all_eq_true]
    intro d hd
    obtain ⟨i, hi, e⟩ := List.getElem_of_mem hd
    obtain ⟨x, hx, hq⟩ := tw_get (q := alnum) (r := r) hi
    have : (r.takeWhile alnum)[i]? = r[i]? := by
      conv => rhs; rw [← List.takeWhile_append_dropWhile (p := alnum) (l := r)]
      rw [List.getElem?_append_left hi]
    rw [List.getElem?_eq_getElem hi, e, hx] at this
    rw [Option.some.inj this]; exact hq
  unfold wordOk at h2
  rw [decide_eq_true (by simpa using h3)] at h2
  simp [h, ha] at h2
theorem tok_numE {c : UInt8} {r : S} (h0 : letter c = false) (h : digit c = true) (h2 : numOk ((c :: r).takeWhile digit) = true) : tokRes (c :: r) 0 = (⟨1, (c :: r).takeWhile digit, (val ((c :: r).takeWhile digit) : Int), 0⟩, 0) := by
  rw [List.takeWhile_cons_of_pos h] at h2 ⊢
  exact tok_num h0 h h2
theorem tok_badE {c : UInt8} {r : S} (h0 : letter c = false) (h : digit c = true) (h2 : numOk ((c :: r).takeWhile digit) = false) : tokRes (c :: r) 0 = (⟨0, [], 0, 0⟩, 3) := by
  rw [List.takeWhile_cons_of_pos h] at h2
  exact tok_bad h0 h h2
section
variable {w : World}
set_option maxHeartbeats 4000000 in
set_option maxRecDepth 100000 in
theorem p_first {c : UInt8} {r : S} (hE : Env w) (hs : (c :: r).length ≤ 50000) :
    Calls Tryd.prog 23 #[.string (bs (c :: r))] w fun e w' => e = .returned (.tuple #[tkV (tokRes (c :: r) 0).1, .int .i64 (tokRes (c :: r) 0).2]) ∧ Below w.heap.size w w' := by
  have hz := bs_size (c :: r)
  have hE1 := hE.keep ((OMem.start w).raw (.cells #[.int .i64 0, .string ⟨#[]⟩, .int .i64 0, .int .i64 0] 25 (0, 0))).below
  have M0 := Lib.hid ((OMem.start w).raw (.cells #[.int .i64 0, .string ⟨#[]⟩, .int .i64 0, .int .i64 0] 25 (0, 0)))
  have HE := Lib.hid hE1
  obtain ⟨i0, gc⟩ := bs_get (l := c :: r) (k := 0) (c := c) rfl
  have HLW := Lib.hid (fun w => l_longW (w := w) (s := c :: r) (by omega))
  have HLD := Lib.hid (fun w => l_longD (w := w) (s := c :: r) (by omega))
  clear hE hE1
  go_enter Tryd.func23, Tryd.ntmps23
  cases hl : letter c with
  | true =>
    have HQ := Lib.hid (l_letter_of hl)
    go_wp2_with (go_at_call 28; refine (HQ.out _).mono ?_; rintro e w2 ⟨rfl, hw⟩; refine Hid.out ?_)
    refine Lib.hid ?_
    have m1 := M0.out
    rw [hw] at m1
    have he1 := HE.out
    rw [hw] at he1
    have M1 := Lib.hid (show OMem w w2 [.raw w.heap.size (.cells #[.int .i64 0, .string ⟨#[]⟩, .int .i64 0, .int .i64 0] 25 (0, 0))] from m1)
    clear m1 M0 hw HQ gc he1 HE HLD
    obtain ⟨t, ht⟩ : ∃ t, (c :: r).takeWhile alnum = t := ⟨_, rfl⟩
    have htl : t.length ≤ 100000 := by rw [← ht]; have := tw_len (q := alnum) (c :: r); omega
    rw [ht] at HLW
    go_wp2_with (go_at_call 29; refine (HLW.out _).mono ?_; rintro e w3 ⟨rfl, rfl⟩; refine Hid.out ?_)
    refine Lib.hid ?_
    clear HLW
    have HW := Lib.hid (p_word (w := w2) (s := t) htl)
    cases hk : wordOk t with
    | true =>
      have HR := Lib.hid (tok_wordE (r := r) hl (by rw [ht]; exact hk))
      rw [ht] at HR
      rw [hk] at HW
      clear hl ht hk
      go_wp2_with (go_at_call 16; refine (HW.out).mono ?_; rintro e w3 ⟨rfl, rfl⟩; refine Hid.out ?_)
      refine Lib.hid ?_
      clear HW
      go_wp2_with (go_at_call 34; refine (clone_any t (by omega)).mono ?_; rintro e w3 ⟨rfl, b3⟩; refine Hid.out ?_)
      refine Lib.hid ?_
      have m1 := M1.out.fresh b3
      clear M1
      have M1 := Lib.hid (show OMem w w3 [.raw w.heap.size (.cells #[.int .i64 0, .string ⟨#[]⟩, .int .i64 0, .int .i64 0] 25 (0, 0))] from m1)
      clear m1 b3
      have r2 := M1.out.raw_at (i := 0) rfl
      have g0 : (w3).cell? ⟨w.heap.size, 0, none⟩ = some (.int .i64 0) := by rw [Lib.cell_of_heap r2]; rfl
      have g1 : (w3).cell? ⟨w.heap.size, 1, none⟩ = some (.string ⟨#[]⟩) := by rw [Lib.cell_of_heap r2]; rfl
      have g2 : (w3).cell? ⟨w.heap.size, 2, none⟩ = some (.int .i64 0) := by rw [Lib.cell_of_heap r2]; rfl
      have g3 : (w3).cell? ⟨w.heap.size, 3, none⟩ = some (.int .i64 0) := by rw [Lib.cell_of_heap r2]; rfl
      have z0 : (w3).frozen? ⟨w.heap.size, 0, none⟩ = false := Lib.frozen_of_heap r2 0
      have z1 : (w3).frozen? ⟨w.heap.size, 1, none⟩ = false := Lib.frozen_of_heap r2 1
      have z2 : (w3).frozen? ⟨w.heap.size, 2, none⟩ = false := Lib.frozen_of_heap r2 2
      have z3 : (w3).frozen? ⟨w.heap.size, 3, none⟩ = false := Lib.frozen_of_heap r2 3
      clear r2
      go_wp2
      have m3 := put4 (z := #[.int .i64 0, .string ⟨#[]⟩, .int .i64 0, .int .i64 0]) (a0 := .int .i64 0) (a1 := .string (bs t)) (a2 := .int .i64 0) (a3 := .int .i64 0) M1.out
      have r3 := m3.raw_at (i := 0) rfl
      refine bodyPost_ret (results_cell_tmp (p := 2) (u := 3) rfl _ _ w.heap.size 25 #[.int .i64 0, .string (bs t), .int .i64 0, .int .i64 0] (0, 0) _ rfl r3 Tryd.underlying25 rfl (by kernel_rfl)) rfl ?_
      exact ⟨tok_ret HR.out rfl, m3.below⟩
    | false =>
      have HR := Lib.hid (tok_longE (r := r) hl (by rw [ht]; exact hk))
      rw [hk] at HW
      clear hl ht hk
      go_wp2_with (go_at_call 16; refine (HW.out).mono ?_; rintro e w3 ⟨rfl, rfl⟩; refine Hid.out ?_)
      refine Lib.hid ?_
      clear HW
      have r2 := M1.out.raw_at (i := 0) rfl
      have g0 : (w2).cell? ⟨w.heap.size, 0, none⟩ = some (.int .i64 0) := by rw [Lib.cell_of_heap r2]; rfl
      have g1 : (w2).cell? ⟨w.heap.size, 1, none⟩ = some (.string ⟨#[]⟩) := by rw [Lib.cell_of_heap r2]; rfl
      have g2 : (w2).cell? ⟨w.heap.size, 2, none⟩ = some (.int .i64 0) := by rw [Lib.cell_of_heap r2]; rfl
      have g3 : (w2).cell? ⟨w.heap.size, 3, none⟩ = some (.int .i64 0) := by rw [Lib.cell_of_heap r2]; rfl
      have z0 : (w2).frozen? ⟨w.heap.size, 0, none⟩ = false := Lib.frozen_of_heap r2 0
      have z1 : (w2).frozen? ⟨w.heap.size, 1, none⟩ = false := Lib.frozen_of_heap r2 1
      have z2 : (w2).frozen? ⟨w.heap.size, 2, none⟩ = false := Lib.frozen_of_heap r2 2
      have z3 : (w2).frozen? ⟨w.heap.size, 3, none⟩ = false := Lib.frozen_of_heap r2 3
      clear r2
      go_wp2
      have m3 := put4 (z := #[.int .i64 0, .string ⟨#[]⟩, .int .i64 0, .int .i64 0]) (a0 := .int .i64 0) (a1 := .string (bs [])) (a2 := .int .i64 0) (a3 := .int .i64 0) M1.out
      have r3 := m3.raw_at (i := 0) rfl
      refine bodyPost_ret (results_cell_tmp (p := 2) (u := 3) rfl _ _ w.heap.size 25 #[.int .i64 0, .string (bs []), .int .i64 0, .int .i64 0] (0, 0) _ rfl r3 Tryd.underlying25 rfl (by kernel_rfl)) rfl ?_
      exact ⟨tok_ret HR.out rfl, m3.below⟩
  | false =>
    have HQ := Lib.hid (l_letter_of hl)
    go_wp2_with (go_at_call 28; refine (HQ.out _).mono ?_; rintro e w2 ⟨rfl, hw⟩; refine Hid.out ?_)
    refine Lib.hid ?_
    have m1 := M0.out
    rw [hw] at m1
    have he1 := HE.out
    rw [hw] at he1
    have HE1 := Lib.hid he1
    have M1 := Lib.hid (show OMem w w2 [.raw w.heap.size (.cells #[.int .i64 0, .string ⟨#[]⟩, .int .i64 0, .int .i64 0] 25 (0, 0))] from m1)
    clear m1 M0 hw HQ gc he1 HE HLW
    cases hg : digit c with
    | true =>
      have HQ := Lib.hid (l_digit_of hg)
      go_wp2_with (go_at_call 35; refine (HQ.out _).mono ?_; rintro e w3 ⟨rfl, rfl⟩; refine Hid.out ?_)
      refine Lib.hid ?_
      clear HQ
      obtain ⟨t, ht⟩ : ∃ t, (c :: r).takeWhile digit = t := ⟨_, rfl⟩
      have htl : t.length ≤ 100000 := by rw [← ht]; have := tw_len (q := digit) (c :: r); omega
      rw [ht] at HLD
      go_wp2_with (go_at_call 29; refine (HLD.out _).mono ?_; rintro e w3 ⟨rfl, rfl⟩; refine Hid.out ?_)
      refine Lib.hid ?_
      clear HLD
      have HN := p_number (w := w2) (s := t) HE1.out htl
      cases hk : numOk t with
      | true =>
        have HR := Lib.hid (tok_numE (r := r) hl hg (by rw [ht]; exact hk))
        rw [ht] at HR
        rw [numRes_yes hk] at HN
        have HN := Lib.hid HN
        clear hl hg ht hk
        generalize val t = v at HR HN
        go_wp2_with (go_at_call 13; refine (HN.out).mono ?_; rintro e w3 ⟨rfl, b3⟩; refine Hid.out ?_)
        refine Lib.hid ?_
        have m1 := M1.out.fresh b3
        clear M1
        have M1 := Lib.hid (show OMem w w3 [.raw w.heap.size (.cells #[.int .i64 0, .string ⟨#[]⟩, .int .i64 0, .int .i64 0] 25 (0, 0))] from m1)
        clear m1 b3
        clear HN HE1
        go_wp2_with (go_at_call 34; refine (clone_any t (by omega)).mono ?_; rintro e w4 ⟨rfl, b4⟩; refine Hid.out ?_)
        refine Lib.hid ?_
        have m1 := M1.out.fresh b4
        clear M1
        have M1 := Lib.hid (show OMem w w4 [.raw w.heap.size (.cells #[.int .i64 0, .string ⟨#[]⟩, .int .i64 0, .int .i64 0] 25 (0, 0))] from m1)
        clear m1 b4
        have r2 := M1.out.raw_at (i := 0) rfl
        have g0 : (w4).cell? ⟨w.heap.size, 0, none⟩ = some (.int .i64 0) := by rw [Lib.cell_of_heap r2]; rfl
        have g1 : (w4).cell? ⟨w.heap.size, 1, none⟩ = some (.string ⟨#[]⟩) := by rw [Lib.cell_of_heap r2]; rfl
        have g2 : (w4).cell? ⟨w.heap.size, 2, none⟩ = some (.int .i64 0) := by rw [Lib.cell_of_heap r2]; rfl
        have g3 : (w4).cell? ⟨w.heap.size, 3, none⟩ = some (.int .i64 0) := by rw [Lib.cell_of_heap r2]; rfl
        have z0 : (w4).frozen? ⟨w.heap.size, 0, none⟩ = false := Lib.frozen_of_heap r2 0
        have z1 : (w4).frozen? ⟨w.heap.size, 1, none⟩ = false := Lib.frozen_of_heap r2 1
        have z2 : (w4).frozen? ⟨w.heap.size, 2, none⟩ = false := Lib.frozen_of_heap r2 2
        have z3 : (w4).frozen? ⟨w.heap.size, 3, none⟩ = false := Lib.frozen_of_heap r2 3
        clear r2
        go_wp2
        have m3 := put4 (z := #[.int .i64 0, .string ⟨#[]⟩, .int .i64 0, .int .i64 0]) (a0 := .int .i64 1) (a1 := .string (bs t)) (a2 := .int .i64 (v : Nat)) (a3 := .int .i64 0) M1.out
        have r3 := m3.raw_at (i := 0) rfl
        refine bodyPost_ret (results_cell_tmp (p := 2) (u := 3) rfl _ _ w.heap.size 25 #[.int .i64 1, .string (bs t), .int .i64 (v : Nat), .int .i64 0] (0, 0) _ rfl r3 Tryd.underlying25 rfl (by kernel_rfl)) rfl ?_
        exact ⟨tok_ret HR.out rfl, m3.below⟩
      | false =>
        have HR := Lib.hid (tok_badE (r := r) hl hg (by rw [ht]; exact hk))
        rw [numRes_no hk] at HN
        have HN := Lib.hid HN
        clear hl hg ht hk
        go_wp2_with (go_at_call 13; refine (HN.out).mono ?_; rintro e w3 ⟨rfl, b3⟩; refine Hid.out ?_)
        refine Lib.hid ?_
        have m1 := M1.out.fresh b3
        clear M1
        have M1 := Lib.hid (show OMem w w3 [.raw w.heap.size (.cells #[.int .i64 0, .string ⟨#[]⟩, .int .i64 0, .int .i64 0] 25 (0, 0))] from m1)
        clear m1 b3
        clear HN HE1
        have r2 := M1.out.raw_at (i := 0) rfl
        have g0 : (w3).cell? ⟨w.heap.size, 0, none⟩ = some (.int .i64 0) := by rw [Lib.cell_of_heap r2]; rfl
        have g1 : (w3).cell? ⟨w.heap.size, 1, none⟩ = some (.string ⟨#[]⟩) := by rw [Lib.cell_of_heap r2]; rfl
        have g2 : (w3).cell? ⟨w.heap.size, 2, none⟩ = some (.int .i64 0) := by rw [Lib.cell_of_heap r2]; rfl
        have g3 : (w3).cell? ⟨w.heap.size, 3, none⟩ = some (.int .i64 0) := by rw [Lib.cell_of_heap r2]; rfl
        have z0 : (w3).frozen? ⟨w.heap.size, 0, none⟩ = false := Lib.frozen_of_heap r2 0
        have z1 : (w3).frozen? ⟨w.heap.size, 1, none⟩ = false := Lib.frozen_of_heap r2 1
        have z2 : (w3).frozen? ⟨w.heap.size, 2, none⟩ = false := Lib.frozen_of_heap r2 2
        have z3 : (w3).frozen? ⟨w.heap.size, 3, none⟩ = false := Lib.frozen_of_heap r2 3
        clear r2
        go_wp2
        have m3 := put4 (z := #[.int .i64 0, .string ⟨#[]⟩, .int .i64 0, .int .i64 0]) (a0 := .int .i64 0) (a1 := .string (bs [])) (a2 := .int .i64 0) (a3 := .int .i64 0) M1.out
        have r3 := m3.raw_at (i := 0) rfl
        refine bodyPost_ret (results_cell_tmp (p := 2) (u := 3) rfl _ _ w.heap.size 25 #[.int .i64 0, .string (bs []), .int .i64 0, .int .i64 0] (0, 0) _ rfl r3 Tryd.underlying25 rfl (by kernel_rfl)) rfl ?_
        exact ⟨tok_ret HR.out rfl, m3.below⟩
    | false =>
      have HQ := Lib.hid (l_digit_of hg)
      have HL := Lib.hid hl
      have HG := Lib.hid hg
      clear hl hg
      go_wp2_with (go_at_call 35; refine (HQ.out _).mono ?_; rintro e w3 ⟨rfl, rfl⟩; refine Hid.out ?_)
      refine Lib.hid ?_
      clear HQ HLD HE1
      have e59 : ((c.toNat : Int) == 59) = (c == 59) := beq_n c 59
      by_cases h59 : c = 59
      · subst h59
        have HR := Lib.hid (tok_sign (r := r) (at_ := 0))
        clear e59
        have r2 := M1.out.raw_at (i := 0) rfl
        have g0 : (w2).cell? ⟨w.heap.size, 0, none⟩ = some (.int .i64 0) := by rw [Lib.cell_of_heap r2]; rfl
        have g1 : (w2).cell? ⟨w.heap.size, 1, none⟩ = some (.string ⟨#[]⟩) := by rw [Lib.cell_of_heap r2]; rfl
        have g2 : (w2).cell? ⟨w.heap.size, 2, none⟩ = some (.int .i64 0) := by rw [Lib.cell_of_heap r2]; rfl
        have g3 : (w2).cell? ⟨w.heap.size, 3, none⟩ = some (.int .i64 0) := by rw [Lib.cell_of_heap r2]; rfl
        have z0 : (w2).frozen? ⟨w.heap.size, 0, none⟩ = false := Lib.frozen_of_heap r2 0
        have z1 : (w2).frozen? ⟨w.heap.size, 1, none⟩ = false := Lib.frozen_of_heap r2 1
        have z2 : (w2).frozen? ⟨w.heap.size, 2, none⟩ = false := Lib.frozen_of_heap r2 2
        have z3 : (w2).frozen? ⟨w.heap.size, 3, none⟩ = false := Lib.frozen_of_heap r2 3
        clear r2
        go_wp2
        have m3 := put4 (z := #[.int .i64 0, .string ⟨#[]⟩, .int .i64 0, .int .i64 0]) (a0 := .int .i64 2) (a1 := .string (bs [59])) (a2 := .int .i64 0) (a3 := .int .i64 0) M1.out
        have r3 := m3.raw_at (i := 0) rfl
        refine bodyPost_ret (results_cell_tmp (p := 2) (u := 3) rfl _ _ w.heap.size 25 #[.int .i64 2, .string (bs [59]), .int .i64 0, .int .i64 0] (0, 0) _ rfl r3 Tryd.underlying25 rfl (by kernel_rfl)) rfl ?_
        exact ⟨tok_ret HR.out rfl, m3.below⟩
      · have HR := Lib.hid (tok_none (r := r) (at_ := 0) HL.out HG.out h59)
        rw [show (c == 59) = false by simpa using h59] at e59
        clear h59
        have r2 := M1.out.raw_at (i := 0) rfl
        have g0 : (w2).cell? ⟨w.heap.size, 0, none⟩ = some (.int .i64 0) := by rw [Lib.cell_of_heap r2]; rfl
        have g1 : (w2).cell? ⟨w.heap.size, 1, none⟩ = some (.string ⟨#[]⟩) := by rw [Lib.cell_of_heap r2]; rfl
        have g2 : (w2).cell? ⟨w.heap.size, 2, none⟩ = some (.int .i64 0) := by rw [Lib.cell_of_heap r2]; rfl
        have g3 : (w2).cell? ⟨w.heap.size, 3, none⟩ = some (.int .i64 0) := by rw [Lib.cell_of_heap r2]; rfl
        have z0 : (w2).frozen? ⟨w.heap.size, 0, none⟩ = false := Lib.frozen_of_heap r2 0
        have z1 : (w2).frozen? ⟨w.heap.size, 1, none⟩ = false := Lib.frozen_of_heap r2 1
        have z2 : (w2).frozen? ⟨w.heap.size, 2, none⟩ = false := Lib.frozen_of_heap r2 2
        have z3 : (w2).frozen? ⟨w.heap.size, 3, none⟩ = false := Lib.frozen_of_heap r2 3
        clear r2
        go_wp2
        have m3 := put4 (z := #[.int .i64 0, .string ⟨#[]⟩, .int .i64 0, .int .i64 0]) (a0 := .int .i64 0) (a1 := .string (bs [])) (a2 := .int .i64 0) (a3 := .int .i64 0) M1.out
        have r3 := m3.raw_at (i := 0) rfl
        refine bodyPost_ret (results_cell_tmp (p := 2) (u := 3) rfl _ _ w.heap.size 25 #[.int .i64 0, .string (bs []), .int .i64 0, .int .i64 0] (0, 0) _ rfl r3 Tryd.underlying25 rfl (by kernel_rfl)) rfl ?_
        exact ⟨tok_ret HR.out rfl, m3.below⟩
end
end Go.Proofs.YtenbdnkipkfpkaaDoor
