/- Package sat: decide. -/
import Derived.Test.YtapgcahbccchfaaZwb
import Derived.Test.YtapgcahbccchfaaOrd3
import Derived.Test.YtapgcahbccchfaaOrd7
import Derived.Deep.CutRange
namespace Go.Proofs.Ytapgcahbccchfaa
open Go.RowKit Go.Maps Go.ChangeMaps Go.MapKept
open St
attribute [local go_sem ↓] Go.wp_at_zero Go.wp_at_succ

/-- A whole row of truth values. -/
def WBool (w : World) (g : Nat) (R : List Bool) : Prop := w.heap[g]? = some (.cells (boVs R).toArray 4 (0, 0))
section
variable {w w' : World} {g : Nat} {R : List Bool}
theorem WBool.block (h : WBool w g R) (hb : w'.heap[g]? = w.heap[g]?) : WBool w' g R := hb.trans h
theorem WBool.lt (h : WBool w g R) : g < w.heap.size := by
  unfold WBool at h
  exact (Array.getElem?_eq_some_iff.1 h).1
theorem WBool.own (h : WBool w g R) (hn : R.length ≤ 100000) : w.ownsRow 0 4 1 (.slice (some ⟨g, 0, none⟩) R.length R.length) R.length (boVs R) :=
  ⟨by rw [boVs_length, Nat.mul_one], .inr ⟨g, R.length, _, rfl, Nat.zero_le _, h, Nat.le_refl _, by unfold maxLen; omega, by simp [boVs_length], by rw [Nat.mul_one, List.take_of_length_le (by simp [boVs_length])]⟩⟩
theorem WBool.of_own {xs : List Bool} {n : Nat} (h : w.ownsRow 0 4 1 (.slice (some ⟨g, 0, none⟩) n n) n (boVs xs)) : WBool w g xs := by
  rcases h.2 with ⟨q, _⟩ | ⟨g', cap, cur, e, _, hg, _, _, hs, ht⟩
  · cases q
  · cases e
    rw [List.take_of_length_le (by simp [hs])] at ht
    unfold WBool
    rw [hg, ← ht]
theorem WBool.bools (h : WBool w g R) (hn : R.length ≤ 100000) : BoolsAt w (.slice (some ⟨g, 0, none⟩) R.length R.length) R := BoolsAt.of_own (h.own hn)
theorem WBool.set (h : WBool w g R) (j : Nat) (z : Bool) : WBool (w.setCell ⟨g, j, none⟩ (.bool z)) g (R.set j z) := by
  unfold WBool at h ⊢
  rw [setCell_eq_setRow w g j _ 4 (0, 0) (.bool z) h]
  have := setRow_heap w g _ ((boVs R).toArray.setIfInBounds j (.bool z)) 4 (0, 0) h
  rw [this]
  simp [boVs, List.map_set]
theorem WBool.cell (h : WBool w g R) {j : Nat} {z : Bool} (hj : R[j]? = some z) : w.cell? ⟨g, j, none⟩ = some (.bool z) ∧ w.frozen? ⟨g, j, none⟩ = false := by
  unfold WBool at h
  have e : (boVs R).toArray[j]? = some (.bool z) := by simp [boVs, hj]
  constructor
  · simp only [World.cell?, h]; exact e
  · simp [World.frozen?, h]
end
theorem make_row (w : World) (n : Nat) (hn : n ≤ 100000) : ∃ w', (Instr.makeSlice 23 (.int .i64 (n : Int)) (.int .i64 (n : Int))).run Try.prog w = .ok (.slice (some ⟨w.heap.size, 0, none⟩) n n) w' ∧ WBool w' w.heap.size (List.replicate n false) ∧ w.grownBy w' none := by
  obtain ⟨w', r1, r2, r3⟩ := make_bools w n hn
  exact ⟨w', r1, WBool.of_own r2, r3⟩
/-- What decide leaves. -/
def Decides (w : World) (l : List Cl) (n : Nat) (e : Ending) (w' : World) : Prop :=
  (∃ g vs, e = .returned (.tuple #[.slice (some ⟨g, 0, none⟩) n n, .slice none 0 0]) ∧ BoolsAt w' (.slice (some ⟨g, 0, none⟩) n n) vs ∧ Fst l (n : Int) vs ∧ Below w.heap.size w w') ∨
  (∃ a m c cy, e = .returned (.tuple #[.slice none 0 0, .slice (some a) m c]) ∧ NumsAt w' (.slice (some a) m c) cy ∧ refute l (n : Int) cy = true ∧ Below w.heap.size w w')
/-- Two rows of truth values, new since w. -/
structure Two2 (w wx : World) (ga gk : Nat) (vs kn : List Bool) : Prop where
  a : WBool wx ga vs
  k : WBool wx gk kn
  ne : ga ≠ gk
  la : w.heap.size ≤ ga
  lk : w.heap.size ≤ gk
  below : Below w.heap.size w wx
theorem Two2.keep {w wx wy : World} {ga gk : Nat} {vs kn : List Bool} (h : Two2 w wx ga gk vs kn) (hb : Below wx.heap.size wx wy) : Two2 w wy ga gk vs kn :=
  ⟨h.a.block (hb.block ga h.a.lt), h.k.block (hb.block gk h.k.lt), h.ne, h.la, h.lk, h.below.trans (hb.mono h.below.size)⟩
theorem Two2.set {w wx : World} {ga gk : Nat} {vs kn : List Bool} (h : Two2 w wx ga gk vs kn) (j : Nat) (x y : Bool) :
    Two2 w ((wx.setCell ⟨gk, j, none⟩ (.bool x)).setCell ⟨ga, j, none⟩ (.bool y)) ga gk (vs.set j y) (kn.set j x) := by
  have g1 := grown_cell wx gk j (.bool x)
  have g2 := grown_cell (wx.setCell ⟨gk, j, none⟩ (.bool x)) ga j (.bool y)
  have hs := set_size wx ⟨gk, j, none⟩ (.bool x)
  have la := h.a.lt
  have lk := h.k.lt
  refine ⟨(h.a.block (g1.block ga la fun e => h.ne (Option.some.inj e))).set j y, (h.k.set j x).block (g2.block gk (by omega) fun e => h.ne (Option.some.inj e).symm), h.ne, h.la, h.lk, ?_⟩
  exact below_grown (below_grown h.below g1 fun z hz => by cases hz; exact h.lk) g2 fun z hz => by cases hz; exact h.la
set_option maxHeartbeats 8000000 in
set_option maxRecDepth 100000 in
theorem p_decide {w : World} {l : List Cl} {n mb : Nat} (hi : ImpAt w mb (fo l)) (hr : right l (n : Int) = true) (hll : l.length ≤ 2000) :
    Calls Try.prog 32 #[.map (some mb), .int .i64 (n : Int)] w (Decides w l n) := by
  have HI := Lib.hid hi
  have HRR := Lib.hid hr
  have hn := (right_iff.1 hr).1
  have hn4 : n ≤ 400 := by omega
  clear hi hr
  unfold Decides
  go_enter Try.func32, Try.ntmps32
  go_upto_region 1 with fail
  go_cut [6, 7] from 14 to 17 (fun a k wx => ∃ ga gk, a = .slice (some ⟨ga, 0, none⟩) n n ∧ k = .slice (some ⟨gk, 0, none⟩) n n ∧ Hid (Two2 w wx ga gk (List.replicate n false) (List.replicate n false)))
  case first =>
    have S0 : True := trivial
    refine region_till 5 (fun _ => True) (by kernel_rfl) ?_
    refine till_take 0 40 false (v := ?v0) (by kernel_rfl) (by kernel_rfl) (by kernel_rfl) (by kernel_rfl) (by kernel_rfl) (fun _ _ _ h => h) ?hw0 S0 ?hy0 ?rest0
    case hw0 => (simp only [List.getElem?_toArray, List.getElem?_cons_zero, Option.elim]; rfl)
    case hy0 => (simp only [List.getElem?_toArray, List.getElem?_cons_zero, Option.elim]; intro wx _; go_simp; with_reducible rfl)
    simp only [dstOf, List.getElem?_toArray, List.getElem?_cons_zero, Option.bind, Act.put, List.setIfInBounds_toArray, List.set_cons_zero, List.set_cons_succ]
    refine till_take 2 40 false (v := ?v2) (by kernel_rfl) (by kernel_rfl) (by kernel_rfl) (by kernel_rfl) (by kernel_rfl) (fun _ _ _ h => h) ?hw2 S0 ?hy2 ?rest2
    case hw2 => (simp only [List.getElem?_toArray, List.getElem?_cons_zero, List.getElem?_cons_succ, Option.elim]; rfl)
    case hy2 => (simp only [List.getElem?_toArray, List.getElem?_cons_zero, List.getElem?_cons_succ, Option.elim]; intro wx _; go_simp; with_reducible rfl)
    simp only [dstOf, List.getElem?_toArray, List.getElem?_cons_zero, List.getElem?_cons_succ, Option.bind, Act.put, List.setIfInBounds_toArray, List.set_cons_zero, List.set_cons_succ]
    refine till_split 1 3 (by kernel_rfl) ?_ ?_
    · intro K hK
      simp only [List.getElem?_toArray, List.getElem?_cons_zero, List.getElem?_cons_succ, Option.elim]
      rw [if_pos (by rfl)]
      obtain ⟨w3, r3, o3, g3⟩ := make_row w.drew n (by omega)
      have b3 := below_grown (below_drew w) g3 (fun x hx => by cases hx)
      have HO3 := Lib.hid o3
      have HB3 := Lib.hid b3
      clear o3 g3 b3
      go_simp
      refine hK.out _ _ (trivial) ?_
      clear hK K
      try simp only [Act.put, List.setIfInBounds_toArray, List.set_cons_zero, List.set_cons_succ]
      refine till_take 4 40 false (v := ?v4A) (by kernel_rfl) (by kernel_rfl) (by kernel_rfl) (by kernel_rfl) (by kernel_rfl) (fun _ _ _ h => h) ?hw4A S0 ?hy4A ?rest4A
      case hw4A => (simp only [List.getElem?_toArray, List.getElem?_cons_zero, List.getElem?_cons_succ, Option.elim]; rfl)
      case hy4A => (simp only [List.getElem?_toArray, List.getElem?_cons_zero, List.getElem?_cons_succ, Option.elim]; intro wx _; go_simp; with_reducible rfl)
      simp only [dstOf, List.getElem?_toArray, List.getElem?_cons_zero, List.getElem?_cons_succ, Option.bind, Act.put, List.setIfInBounds_toArray, List.set_cons_zero, List.set_cons_succ]
      refine till_before 3 (by kernel_rfl) (fun K hK => ?_)
      simp only [List.getElem?_toArray, List.getElem?_cons_zero, List.getElem?_cons_succ, Option.elim]
      rw [if_pos (by rfl)]
      obtain ⟨w4, r4, o4, g4⟩ := make_row w3 n (by omega)
      have HO4 := Lib.hid o4
      have HG4 := Lib.hid g4
      clear o4 g4
      go_simp
      refine hK.out _ _ (trivial) ?_
      clear hK K
      try simp only [Act.put, List.setIfInBounds_toArray, List.set_cons_zero, List.set_cons_succ]
      refine till_step 5 (by kernel_rfl) (by kernel_rfl) (fun K hK => ?_)
      simp only [List.getElem?_toArray, List.getElem?_cons_zero, List.getElem?_cons_succ, Option.elim]
      rw [if_pos (by rfl)]
      go_simp
      refine hK.out _ _ ?_
      clear hK K
      try simp only [Act.put, List.setIfInBounds_toArray, List.set_cons_zero, List.set_cons_succ]
      refine till_end (by kernel_rfl) ?_ _
      go_wp2
      go_meet
      have hlt : w.heap.size < w3.heap.size := HO3.out.lt
      have hb4 := below_grown HB3.out HG4.out (fun x hx => by cases hx)
      have ho3 := HO3.out.block (HG4.out.block _ hlt (fun e => by cases e))
      have hs4 := HB3.out.size
      exact ⟨_, _, rfl, rfl, Lib.hid ⟨ho3, HO4.out, Nat.ne_of_lt hlt, Nat.le_refl _, hs4, hb4⟩⟩
    · intro K hK
      simp only [List.getElem?_toArray, List.getElem?_cons_zero, List.getElem?_cons_succ, Option.elim]
      rw [if_pos (by rfl)]
      obtain ⟨w3, r3, o3, g3⟩ := make_row w.drew n (by omega)
      have b3 := below_grown (below_drew w) g3 (fun x hx => by cases hx)
      have HO3 := Lib.hid o3
      have HB3 := Lib.hid b3
      clear o3 g3 b3
      go_simp
      refine hK.out _ _ (trivial) ?_
      clear hK K
      try simp only [Act.put, List.setIfInBounds_toArray, List.set_cons_zero, List.set_cons_succ]
      refine till_before 1 (by kernel_rfl) (fun K hK => ?_)
      simp only [List.getElem?_toArray, List.getElem?_cons_zero, List.getElem?_cons_succ, Option.elim]
      rw [if_pos (by rfl)]
      obtain ⟨w4, r4, o4, g4⟩ := make_row w3 n (by omega)
      have HO4 := Lib.hid o4
      have HG4 := Lib.hid g4
      clear o4 g4
      go_simp
      refine hK.out _ _ (trivial) ?_
      clear hK K
      try simp only [Act.put, List.setIfInBounds_toArray, List.set_cons_zero, List.set_cons_succ]
      refine till_take 4 40 false (v := ?v4B) (by kernel_rfl) (by kernel_rfl) (by kernel_rfl) (by kernel_rfl) (by kernel_rfl) (fun _ _ _ h => h) ?hw4B S0 ?hy4B ?rest4B
      case hw4B => (simp only [List.getElem?_toArray, List.getElem?_cons_zero, List.getElem?_cons_succ, Option.elim]; rfl)
      case hy4B => (simp only [List.getElem?_toArray, List.getElem?_cons_zero, List.getElem?_cons_succ, Option.elim]; intro wx _; go_simp; with_reducible rfl)
      simp only [dstOf, List.getElem?_toArray, List.getElem?_cons_zero, List.getElem?_cons_succ, Option.bind, Act.put, List.setIfInBounds_toArray, List.set_cons_zero, List.set_cons_succ]
      refine till_step 5 (by kernel_rfl) (by kernel_rfl) (fun K hK => ?_)
      simp only [List.getElem?_toArray, List.getElem?_cons_zero, List.getElem?_cons_succ, Option.elim]
      rw [if_pos (by rfl)]
      go_simp
      refine hK.out _ _ ?_
      clear hK K
      try simp only [Act.put, List.setIfInBounds_toArray, List.set_cons_zero, List.set_cons_succ]
      refine till_end (by kernel_rfl) ?_ _
      go_wp2
      go_meet
      have hlt : w.heap.size < w3.heap.size := HO3.out.lt
      have hb4 := below_grown HB3.out HG4.out (fun x hx => by cases hx)
      have ho3 := HO3.out.block (HG4.out.block _ hlt (fun e => by cases e))
      have hs4 := HB3.out.size
      exact ⟨_, _, rfl, rfl, Lib.hid ⟨HO4.out, ho3, Nat.ne_of_gt hlt, hs4, Nat.le_refl _, hb4⟩⟩
  case rest =>
    obtain ⟨ga, gk, rfl, rfl, H2⟩ := hcut
    generalize wc = w1 at H2 ⊢
    go_wp2
    go_loopw [19] (fun i wr => ∃ (k : Nat) (kn vs : List Bool), k ≤ n ∧ i = .int .i64 k ∧ Hid (Dcd l n k kn vs) ∧ Hid (Two2 w wr ga gk vs kn)) (fun i _ => n - (RowKit.intOf i).toNat)
    case atStart => exact ⟨0, _, _, Nat.zero_le _, rfl, Lib.hid (dcd_start l n), H2⟩
    case round =>
      clear H2
      obtain ⟨k, kn, vs, hk, rfl, HD, H2⟩ := hrel
      by_cases hlt : k < n
      · have hkl := HD.out.lk
        obtain ⟨b, hb⟩ : ∃ b, kn[k]? = some b := ⟨_, List.getElem?_eq_getElem (by omega)⟩
        have c0 := (H2.out.k.cell hb).1
        cases b with
        | true =>
          have HD2 := Lib.hid (HD.out.skip (getD_at hb))
          clear hb hkl
          go_wp2
          go_roundw
          case rel => exact ⟨k + 1, kn, vs, by omega, by go_num, HD2, H2⟩
          case measure => (simp [RowKit.intOf]; try omega)
        | false =>
          have hkf := getD_at hb
          have HKF := Lib.hid hkf
          have e1 : opp (2 * (k : Int)) = 2 * (k : Int) + 1 := by unfold opp; omega
          have e2 : opp (2 * (k : Int) + 1) = 2 * (k : Int) := by unfold opp; omega
          have E1 := Lib.hid e1
          have E2 := Lib.hid e2
          have HIr := Lib.hid (HI.out.keep H2.out.below)
          have HS1 := Lib.hid (p_search (first := 2 * (k : Int) + 1) HIr.out HRR.out hll (by omega))
          clear hb hkl e1 e2
          go_wp2_with (go_at_call 34; refine (HS1.out).mono ?_; rintro e w2 ⟨g1, T1, rfl, r1, f1, b1, hg1⟩; refine Hid.out ?_)
          refine Lib.hid ?_
          have F1 := Lib.hid f1
          have R1 := Lib.hid r1
          have HB1 := Lib.hid b1
          have H3 := Lib.hid (H2.out.keep b1)
          have HIr2 := Lib.hid (HIr.out.keep b1)
          have HGA := Lib.hid (show ga ≠ g1 ∧ gk ≠ g1 from ⟨by have := H2.out.a.lt; omega, by have := H2.out.k.lt; omega⟩)
          obtain ⟨p, hp, hpr⟩ := f1.has (x := 2 * k) (by omega)
          have hTl := f1.len
          have HH := p_has (x := 2 * (k : Int)) (p := p) (T := T1) (t := .slice (some ⟨g1, 0, none⟩) (2 * n) (2 * n)) (by rw [← hTl]; exact r1.nums (by omega)) (by omega) (by omega) (by rw [← hp]; congr 1)
          clear hp hTl r1 f1 b1 HS1
          by_cases hr1 : St.Reach l (2 * (k : Int) + 1) (2 * (k : Int))
          · rw [decide_eq_true (hpr.2 (by rw [show ((2 * k : Nat) : Int) = 2 * (k : Int) by omega]; exact hr1))] at HH
            have HH := Lib.hid HH
            have HR1 := Lib.hid hr1
            clear hr1 hpr hkf
            go_wp2_with (go_at_call 35; refine (HH.out).mono ?_; rintro e w3 ⟨rfl, rfl⟩; refine Hid.out ?_)
            refine Lib.hid ?_
            have HS2 := Lib.hid (p_search (first := 2 * (k : Int)) HIr2.out HRR.out hll (by omega))
            clear HH
            go_wp2_with (go_at_call 34; refine (HS2.out).mono ?_; rintro e w4 ⟨g2, T2, rfl, r2, f2, b2, hg2⟩; refine Hid.out ?_)
            refine Lib.hid ?_
            have F2 := Lib.hid f2
            have R2 := Lib.hid r2
            have H4 := Lib.hid (H3.out.keep b2)
            have R1b := Lib.hid (R1.out.block (b2.block _ R1.out.lt))
            have HGA := Lib.hid (show ga ≠ g2 ∧ gk ≠ g2 from ⟨by have := H3.out.a.lt; omega, by have := H3.out.k.lt; omega⟩)
            obtain ⟨p, hp, hpr⟩ := f2.has (x := 2 * k + 1) (by omega)
            have hTl := f2.len
            have HH := p_has (x := 2 * (k : Int) + 1) (p := p) (T := T2) (t := .slice (some ⟨g2, 0, none⟩) (2 * n) (2 * n)) (by rw [← hTl]; exact r2.nums (by omega)) (by omega) (by omega) (by rw [← hp]; congr 1)
            clear hp hTl r2 f2 b2 HS2
            by_cases hr2 : St.Reach l (2 * (k : Int)) (2 * (k : Int) + 1)
            · rw [decide_eq_true (hpr.2 (by rw [show ((2 * k + 1 : Nat) : Int) = 2 * (k : Int) + 1 by omega]; exact hr2))] at HH
              have HH := Lib.hid HH
              have HR2 := Lib.hid hr2
              clear hr2 hpr
              go_wp2_with (go_at_call 35; refine (HH.out).mono ?_; rintro e w5 ⟨rfl, rfl⟩; refine Hid.out ?_)
              refine Lib.hid ?_
              obtain ⟨O2, ht2, hs2⟩ := F2.out
              have hx2 := (found_mem ht2 hs2).2 HR2.out
              have hl2 := ht2.len
              have HW2 := p_way (t := .slice (some ⟨g2, 0, none⟩) (2 * n) (2 * n)) (w := w5) (by rw [← hl2]; exact R2.out.nums (by omega)) ht2 hx2 (by omega) hn4
              have HW2 := Lib.hid HW2
              clear ht2 hs2 hx2 hl2 HH
              go_wp2_with (go_at_call 37; refine (HW2.out).mono ?_; rintro e w6 ⟨a6, c6, q6, rfl, o6, path6, len6, b6, own6⟩; refine Hid.out ?_)
              refine Lib.hid ?_
              obtain ⟨O1, ht1, hs1⟩ := F1.out
              have hx1 := (found_mem ht1 hs1).2 HR1.out
              have hl1 := ht1.len
              have HW1 := p_way (t := .slice (some ⟨g1, 0, none⟩) (2 * n) (2 * n)) (w := w6) (by rw [← hl1]; exact (R1b.out.block (b6.block _ R1b.out.lt)).nums (by omega)) ht1 hx1 (by omega) hn4
              have HW1 := Lib.hid HW1
              have HO6 := Lib.hid o6
              have HB6 := Lib.hid b6
              have HP6 := Lib.hid path6
              have HOW6 := Lib.hid own6
              clear ht1 hs1 hx1 hl1 HW2 o6 b6 path6 own6
              go_wp2_with (go_at_call 37; refine (HW1.out).mono ?_; rintro e w7 ⟨a7, c7, q7, rfl, o7, path7, len7, b7, own7⟩; refine Hid.out ?_)
              refine Lib.hid ?_
              have HP7 := Lib.hid path7
              have ho67 := ownsRow_block (w' := w7) HO6.out fun x hx => b7.block x (HO6.out.lt x hx).2
              have HC := run_pushN w7 (.slice a6 (q6.length + 1) c6) (.slice a7 (q7.length + 1) c7) (2 * (k : Int) :: q6) ((2 * (k : Int) + 1) :: q7) (by simpa using ho67) (NumsAt.of_own (by simpa using o7)) (by simp; omega)
              obtain ⟨a8, c8, w8, r8, o8, gr8, hloc8⟩ := HC
              simp only [List.length_cons] at r8 o8
              obtain ⟨g8, c8', e8⟩ := own_some o8 (by omega)
              cases e8
              have HREF := Lib.hid (refute_two (x := 2 * (k : Int)) (p := q6) (q := q7) HRR.out (by rw [E1.out]; exact HP6.out) (by rw [E1.out]; exact HP7.out) (by omega))
              rw [E1.out] at HREF
              have RA := Lib.hid r8
              have HN8 := Lib.hid (NumsAt.of_own o8)
              have HB8 := Lib.hid (show Below w.heap.size w w8 from by
                have hs5 := H4.out.below.size
                have h1 := H4.out.below.trans (HB6.out.mono hs5)
                have h2 := h1.trans (b7.mono (by have := HB6.out.size; omega))
                exact below_grown h2 gr8 fun x hx => by have := HOW6.out x hx; omega)
              clear r8 o8 gr8 hloc8 ho67 o7 path7 b7 own7
              go_wp2_with (at_builtin; refine Hid.out ?_)
              refine Lib.hid ?_
              refine Lib.wpList_append_run _ rfl _ _ _ _ rfl _ _ rfl rfl _ _ RA.out ?_
              go_wp2
              go_ret2
              exact .inr ⟨_, _, _, _, rfl, HN8.out, HREF.out, HB8.out⟩
            · rw [decide_eq_false (fun h => hr2 (by have := hpr.1 h; rwa [show ((2 * k + 1 : Nat) : Int) = 2 * (k : Int) + 1 by omega] at this))] at HH
              have HH := Lib.hid HH
              have HZ := Lib.hid (show ¬ St.Reach l (2 * (k : Int)) (opp (2 * (k : Int))) by rw [E1.out]; exact hr2)
              have hkf := HKF.out
              clear hr2 hpr
              go_wp2_with (go_at_call 35; refine (HH.out).mono ?_; rintro e w5 ⟨rfl, rfl⟩; refine Hid.out ?_)
              refine Lib.hid ?_
              clear HH
              have HAP := Lib.hid (HD.out.apart (z := 2 * (k : Int)) hkf (by omega) HZ.out)
              have HRW := Lib.hid R2.out
              clear hkf
              go_wp2
              go_loopw [55] (fun i wx => ∃ (m : Nat) (kn2 vs2 : List Bool), m ≤ 2 * n ∧ i = .int .i64 m ∧ Hid (Mk l n (2 * (k : Int)) kn vs m kn2 vs2) ∧ Hid (Two2 w wx ga gk vs2 kn2) ∧ Hid (WRow wx g2 T2)) (fun i _ => 2 * n - (RowKit.intOf i).toNat)
              case atStart => exact ⟨0, kn, vs, Nat.zero_le _, rfl, Lib.hid (mk_start HD.out.lk HD.out.lv), H4, HRW⟩
              case round =>
                clear HRW
                obtain ⟨m, kn2, vs2, hm, rfl, HM, H4, HRW⟩ := hrel
                by_cases hml : m < 2 * n
                · obtain ⟨p, hp, hpr⟩ := F2.out.has hml
                  have hTl := F2.out.len
                  have HH := p_has (x := (m : Int)) (p := p) (T := T2) (t := .slice (some ⟨g2, 0, none⟩) (2 * n) (2 * n)) (by rw [← hTl]; exact HRW.out.nums (by omega)) (by omega) (by omega) (by simpa using hp)
                  clear hp hTl
                  by_cases hrm : St.Reach l (2 * (k : Int)) (m : Int)
                  · rw [decide_eq_true (hpr.2 hrm)] at HH
                    have HH := Lib.hid HH
                    have HM2 := Lib.hid (HM.out.take (fun x h1 h2 => HAP.out.2 x (.inr h1) (.inr h2)) hrm hml)
                    have H5 := Lib.hid (H4.out.set (m / 2) true (decide (m % 2 = 0)))
                    have HRX := Lib.hid (HRW.out.block (w' := (wr.setCell ⟨gk, m / 2, none⟩ (.bool true)).setCell ⟨ga, m / 2, none⟩ (.bool (decide (m % 2 = 0)))) (by
                      rw [set_other (fun e => HGA.out.1 e.symm), set_other (fun e => HGA.out.2 e.symm)]))
                    have hdv : ((m : Int)).tdiv 2 = ((m / 2 : Nat) : Int) := by rw [Int.tdiv_eq_ediv_of_nonneg (by omega)]; omega
                    have hmj : m / 2 < n := by omega
                    have hkl := HM.out.lk
                    have hvl := HM.out.lv
                    obtain ⟨b1, hb1⟩ : ∃ b, kn2[m / 2]? = some b := ⟨_, List.getElem?_eq_getElem (by omega)⟩
                    obtain ⟨b2, hb2⟩ : ∃ b, vs2[m / 2]? = some b := ⟨_, List.getElem?_eq_getElem (by omega)⟩
                    have k0 := (H4.out.k.cell hb1).1
                    have k1 := (H4.out.k.cell hb1).2
                    have a0 := (H4.out.a.cell hb2).1
                    have a1 := (H4.out.a.cell hb2).2
                    have hne := H4.out.ne
                    clear hb1 hb2 hkl hvl hrm hpr
                    generalize hq : m / 2 = q at *
                    by_cases hpar : m % 2 = 0
                    · have htm : ((m : Int)).tmod 2 = 0 := by rw [Int.tmod_eq_emod_of_nonneg (by omega)]; omega
                      rw [decide_eq_true hpar] at HM2 H5 HRX
                      clear hpar hq
                      go_wp2_with (go_at_call 35; refine (HH.out).mono ?_; rintro e w5 ⟨rfl, rfl⟩; refine Hid.out ?_)
                      refine Lib.hid ?_
                      go_wp2
                      go_roundw
                      case rel => exact ⟨m + 1, _, _, by omega, by go_num, HM2, H5, HRX⟩
                      case measure => (simp [RowKit.intOf]; try omega)
                    · have htm : ((m : Int)).tmod 2 = 1 := by rw [Int.tmod_eq_emod_of_nonneg (by omega)]; omega
                      rw [decide_eq_false hpar] at HM2 H5 HRX
                      clear hpar hq
                      go_wp2_with (go_at_call 35; refine (HH.out).mono ?_; rintro e w5 ⟨rfl, rfl⟩; refine Hid.out ?_)
                      refine Lib.hid ?_
                      go_wp2
                      go_roundw
                      case rel => exact ⟨m + 1, _, _, by omega, by go_num, HM2, H5, HRX⟩
                      case measure => (simp [RowKit.intOf]; try omega)
                  · rw [decide_eq_false (fun h => hrm (hpr.1 h))] at HH
                    have HH := Lib.hid HH
                    have HM2 := Lib.hid (HM.out.skip hrm)
                    clear hrm hpr
                    go_wp2_with (go_at_call 35; refine (HH.out).mono ?_; rintro e w5 ⟨rfl, rfl⟩; refine Hid.out ?_)
                    refine Lib.hid ?_
                    go_wp2
                    go_roundw
                    case rel => exact ⟨m + 1, kn2, vs2, by omega, by go_num, HM2, H4, HRW⟩
                    case measure => (simp [RowKit.intOf]; try omega)
                · obtain rfl : m = 2 * n := by omega
                  have HD2 := Lib.hid (HD.out.take HRR.out hlt HKF.out (by omega) HZ.out (fun _ => HR1.out) HM.out)
                  clear HM
                  go_wp2
                  go_roundw
                  case rel => exact ⟨k + 1, kn2, vs2, by omega, by go_num, HD2, H4⟩
                  case measure => (simp [RowKit.intOf]; try omega)
          · rw [decide_eq_false (fun h => hr1 (by have := hpr.1 h; rwa [show ((2 * k : Nat) : Int) = 2 * (k : Int) by omega] at this))] at HH
            have HH := Lib.hid HH
            have HZ := Lib.hid (show ¬ St.Reach l (2 * (k : Int) + 1) (opp (2 * (k : Int) + 1)) by rw [E2.out]; exact hr1)
            clear hr1 hpr
            go_wp2_with (go_at_call 35; refine (HH.out).mono ?_; rintro e w5 ⟨rfl, rfl⟩; refine Hid.out ?_)
            refine Lib.hid ?_
            clear HH
            have HAP := Lib.hid (HD.out.apart (z := 2 * (k : Int) + 1) hkf (by omega) HZ.out)
            have HRW := Lib.hid R1.out
            clear hkf
            go_wp2
            go_loopw [55] (fun i wx => ∃ (m : Nat) (kn2 vs2 : List Bool), m ≤ 2 * n ∧ i = .int .i64 m ∧ Hid (Mk l n (2 * (k : Int) + 1) kn vs m kn2 vs2) ∧ Hid (Two2 w wx ga gk vs2 kn2) ∧ Hid (WRow wx g1 T1)) (fun i _ => 2 * n - (RowKit.intOf i).toNat)
            case atStart => exact ⟨0, kn, vs, Nat.zero_le _, rfl, Lib.hid (mk_start HD.out.lk HD.out.lv), H3, HRW⟩
            case round =>
              clear HRW
              obtain ⟨m, kn2, vs2, hm, rfl, HM, H4, HRW⟩ := hrel
              by_cases hml : m < 2 * n
              · obtain ⟨p, hp, hpr⟩ := F1.out.has hml
                have hTl := F1.out.len
                have HH := p_has (x := (m : Int)) (p := p) (T := T1) (t := .slice (some ⟨g1, 0, none⟩) (2 * n) (2 * n)) (by rw [← hTl]; exact HRW.out.nums (by omega)) (by omega) (by omega) (by simpa using hp)
                clear hp hTl
                by_cases hrm : St.Reach l (2 * (k : Int) + 1) (m : Int)
                · rw [decide_eq_true (hpr.2 hrm)] at HH
                  have HH := Lib.hid HH
                  have HM2 := Lib.hid (HM.out.take (fun x h1 h2 => HAP.out.2 x (.inr h1) (.inr h2)) hrm hml)
                  have H5 := Lib.hid (H4.out.set (m / 2) true (decide (m % 2 = 0)))
                  have HRX := Lib.hid (HRW.out.block (w' := (wr.setCell ⟨gk, m / 2, none⟩ (.bool true)).setCell ⟨ga, m / 2, none⟩ (.bool (decide (m % 2 = 0)))) (by
                    rw [set_other (fun e => HGA.out.1 e.symm), set_other (fun e => HGA.out.2 e.symm)]))
                  have hdv : ((m : Int)).tdiv 2 = ((m / 2 : Nat) : Int) := by rw [Int.tdiv_eq_ediv_of_nonneg (by omega)]; omega
                  have hmj : m / 2 < n := by omega
                  have hkl := HM.out.lk
                  have hvl := HM.out.lv
                  obtain ⟨b1, hb1⟩ : ∃ b, kn2[m / 2]? = some b := ⟨_, List.getElem?_eq_getElem (by omega)⟩
                  obtain ⟨b2, hb2⟩ : ∃ b, vs2[m / 2]? = some b := ⟨_, List.getElem?_eq_getElem (by omega)⟩
                  have k0 := (H4.out.k.cell hb1).1
                  have k1 := (H4.out.k.cell hb1).2
                  have a0 := (H4.out.a.cell hb2).1
                  have a1 := (H4.out.a.cell hb2).2
                  have hne := H4.out.ne
                  clear hb1 hb2 hkl hvl hrm hpr
                  generalize hq : m / 2 = q at *
                  by_cases hpar : m % 2 = 0
                  · have htm : ((m : Int)).tmod 2 = 0 := by rw [Int.tmod_eq_emod_of_nonneg (by omega)]; omega
                    rw [decide_eq_true hpar] at HM2 H5 HRX
                    clear hpar hq
                    go_wp2_with (go_at_call 35; refine (HH.out).mono ?_; rintro e w5 ⟨rfl, rfl⟩; refine Hid.out ?_)
                    refine Lib.hid ?_
                    go_wp2
                    go_roundw
                    case rel => exact ⟨m + 1, _, _, by omega, by go_num, HM2, H5, HRX⟩
                    case measure => (simp [RowKit.intOf]; try omega)
                  · have htm : ((m : Int)).tmod 2 = 1 := by rw [Int.tmod_eq_emod_of_nonneg (by omega)]; omega
                    rw [decide_eq_false hpar] at HM2 H5 HRX
                    clear hpar hq
                    go_wp2_with (go_at_call 35; refine (HH.out).mono ?_; rintro e w5 ⟨rfl, rfl⟩; refine Hid.out ?_)
                    refine Lib.hid ?_
                    go_wp2
                    go_roundw
                    case rel => exact ⟨m + 1, _, _, by omega, by go_num, HM2, H5, HRX⟩
                    case measure => (simp [RowKit.intOf]; try omega)
                · rw [decide_eq_false (fun h => hrm (hpr.1 h))] at HH
                  have HH := Lib.hid HH
                  have HM2 := Lib.hid (HM.out.skip hrm)
                  clear hrm hpr
                  go_wp2_with (go_at_call 35; refine (HH.out).mono ?_; rintro e w5 ⟨rfl, rfl⟩; refine Hid.out ?_)
                  refine Lib.hid ?_
                  go_wp2
                  go_roundw
                  case rel => exact ⟨m + 1, kn2, vs2, by omega, by go_num, HM2, H4, HRW⟩
                  case measure => (simp [RowKit.intOf]; try omega)
              · obtain rfl : m = 2 * n := by omega
                have HD2 := Lib.hid (HD.out.take HRR.out hlt HKF.out (by omega) HZ.out (fun h => absurd h (by omega)) HM.out)
                clear HM
                go_wp2
                go_roundw
                case rel => exact ⟨k + 1, kn2, vs2, by omega, by go_num, HD2, H4⟩
                case measure => (simp [RowKit.intOf]; try omega)
      · obtain rfl : k = n := by omega
        have HF := Lib.hid (HD.out.done HRR.out)
        have HV := Lib.hid (show BoolsAt wr (.slice (some ⟨ga, 0, none⟩) k k) vs by have := H2.out.a.bools (by rw [HD.out.lv]; omega); rwa [HD.out.lv] at this)
        go_wp2
        go_ret2
        exact .inl ⟨ga, vs, rfl, HV.out, HF.out, H2.out.below⟩
end Go.Proofs.Ytapgcahbccchfaa
