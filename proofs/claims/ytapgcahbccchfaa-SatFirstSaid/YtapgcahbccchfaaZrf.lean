/- Package sat: Refute. -/
import Derived.Test.YtapgcahbccchfaaZmp
namespace Go.Proofs.Ytapgcahbccchfaa
open Go.RowKit Go.Maps Go.ChangeMaps Go.MapKept
open St
attribute [local go_sem ↓] Go.wp_at_zero Go.wp_at_succ

theorem refute_r {l : List Cl} {n : Int} {cy : List Int} (h : right l n = false) : refute l n cy = false := by unfold refute; rw [h]; rfl
theorem refute_long {l : List Cl} {n : Int} {cy : List Int} (h : ¬ (cy.length : Int) ≤ 4 * n) : refute l n cy = false := by
  unfold refute; rw [decide_eq_false (show ¬ (1 ≤ cy.length ∧ (cy.length : Int) ≤ 4 * n) from fun q => h q.2)]; simp
theorem refute_ring {l : List Cl} {n : Int} {cy : List Int} {k : Nat} {x z : Int} (hk : k < cy.length) (hx : cy[k]? = some x) (hz : cy[(k + 1) % cy.length]? = some z) (h : impl l x z = false) : refute l n cy = false := by
  have : ring l cy = false := by
    cases hr : ring l cy with
    | false => rfl
    | true =>
      unfold ring at hr
      rw [List.all_eq_true] at hr
      have := hr k (List.mem_range.2 hk)
      rw [List.getD_eq_getElem?_getD, List.getD_eq_getElem?_getD, hx, hz] at this
      simp only [Option.getD_some] at this
      rw [h] at this; cases this
  unfold refute; rw [this]; simp
/-- The first k imply the next ones. -/
def Rg (l : List Cl) (cy : List Int) (k : Nat) : Prop := ∀ i, i < k → impl l (cy.getD i 0) (cy.getD ((i + 1) % cy.length) 0) = true
theorem Rg.step {l : List Cl} {cy : List Int} {k : Nat} (h : Rg l cy k) {x z : Int} (hx : cy[k]? = some x) (hz : cy[(k + 1) % cy.length]? = some z) (hi : impl l x z = true) : Rg l cy (k + 1) := fun i hi' => by
  rcases Nat.lt_or_ge i k with q | q
  · exact h i q
  · rw [show i = k by omega, List.getD_eq_getElem?_getD, List.getD_eq_getElem?_getD, hx, hz]; exact hi
def Bo (cy : List Int) (k : Nat) : Bool := (cy.take k).any fun x => cy.contains (opp x)
theorem bo_step {cy : List Int} {k : Nat} {x : Int} (hx : cy[k]? = some x) : Bo cy (k + 1) = (Bo cy k || cy.contains (opp x)) := by
  unfold Bo; rw [List.take_add_one, hx, List.any_append]; simp
theorem refute_end {l : List Cl} {n : Int} {cy : List Int} (hr : right l n = true) (hl : (cy.length : Int) ≤ 4 * n) (h : Rg l cy cy.length) : refute l n cy = Bo cy cy.length := by
  have hring : ring l cy = true := by unfold ring; rw [List.all_eq_true]; exact fun i hi => h i (List.mem_range.1 hi)
  have hb : Bo cy cy.length = both cy := by unfold Bo both; rw [List.take_length]
  rw [hb]
  unfold refute
  rw [hr, hring]
  by_cases h0 : cy = []
  · subst h0; simp [both]
  · have h1 : 0 < cy.length := List.length_pos_iff.2 h0
    have hlit : lits n cy = true := lits_iff.2 fun x hx => by
      obtain ⟨i, hi, rfl⟩ := getD_of (d := 0) hx
      exact (impl_lit hr (h i hi)).2
    rw [hlit, decide_eq_true (show 1 ≤ cy.length ∧ (cy.length : Int) ≤ 4 * n from ⟨h1, hl⟩)]; simp
section
variable {w : World}
set_option maxHeartbeats 2000000 in
set_option maxRecDepth 100000 in
theorem p_refute {v u : Value} {l : List Cl} {n : Int} {cy : List Int} (hv : ClAt w v l) (hl : l.length ≤ 2000) (hu : NumsAt w u cy) (hcy : cy.length ≤ 10000) :
    Calls Try.prog 13 #[v, .int .i64 n, u] w (Reads w (.bool (refute l n cy))) := by
  have HV := Lib.hid hv
  have HU := Lib.hid hu
  have HQ := p_right (n := n) hv (by omega)
  obtain ⟨a, cap, hva⟩ := hv.slice
  subst hva
  obtain ⟨ua, uc, hua⟩ := hu.slice
  subst hua
  clear hu hv
  unfold Reads
  go_enter Try.func13, Try.ntmps13
  cases hr : right l n with
  | false =>
    have HR := Lib.hid (refute_r (cy := cy) hr)
    rw [hr] at HQ
    have HQ := Lib.hid HQ
    clear hr
    go_wp2_with (go_at_call 9; refine (HQ.out).mono ?_; rintro e w2 ⟨rfl, b2⟩; refine Hid.out ?_)
    refine Lib.hid ?_
    have HB := Lib.hid b2
    go_wp2
    go_ret
    exact ⟨ret_bool HR.out.symm, HB.out⟩
  | true =>
    have HRI := Lib.hid hr
    have hri := right_iff.1 hr
    have hn := hri.1
    have hin := Lib.hid hri.2.2
    rw [hr] at HQ
    have HQ := Lib.hid HQ
    clear hr hri
    go_wp2_with (go_at_call 9; refine (HQ.out).mono ?_; rintro e w2 ⟨rfl, b2⟩; refine Hid.out ?_)
    refine Lib.hid ?_
    have HB := Lib.hid b2
    by_cases hlen : (cy.length : Int) ≤ 4 * n
    · have HI := Lib.hid (p_impl (HV.out.keep b2) hl hn.2 hin.out)
      clear b2 HQ
      go_wp2_with (go_at_call 26; refine (HI.out).mono ?_; rintro e w3 ⟨mb, rfl, him, b3⟩; refine Hid.out ?_)
      refine Lib.hid ?_
      have HB2 := Lib.hid (HB.out.trans (b3.mono HB.out.size))
      have HU2 := Lib.hid (HU.out.keep HB2.out)
      have HIM := Lib.hid him
      clear HI b3 him HB
      go_wp2
      go_loopw [8, 27] (fun o i wr => ∃ (k : Nat) (ob : Bool), k ≤ cy.length ∧ i = .int .i64 k ∧ o = .bool ob ∧ Hid (Rg l cy k) ∧ Hid (ob = Bo cy k) ∧ Hid (Below w3.heap.size w3 wr)) (fun _ i _ => cy.length - (RowKit.intOf i).toNat)
      case atStart => exact ⟨0, false, Nat.zero_le _, rfl, rfl, Lib.hid (fun i hi => by omega), Lib.hid rfl, Lib.hid (Below.refl _ _)⟩
      case round =>
        obtain ⟨k, ob, hk, rfl, rfl, HT, HO, HBr⟩ := hrel
        have HB := Lib.hid (show Below w.heap.size w wr from HB2.out.trans (HBr.out.mono HB2.out.size))
        by_cases hlt : k < cy.length
        · obtain ⟨x, hx⟩ : ∃ x, cy[k]? = some x := ⟨_, List.getElem?_eq_getElem hlt⟩
          have hml := Nat.mod_lt (k + 1) (show 0 < cy.length by omega)
          obtain ⟨z, hz⟩ : ∃ z, cy[(k + 1) % cy.length]? = some z := ⟨_, List.getElem?_eq_getElem hml⟩
          have hmm : ((k : Int) + 1).tmod (cy.length : Int) = (((k + 1) % cy.length : Nat) : Int) := by rw [Int.tmod_eq_emod_of_nonneg (by omega), Int.natCast_emod]; rfl
          have HUr := Lib.hid (HU2.out.keep HBr.out)
          obtain ⟨b, off, cap', h1, _, hc⟩ := HUr.out.form (by omega)
          cases h1
          have c0 := hc k x hx
          have c1 := hc _ z hz
          have HXK := Lib.hid hx
          have HZK := Lib.hid hz
          generalize hq : (k + 1) % cy.length = q at hml hmm c1
          have HQQ := Lib.hid hq
          obtain ⟨lv, hlook, hnum⟩ := (HIM.out.keep HBr.out).look x
          have HN := Lib.hid (p_contains hnum (by have := fo_len l x; omega) z)
          clear hc hx hz hq hnum
          cases hcon : (fo l x).contains z with
          | false =>
            have hni : impl l x z = false := by
              cases hi : impl l x z with
              | false => rfl
              | true => rw [← List.contains_iff_mem.2 (fo_mem.2 hi)]; exact hcon.symm ▸ rfl
            have HR := Lib.hid (refute_ring (n := n) hlt HXK.out (by rw [HZK.out]) hni)
            rw [hcon] at HN
            clear hcon hni
            go_wp2_with (go_at_call 27; refine (HN.out).mono ?_; rintro e w4 ⟨rfl, rfl⟩; refine Hid.out ?_)
            refine Lib.hid ?_
            go_wp2
            go_ret
            exact ⟨ret_bool HR.out.symm, HB.out⟩
          | true =>
            have hi := fo_mem.1 (List.contains_iff_mem.1 hcon)
            have HT2 := Lib.hid (HT.out.step HXK.out HZK.out hi)
            have hxl := (impl_lit HRI.out hi).2
            have HP := Lib.hid (p_opp (x := x) (by omega))
            have HC2 := p_contains HUr.out (by omega) (opp x)
            rw [hcon] at HN
            clear hcon hi
            cases ob with
            | true =>
              have HO2 := Lib.hid (show true = Bo cy (k + 1) by rw [bo_step HXK.out, ← HO.out]; rfl)
              clear HC2
              go_wp2_with (go_at_call 27; refine (HN.out).mono ?_; rintro e w4 ⟨rfl, rfl⟩; refine Hid.out ?_)
              refine Lib.hid ?_
              go_wp2
              go_roundw
              case rel => exact ⟨k + 1, true, by omega, by go_num, rfl, HT2, HO2, HBr⟩
              case measure => (simp [RowKit.intOf]; try omega)
            | false =>
              cases hob : cy.contains (opp x) with
              | true =>
                have HO2 := Lib.hid (show true = Bo cy (k + 1) by rw [bo_step HXK.out, hob]; simp)
                rw [hob] at HC2
                have HC2 := Lib.hid HC2
                clear hob
                go_wp2_with (go_at_call 27; refine (HN.out).mono ?_; rintro e w4 ⟨rfl, rfl⟩; refine Hid.out ?_)
                refine Lib.hid ?_
                go_wp2_with (go_at_call 28; refine (HP.out _).mono ?_; rintro e w4 ⟨rfl, rfl⟩; refine Hid.out ?_)
                refine Lib.hid ?_
                go_wp2_with (go_at_call 27; refine (HC2.out).mono ?_; rintro e w4 ⟨rfl, rfl⟩; refine Hid.out ?_)
                refine Lib.hid ?_
                go_wp2
                go_roundw
                case rel => exact ⟨k + 1, true, by omega, by go_num, rfl, HT2, HO2, HBr⟩
                case measure => (simp [RowKit.intOf]; try omega)
              | false =>
                have HO2 := Lib.hid (show false = Bo cy (k + 1) by rw [bo_step HXK.out, hob, ← HO.out]; rfl)
                rw [hob] at HC2
                have HC2 := Lib.hid HC2
                clear hob
                go_wp2_with (go_at_call 27; refine (HN.out).mono ?_; rintro e w4 ⟨rfl, rfl⟩; refine Hid.out ?_)
                refine Lib.hid ?_
                go_wp2_with (go_at_call 28; refine (HP.out _).mono ?_; rintro e w4 ⟨rfl, rfl⟩; refine Hid.out ?_)
                refine Lib.hid ?_
                go_wp2_with (go_at_call 27; refine (HC2.out).mono ?_; rintro e w4 ⟨rfl, rfl⟩; refine Hid.out ?_)
                refine Lib.hid ?_
                go_wp2
                go_roundw
                case rel => exact ⟨k + 1, false, by omega, by go_num, rfl, HT2, HO2, HBr⟩
                case measure => (simp [RowKit.intOf]; try omega)
        · obtain rfl : k = cy.length := by omega
          have HR := Lib.hid ((refute_end HRI.out hlen HT.out).trans HO.out.symm)
          clear HT HO
          go_wp2
          go_ret
          exact ⟨ret_bool HR.out.symm, HB.out⟩
    · have HR := Lib.hid (refute_long (l := l) hlen)
      have hlen2 : 4 * n < (cy.length : Int) := by omega
      go_wp2
      go_ret
      exact ⟨ret_bool HR.out.symm, HB.out⟩
end
end Go.Proofs.Ytapgcahbccchfaa
