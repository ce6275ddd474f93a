/- The reference: Refute. -/
import Derived.Test.YtapgcahbccchfaaQb
namespace Go.Proofs.Ytapgcahbccchfaa
open Go.RowKit Go.Maps Go.ChangeMaps Go.MapKept
open St
attribute [local go_sem ↓] Go.wp_at_zero Go.wp_at_succ

theorem wrap_in {x : Int} (h : -9223372036854775808 ≤ x ∧ x ≤ 9223372036854775807) : IntKind.i64.wrap x = x := by rw [IntKind.wrap_i64]; omega
theorem ref_right {l : List Cl} {n : Int} {cy : List Int} (h : right l n = false) : refute l n cy = false := by unfold refute; rw [h]; rfl
theorem ref_len {l : List Cl} {n : Int} {cy : List Int} (h : ¬ (1 ≤ cy.length ∧ (cy.length : Int) ≤ 4 * n)) : refute l n cy = false := by
  unfold refute; rw [decide_eq_false h]; simp
theorem ref_lit {l : List Cl} {n : Int} {cy : List Int} {k : Nat} {x : Int} (hx : cy[k]? = some x) (h : ¬ (0 ≤ x ∧ x < 2 * n)) : refute l n cy = false := by
  have : lits n cy = false := decide_eq_false fun q => h (q x (List.mem_of_getElem? hx))
  unfold refute; rw [this]; simp
theorem ref_ring {l : List Cl} {n : Int} {cy : List Int} {i : Nat} (hi : i < cy.length) (h : impl l (cy.getD i 0) (cy.getD ((i + 1) % cy.length) 0) = false) : refute l n cy = false := by
  have : ring l cy = false := by
    unfold ring
    rw [List.all_eq_false]
    exact ⟨i, List.mem_range.2 hi, by rw [h]; simp⟩
  unfold refute; rw [this]; simp
theorem ref_both {l : List Cl} {n : Int} {cy : List Int} (h1 : right l n = true) (h2 : 1 ≤ cy.length ∧ (cy.length : Int) ≤ 4 * n) (h3 : ∀ x ∈ cy.take cy.length, 0 ≤ x ∧ x < 2 * n)
    (h4 : ∀ j, j < cy.length → impl l (cy.getD j 0) (cy.getD ((j + 1) % cy.length) 0) = true) : refute l n cy = both cy := by
  rw [List.take_length] at h3
  have e1 : lits n cy = true := lits_iff.2 h3
  have e2 : ring l cy = true := by unfold ring; rw [List.all_eq_true]; exact fun j hj => h4 j (List.mem_range.1 hj)
  unfold refute; rw [h1, decide_eq_true h2, e1, e2]; simp
def bo (cy : List Int) (i : Nat) : Bool := (cy.take i).any fun x => cy.contains (opp x)
theorem bo_next {cy : List Int} {i : Nat} {p : Int} (h : cy[i]? = some p) : bo cy (i + 1) = (bo cy i || (cy.take cy.length).contains (opp p)) := by
  unfold bo; rw [List.take_add_one, h, List.any_append, List.take_length]; simp
theorem bo_all (cy : List Int) : bo cy cy.length = both cy := by unfold bo both; rw [List.take_length]
theorem con_next {cy : List Int} {k : Nat} {q o : Int} (h : cy[k]? = some q) : (cy.take (k + 1)).contains o = ((cy.take k).contains o || q == o) := by
  rw [List.take_add_one, h, Bool.eq_iff_iff]
  simp only [List.contains_iff_mem, List.mem_append, Bool.or_eq_true, beq_iff_eq, Option.toList_some, List.mem_singleton]
  constructor
  · rintro (h | rfl)
    · exact .inl h
    · exact .inr rfl
  · rintro (h | rfl)
    · exact .inl h
    · exact .inr rfl
section
variable {w : World}
set_option maxHeartbeats 4000000 in
set_option maxRecDepth 100000 in
theorem q_refute {v u : Value} {l : List Cl} {n : Int} {cy : List Int} (hv : ClAt w v l) (hl : l.length ≤ 100000) (hu : NumsAt w u cy) (hcy : cy.length ≤ 1000) :
    Calls Try.prog 14 #[v, .int .i64 n, u] w fun e w' => e = .returned (.bool (refute l n cy)) ∧ Below w.heap.size w w' := by
  have HV := Lib.hid hv
  have HU := Lib.hid hu
  have HQ := Lib.hid (q_right (n := n) hv hl)
  obtain ⟨a, cap, rfl, -⟩ := hv
  obtain ⟨ua, uc, rfl⟩ := hu.slice
  clear hu
  go_enter Try.func14, Try.ntmps14
  cases hr : right l n with
  | false =>
    have HR := Lib.hid (ref_right (cy := cy) hr)
    rw [hr] at HQ
    clear hr
    go_wp2_with (go_at_call 10; refine (HQ.out).mono ?_; rintro e w2 ⟨rfl, rfl⟩; refine Hid.out ?_)
    refine Lib.hid ?_
    go_wp2
    go_ret
    exact ⟨ret_bool HR.out.symm, Below.refl _ _⟩
  | true =>
    have HRI := Lib.hid hr
    have hn := (right_iff.1 hr).1
    rw [hr] at HQ
    clear hr
    by_cases h1 : cy.length < 1
    · have HR := Lib.hid (ref_len (l := l) (n := n) (cy := cy) (by omega))
      have h2 : (cy.length : Int) < 1 := by omega
      go_wp2_with (go_at_call 10; refine (HQ.out).mono ?_; rintro e w2 ⟨rfl, rfl⟩; refine Hid.out ?_)
      refine Lib.hid ?_
      go_wp2
      go_ret
      exact ⟨ret_bool HR.out.symm, Below.refl _ _⟩
    · have h2 : ¬ (cy.length : Int) < 1 := by omega
      by_cases h3 : 4 * n < (cy.length : Int)
      · have HR := Lib.hid (ref_len (l := l) (n := n) (cy := cy) (by omega))
        go_wp2_with (go_at_call 10; refine (HQ.out).mono ?_; rintro e w2 ⟨rfl, rfl⟩; refine Hid.out ?_)
        refine Lib.hid ?_
        go_wp2
        go_ret
        exact ⟨ret_bool HR.out.symm, Below.refl _ _⟩
      · have HLN := Lib.hid (show 1 ≤ cy.length ∧ (cy.length : Int) ≤ 4 * n by omega)
        go_wp2_with (go_at_call 10; refine (HQ.out).mono ?_; rintro e w2 ⟨rfl, rfl⟩; refine Hid.out ?_)
        refine Lib.hid ?_
        go_wp2
        go_loopw [7] (fun i wr => ∃ k : Nat, k ≤ cy.length ∧ i = .int .i64 k ∧ Hid (∀ x ∈ cy.take k, 0 ≤ x ∧ x < 2 * n) ∧ w = wr) (fun i _ => cy.length - (RowKit.intOf i).toNat)
        case atStart => exact ⟨0, Nat.zero_le _, rfl, Lib.hid (by simp), rfl⟩
        case round =>
          obtain ⟨k, hk, rfl, HT, rfl⟩ := hrel
          by_cases hlt : k < cy.length
          · obtain ⟨x, hx⟩ : ∃ c, cy[k]? = some c := ⟨_, List.getElem?_eq_getElem hlt⟩
            have HX := Lib.hid hx
            obtain ⟨b, off, cap', h1, _, hcs⟩ := HU.out.form (by omega)
            cases h1
            have c0 := hcs k x hx
            clear hcs hx
            by_cases hx0 : x < 0
            · have HR := Lib.hid (ref_lit HX.out (fun q => by omega) : refute l n cy = false)
              go_wp2
              go_ret
              exact ⟨ret_bool HR.out.symm, Below.refl _ _⟩
            · by_cases hx1 : 2 * n ≤ x
              · have HR := Lib.hid (ref_lit HX.out (fun q => by omega) : refute l n cy = false)
                go_wp2
                go_ret
                exact ⟨ret_bool HR.out.symm, Below.refl _ _⟩
              · have HT2 := Lib.hid (take_all HT.out HX.out (show 0 ≤ x ∧ x < 2 * n by omega))
                go_wp2
                go_roundw
                case rel => exact ⟨k + 1, by omega, by go_num, HT2, by trivial⟩
                case measure => (simp [RowKit.intOf]; try omega)
          · obtain rfl : k = cy.length := by omega
            have HLT := HT
            clear HT hlt hk
            go_wp2
            go_loopw [8, 9] (fun t i wr => ∃ k : Nat, k ≤ cy.length ∧ i = .int .i64 k ∧ t = .bool (bo cy k) ∧ Hid (∀ j, j < k → impl l (cy.getD j 0) (cy.getD ((j + 1) % cy.length) 0) = true) ∧ Hid (Below w.heap.size w wr)) (fun _ i _ => cy.length - (RowKit.intOf i).toNat)
            case atStart => exact ⟨0, Nat.zero_le _, rfl, rfl, Lib.hid (fun j h => by omega), Lib.hid (Below.refl _ _)⟩
            case round =>
              obtain ⟨i, hi, rfl, rfl, HI, HB⟩ := hrel
              by_cases hlt : i < cy.length
              · obtain ⟨p, hp⟩ : ∃ c, cy[i]? = some c := ⟨_, List.getElem?_eq_getElem hlt⟩
                obtain ⟨j, hj⟩ : ∃ j, (i + 1) % cy.length = j := ⟨_, rfl⟩
                have hjl : j < cy.length := by rw [← hj]; exact Nat.mod_lt _ (by omega)
                obtain ⟨q, hq⟩ : ∃ c, cy[j]? = some c := ⟨_, List.getElem?_eq_getElem hjl⟩
                obtain ⟨b, off, cap', h1, _, hcs⟩ := HU.out.form (by omega)
                cases h1
                have HCS := Lib.hid hcs
                have HP := Lib.hid hp
                have S0 := And.intro (below_cell (hcs i p hp) HB.out) (below_cell (hcs j q hq) HB.out)
                have HIM := q_implies (a := p) (b := q) ((HV.out.keep HB.out).keep (below_drew wr)) hl (by have := HLT.out p (by rw [List.take_length]; exact List.mem_of_getElem? hp); omega)
                have hgi : cy.getD i 0 = p := by simp [List.getD, hp]
                have hgj : cy.getD ((i + 1) % cy.length) 0 = q := by rw [hj]; simp [List.getD, hq]
                have hm : ((i : Int) + 1).tmod (cy.length : Int) = (j : Int) := by
                  rw [Int.tmod_eq_emod_of_nonneg (by omega), ← hj]
                  exact (Int.natCast_emod (i + 1) cy.length).symm
                have hwr : IntKind.i64.wrap ((i : Int) + 1) = (i : Int) + 1 := wrap_in (by omega)
                have hcn : ¬ cy = [] := by rintro rfl; simp at hlt
                have HI2 := fun (h : impl l p q = true) => (show ∀ j, j < i + 1 → impl l (cy.getD j 0) (cy.getD ((j + 1) % cy.length) 0) = true from fun j' hj' => by
                  by_cases e : j' = i
                  · subst e; rw [hgi, hgj]; exact h
                  · exact HI.out j' (by omega))
                have HRF := fun (h : impl l p q = false) => (ref_ring (n := n) hlt (by rw [hgi, hgj]; exact h) : refute l n cy = false)
                have HIM := Lib.hid HIM
                have HI2 := Lib.hid HI2
                have HRF := Lib.hid HRF
                clear hcs hp hq hgi hgj hj
                go_wp2
                refine region_till 13 (fun wx => wx.cell? ⟨b, off + i, none⟩ = some (.int .i64 p) ∧ wx.cell? ⟨b, off + j, none⟩ = some (.int .i64 q)) (by kernel_rfl) ?_
                refine till_take 0 60 false (v := ?v0) (by kernel_rfl) (by kernel_rfl) (by kernel_rfl) (by kernel_rfl) (by kernel_rfl) (fun _ _ _ h => h) ?hw0 S0 ?hy0 ?rest0
                case hw0 => (simp only [List.getElem?_toArray, List.getElem?_cons_zero, Option.elim]; rfl)
                case hy0 => (simp only [List.getElem?_toArray, List.getElem?_cons_zero, Option.elim]; intro wx _; go_simp; with_reducible rfl)
                simp only [dstOf, List.getElem?_toArray, List.getElem?_cons_zero, Option.bind, Act.put, List.setIfInBounds_toArray, List.set_cons_zero, List.set_cons_succ]
                refine till_take 1 60 false (v := ?v1) (by kernel_rfl) (by kernel_rfl) (by kernel_rfl) (by kernel_rfl) (by kernel_rfl) (fun _ _ _ h => h) ?hw1 S0 ?hy1 ?rest1
                case hw1 => (simp only [List.getElem?_toArray, List.getElem?_cons_zero, List.getElem?_cons_succ, Option.elim]; rfl)
                case hy1 => (simp only [List.getElem?_toArray, List.getElem?_cons_zero, List.getElem?_cons_succ, Option.elim]; intro wx _; go_simp; with_reducible rfl)
                simp only [dstOf, List.getElem?_toArray, List.getElem?_cons_zero, List.getElem?_cons_succ, Option.bind, Act.put, List.setIfInBounds_toArray, List.set_cons_zero, List.set_cons_succ]
                refine till_take 2 60 false (v := ?v2) (by kernel_rfl) (by kernel_rfl) (by kernel_rfl) (by kernel_rfl) (by kernel_rfl) (fun _ _ _ h => h) ?hw2 S0 ?hy2 ?rest2
                case hw2 => (simp only [List.getElem?_toArray, List.getElem?_cons_zero, List.getElem?_cons_succ, Option.elim]; rfl)
                case hy2 => (simp only [List.getElem?_toArray, List.getElem?_cons_zero, List.getElem?_cons_succ, Option.elim]; intro wx _; go_simp; with_reducible rfl)
                simp only [dstOf, List.getElem?_toArray, List.getElem?_cons_zero, List.getElem?_cons_succ, Option.bind, Act.put, List.setIfInBounds_toArray, List.set_cons_zero, List.set_cons_succ]
                refine till_take 3 60 false (v := ?v3) (by kernel_rfl) (by kernel_rfl) (by kernel_rfl) (by kernel_rfl) (by kernel_rfl) (fun _ _ _ h => h) ?hw3 S0 ?hy3 ?rest3
                case hw3 => (simp only [List.getElem?_toArray, List.getElem?_cons_zero, List.getElem?_cons_succ, Option.elim]; rfl)
                case hy3 => (simp only [List.getElem?_toArray, List.getElem?_cons_zero, List.getElem?_cons_succ, Option.elim]; intro wx _; go_simp; with_reducible rfl)
                simp only [dstOf, List.getElem?_toArray, List.getElem?_cons_zero, List.getElem?_cons_succ, Option.bind, Act.put, List.setIfInBounds_toArray, List.set_cons_zero, List.set_cons_succ]
                refine till_take 4 60 true (v := ?v4) (by kernel_rfl) (by kernel_rfl) (by kernel_rfl) (by kernel_rfl) (by kernel_rfl) (fun _ _ _ h => h) ?hw4 S0 ?hy4 ?rest4
                case hw4 => (simp only [List.getElem?_toArray, List.getElem?_cons_zero, List.getElem?_cons_succ, Option.elim]; rfl)
                case hy4 => (simp only [List.getElem?_toArray, List.getElem?_cons_zero, List.getElem?_cons_succ, Option.elim]; intro wx hx; have x0 := (hx trivial).1; have x1 := (hx trivial).2; go_simp; with_reducible rfl)
                simp only [dstOf, List.getElem?_toArray, List.getElem?_cons_zero, List.getElem?_cons_succ, Option.bind, Act.put, List.setIfInBounds_toArray, List.set_cons_zero, List.set_cons_succ]
                refine till_take 5 60 false (v := ?v5) (by kernel_rfl) (by kernel_rfl) (by kernel_rfl) (by kernel_rfl) (by kernel_rfl) (fun _ _ _ h => h) ?hw5 S0 ?hy5 ?rest5
                case hw5 => (simp only [List.getElem?_toArray, List.getElem?_cons_zero, List.getElem?_cons_succ, Option.elim]; rfl)
                case hy5 => (simp only [List.getElem?_toArray, List.getElem?_cons_zero, List.getElem?_cons_succ, Option.elim]; intro wx _; go_simp; with_reducible rfl)
                simp only [dstOf, List.getElem?_toArray, List.getElem?_cons_zero, List.getElem?_cons_succ, Option.bind, Act.put, List.setIfInBounds_toArray, List.set_cons_zero, List.set_cons_succ]
                refine till_take 6 60 false (v := ?v6) (by kernel_rfl) (by kernel_rfl) (by kernel_rfl) (by kernel_rfl) (by kernel_rfl) (fun _ _ _ h => h) ?hw6 S0 ?hy6 ?rest6
                case hw6 => (simp only [List.getElem?_toArray, List.getElem?_cons_zero, List.getElem?_cons_succ, Option.elim]; rfl)
                case hy6 => (simp only [List.getElem?_toArray, List.getElem?_cons_zero, List.getElem?_cons_succ, Option.elim]; intro wx _; go_simp; with_reducible rfl)
                simp only [dstOf, List.getElem?_toArray, List.getElem?_cons_zero, List.getElem?_cons_succ, Option.bind, Act.put, List.setIfInBounds_toArray, List.set_cons_zero, List.set_cons_succ]
                refine till_take 7 60 false (v := ?v7) (by kernel_rfl) (by kernel_rfl) (by kernel_rfl) (by kernel_rfl) (by kernel_rfl) (fun _ _ _ h => h) ?hw7 S0 ?hy7 ?rest7
                case hw7 => (simp only [List.getElem?_toArray, List.getElem?_cons_zero, List.getElem?_cons_succ, Option.elim]; rfl)
                case hy7 => (simp only [List.getElem?_toArray, List.getElem?_cons_zero, List.getElem?_cons_succ, Option.elim]; intro wx _; go_simp; with_reducible rfl)
                simp only [dstOf, List.getElem?_toArray, List.getElem?_cons_zero, List.getElem?_cons_succ, Option.bind, Act.put, List.setIfInBounds_toArray, List.set_cons_zero, List.set_cons_succ]
                refine till_take 8 60 false (v := ?v8) (by kernel_rfl) (by kernel_rfl) (by kernel_rfl) (by kernel_rfl) (by kernel_rfl) (fun _ _ _ h => h) ?hw8 S0 ?hy8 ?rest8
                case hw8 => (simp only [List.getElem?_toArray, List.getElem?_cons_zero, List.getElem?_cons_succ, Option.elim]; rfl)
                case hy8 => (simp only [List.getElem?_toArray, List.getElem?_cons_zero, List.getElem?_cons_succ, Option.elim]; intro wx _; go_simp; with_reducible rfl)
                simp only [dstOf, List.getElem?_toArray, List.getElem?_cons_zero, List.getElem?_cons_succ, Option.bind, Act.put, List.setIfInBounds_toArray, List.set_cons_zero, List.set_cons_succ]
                refine till_take 9 60 false (v := ?v9) (by kernel_rfl) (by kernel_rfl) (by kernel_rfl) (by kernel_rfl) (by kernel_rfl) (fun _ _ _ h => h) ?hw9 S0 ?hy9 ?rest9
                case hw9 => (simp only [List.getElem?_toArray, List.getElem?_cons_zero, List.getElem?_cons_succ, Option.elim]; rfl)
                case hy9 => (simp only [List.getElem?_toArray, List.getElem?_cons_zero, List.getElem?_cons_succ, Option.elim]; intro wx _; go_simp; with_reducible rfl)
                simp only [dstOf, List.getElem?_toArray, List.getElem?_cons_zero, List.getElem?_cons_succ, Option.bind, Act.put, List.setIfInBounds_toArray, List.set_cons_zero, List.set_cons_succ]
                refine till_take 10 60 false (v := ?v10) (by kernel_rfl) (by kernel_rfl) (by kernel_rfl) (by kernel_rfl) (by kernel_rfl) (fun _ _ _ h => h) ?hw10 S0 ?hy10 ?rest10
                case hw10 => (simp only [List.getElem?_toArray, List.getElem?_cons_zero, List.getElem?_cons_succ, Option.elim]; rfl)
                case hy10 => (simp only [List.getElem?_toArray, List.getElem?_cons_zero, List.getElem?_cons_succ, Option.elim]; intro wx _; go_simp; with_reducible rfl)
                simp only [dstOf, List.getElem?_toArray, List.getElem?_cons_zero, List.getElem?_cons_succ, Option.bind, Act.put, List.setIfInBounds_toArray, List.set_cons_zero, List.set_cons_succ]
                refine till_take 11 60 false (v := ?v11) (by kernel_rfl) (by kernel_rfl) (by kernel_rfl) (by kernel_rfl) (by kernel_rfl) (fun _ _ _ h => h) ?hw11 S0 ?hy11 ?rest11
                case hw11 => (simp only [List.getElem?_toArray, List.getElem?_cons_zero, List.getElem?_cons_succ, Option.elim]; rfl)
                case hy11 => (simp only [List.getElem?_toArray, List.getElem?_cons_zero, List.getElem?_cons_succ, Option.elim]; intro wx _; go_simp; with_reducible rfl)
                simp only [dstOf, List.getElem?_toArray, List.getElem?_cons_zero, List.getElem?_cons_succ, Option.bind, Act.put, List.setIfInBounds_toArray, List.set_cons_zero, List.set_cons_succ]
                refine till_take 12 60 true (v := ?v12) (by kernel_rfl) (by kernel_rfl) (by kernel_rfl) (by kernel_rfl) (by kernel_rfl) (fun _ _ _ h => h) ?hw12 S0 ?hy12 ?rest12
                case hw12 => (simp only [List.getElem?_toArray, List.getElem?_cons_zero, List.getElem?_cons_succ, Option.elim]; rfl)
                case hy12 => (simp only [List.getElem?_toArray, List.getElem?_cons_zero, List.getElem?_cons_succ, Option.elim]; intro wx hx; have x0 := (hx trivial).1; have x1 := (hx trivial).2; go_simp; with_reducible rfl)
                simp only [dstOf, List.getElem?_toArray, List.getElem?_cons_zero, List.getElem?_cons_succ, Option.bind, Act.put, List.setIfInBounds_toArray, List.set_cons_zero, List.set_cons_succ]
                refine till_step 13 (by kernel_rfl) (by kernel_rfl) (fun K hK => ?_)
                simp only [List.getElem?_toArray, List.getElem?_cons_zero, List.getElem?_cons_succ, Option.elim]
                rw [if_pos (by rfl)]
                go_simp
                go_at_call 29
                refine (HIM.out).mono ?_
                rintro e w8 ⟨rfl, b8⟩
                refine hK.out _ _ ?_
                clear hK K
                try simp only [Act.put, List.setIfInBounds_toArray, List.set_cons_zero, List.set_cons_succ]
                refine till_late 14 (v := ?v14) (by kernel_rfl) (by kernel_rfl) (by kernel_rfl) (by kernel_rfl) (fun _ _ _ h => h) (by kernel_rfl) ?hw14 ?hy14 ?rest14
                case hw14 => (simp only [List.getElem?_toArray, List.getElem?_cons_zero, List.getElem?_cons_succ, Option.elim]; rfl)
                case hy14 => (simp only [List.getElem?_toArray, List.getElem?_cons_zero, List.getElem?_cons_succ, Option.elim]; intro wx; go_simp; with_reducible rfl)
                simp only [dstOf, List.getElem?_toArray, List.getElem?_cons_zero, List.getElem?_cons_succ, Option.bind, Act.put, List.setIfInBounds_toArray, List.set_cons_zero, List.set_cons_succ]
                refine till_end (by kernel_rfl) ?_ _
                have HB2 := Lib.hid (HB.out.trans (((below_drew wr).trans b8).mono HB.out.size))
                clear S0 b8 HIM hm
                cases him : impl l p q with
                | false =>
                  have HR := Lib.hid (HRF.out him)
                  clear HI2 him
                  go_wp2
                  go_ret
                  exact ⟨ret_bool HR.out.symm, HB2.out⟩
                | true =>
                  rw [Bool.not_true]
                  have HI3 := Lib.hid (HI2.out him)
                  have HBN := Lib.hid (bo_next HP.out)
                  have HOP := Lib.hid (fun (wx : World) => q_opp (w := wx) (x := p) (by have := HLT.out p (by rw [List.take_length]; exact List.mem_of_getElem? HP.out); omega))
                  clear HI2 HRF him
                  generalize opp p = o at HOP HBN
                  generalize bo cy i = bi at HBN ⊢
                  rename World => w9
                  go_wp2
                  go_loopw [8, 10] (fun t x wr => ∃ k : Nat, k ≤ cy.length ∧ x = .int .i64 k ∧ t = .bool (bi || (cy.take k).contains o) ∧ Hid (Below w.heap.size w wr)) (fun _ x _ => cy.length - (RowKit.intOf x).toNat)
                  case atStart => exact ⟨0, Nat.zero_le _, rfl, by simp, HB2⟩
                  case round =>
                    obtain ⟨k, hk, rfl, rfl, HK⟩ := hrel
                    by_cases hltk : k < cy.length
                    · obtain ⟨z, hz⟩ : ∃ c, cy[k]? = some c := ⟨_, List.getElem?_eq_getElem hltk⟩
                      have S0 := And.intro (below_cell (HCS.out k z hz) HK.out) (below_cell (HCS.out i p HP.out) HK.out)
                      have HN := con_next (o := o) hz
                      have HKN := Lib.hid (HK.out.trans ((below_drew wr).mono HK.out.size))
                      clear hz
                      cases ht : (bi || (cy.take k).contains o) with
                      | true =>
                        have HN2 := Lib.hid (show (bi || (cy.take (k + 1)).contains o) = true by rw [HN, ← Bool.or_assoc, ht]; rfl)
                        clear HN ht
                        go_wp2
                        refine region_till 12 (fun wx => wx.cell? ⟨b, off + k, none⟩ = some (.int .i64 z) ∧ wx.cell? ⟨b, off + i, none⟩ = some (.int .i64 p)) (by kernel_rfl) ?_
                        refine till_take 0 60 false (v := ?v0p) (by kernel_rfl) (by kernel_rfl) (by kernel_rfl) (by kernel_rfl) (by kernel_rfl) (fun _ _ _ h => h) ?hw0p S0 ?hy0p ?rest0p
                        case hw0p => (simp only [List.getElem?_toArray, List.getElem?_cons_zero, Option.elim]; rfl)
                        case hy0p => (simp only [List.getElem?_toArray, List.getElem?_cons_zero, Option.elim]; intro wx _; go_simp; with_reducible rfl)
                        simp only [dstOf, List.getElem?_toArray, List.getElem?_cons_zero, Option.bind, Act.put, List.setIfInBounds_toArray, List.set_cons_zero, List.set_cons_succ]
                        refine till_take 1 60 false (v := ?v1p) (by kernel_rfl) (by kernel_rfl) (by kernel_rfl) (by kernel_rfl) (by kernel_rfl) (fun _ _ _ h => h) ?hw1p S0 ?hy1p ?rest1p
                        case hw1p => (simp only [List.getElem?_toArray, List.getElem?_cons_zero, List.getElem?_cons_succ, Option.elim]; rfl)
                        case hy1p => (simp only [List.getElem?_toArray, List.getElem?_cons_zero, List.getElem?_cons_succ, Option.elim]; intro wx _; go_simp; with_reducible rfl)
                        simp only [dstOf, List.getElem?_toArray, List.getElem?_cons_zero, List.getElem?_cons_succ, Option.bind, Act.put, List.setIfInBounds_toArray, List.set_cons_zero, List.set_cons_succ]
                        refine till_skip 2 (by kernel_rfl) (by kernel_rfl) (by kernel_rfl) (by kernel_rfl) (fun _ _ _ h => h) ?hw2p (fun _ => S0) ?rest2p
                        case hw2p => (simp only [List.getElem?_toArray, List.getElem?_cons_zero, List.getElem?_cons_succ, Option.elim]; rfl)
                        simp only [dstOf, List.getElem?_toArray, List.getElem?_cons_zero, List.getElem?_cons_succ, Option.bind, Act.put, List.setIfInBounds_toArray, List.set_cons_zero, List.set_cons_succ]
                        refine till_skip 3 (by kernel_rfl) (by kernel_rfl) (by kernel_rfl) (by kernel_rfl) (fun _ _ _ h => h) ?hw3p (fun _ => S0) ?rest3p
                        case hw3p => (simp only [List.getElem?_toArray, List.getElem?_cons_zero, List.getElem?_cons_succ, Option.elim]; rfl)
                        simp only [dstOf, List.getElem?_toArray, List.getElem?_cons_zero, List.getElem?_cons_succ, Option.bind, Act.put, List.setIfInBounds_toArray, List.set_cons_zero, List.set_cons_succ]
                        refine till_skip 4 (by kernel_rfl) (by kernel_rfl) (by kernel_rfl) (by kernel_rfl) (fun _ _ _ h => h) ?hw4p (fun _ => S0) ?rest4p
                        case hw4p => (simp only [List.getElem?_toArray, List.getElem?_cons_zero, List.getElem?_cons_succ, Option.elim]; rfl)
                        simp only [dstOf, List.getElem?_toArray, List.getElem?_cons_zero, List.getElem?_cons_succ, Option.bind, Act.put, List.setIfInBounds_toArray, List.set_cons_zero, List.set_cons_succ]
                        refine till_skip 5 (by kernel_rfl) (by kernel_rfl) (by kernel_rfl) (by kernel_rfl) (fun _ _ _ h => h) ?hw5p (fun _ => S0) ?rest5p
                        case hw5p => (simp only [List.getElem?_toArray, List.getElem?_cons_zero, List.getElem?_cons_succ, Option.elim]; rfl)
                        simp only [dstOf, List.getElem?_toArray, List.getElem?_cons_zero, List.getElem?_cons_succ, Option.bind, Act.put, List.setIfInBounds_toArray, List.set_cons_zero, List.set_cons_succ]
                        refine till_skip 6 (by kernel_rfl) (by kernel_rfl) (by kernel_rfl) (by kernel_rfl) (fun _ _ _ h => h) ?hw6p (fun _ => S0) ?rest6p
                        case hw6p => (simp only [List.getElem?_toArray, List.getElem?_cons_zero, List.getElem?_cons_succ, Option.elim]; rfl)
                        simp only [dstOf, List.getElem?_toArray, List.getElem?_cons_zero, List.getElem?_cons_succ, Option.bind, Act.put, List.setIfInBounds_toArray, List.set_cons_zero, List.set_cons_succ]
                        refine till_skip 7 (by kernel_rfl) (by kernel_rfl) (by kernel_rfl) (by kernel_rfl) (fun _ _ _ h => h) ?hw7p (fun _ => S0) ?rest7p
                        case hw7p => (simp only [List.getElem?_toArray, List.getElem?_cons_zero, List.getElem?_cons_succ, Option.elim]; rfl)
                        simp only [dstOf, List.getElem?_toArray, List.getElem?_cons_zero, List.getElem?_cons_succ, Option.bind, Act.put, List.setIfInBounds_toArray, List.set_cons_zero, List.set_cons_succ]
                        refine till_skip 8 (by kernel_rfl) (by kernel_rfl) (by kernel_rfl) (by kernel_rfl) (fun _ _ _ h => h) ?hw8p (fun _ => S0) ?rest8p
                        case hw8p => (simp only [List.getElem?_toArray, List.getElem?_cons_zero, List.getElem?_cons_succ, Option.elim]; rfl)
                        simp only [dstOf, List.getElem?_toArray, List.getElem?_cons_zero, List.getElem?_cons_succ, Option.bind, Act.put, List.setIfInBounds_toArray, List.set_cons_zero, List.set_cons_succ]
                        refine till_skip 9 (by kernel_rfl) (by kernel_rfl) (by kernel_rfl) (by kernel_rfl) (fun _ _ _ h => h) ?hw9p (fun _ => S0) ?rest9p
                        case hw9p => (simp only [List.getElem?_toArray, List.getElem?_cons_zero, List.getElem?_cons_succ, Option.elim]; rfl)
                        simp only [dstOf, List.getElem?_toArray, List.getElem?_cons_zero, List.getElem?_cons_succ, Option.bind, Act.put, List.setIfInBounds_toArray, List.set_cons_zero, List.set_cons_succ]
                        refine till_skip 10 (by kernel_rfl) (by kernel_rfl) (by kernel_rfl) (by kernel_rfl) (fun _ _ _ h => h) ?hw10p (fun _ => S0) ?rest10p
                        case hw10p => (simp only [List.getElem?_toArray, List.getElem?_cons_zero, List.getElem?_cons_succ, Option.elim]; rfl)
                        simp only [dstOf, List.getElem?_toArray, List.getElem?_cons_zero, List.getElem?_cons_succ, Option.bind, Act.put, List.setIfInBounds_toArray, List.set_cons_zero, List.set_cons_succ]
                        refine till_skip 11 (by kernel_rfl) (by kernel_rfl) (by kernel_rfl) (by kernel_rfl) (fun _ _ _ h => h) ?hw11p (fun _ => S0) ?rest11p
                        case hw11p => (simp only [List.getElem?_toArray, List.getElem?_cons_zero, List.getElem?_cons_succ, Option.elim]; rfl)
                        simp only [dstOf, List.getElem?_toArray, List.getElem?_cons_zero, List.getElem?_cons_succ, Option.bind, Act.put, List.setIfInBounds_toArray, List.set_cons_zero, List.set_cons_succ]
                        refine till_step 12 (by kernel_rfl) (by kernel_rfl) (fun K hK => ?_)
                        simp only [List.getElem?_toArray, List.getElem?_cons_zero, List.getElem?_cons_succ, Option.elim]
                        rw [if_pos (by rfl)]
                        go_simp
                        refine hK.out _ _ ?_
                        clear hK K
                        try simp only [Act.put, List.setIfInBounds_toArray, List.set_cons_zero, List.set_cons_succ]
                        refine till_late 13 (v := ?v13p) (by kernel_rfl) (by kernel_rfl) (by kernel_rfl) (by kernel_rfl) (fun _ _ _ h => h) (by kernel_rfl) ?hw13p ?hy13p ?rest13p
                        case hw13p => (simp only [List.getElem?_toArray, List.getElem?_cons_zero, List.getElem?_cons_succ, Option.elim]; rfl)
                        case hy13p => (simp only [List.getElem?_toArray, List.getElem?_cons_zero, List.getElem?_cons_succ, Option.elim]; intro wx; go_simp; with_reducible rfl)
                        simp only [dstOf, List.getElem?_toArray, List.getElem?_cons_zero, List.getElem?_cons_succ, Option.bind, Act.put, List.setIfInBounds_toArray, List.set_cons_zero, List.set_cons_succ]
                        refine till_end (by kernel_rfl) ?_ _
                        clear S0
                        go_wp2
                        go_roundw
                        case rel => exact ⟨k + 1, by omega, by go_num, by rw [HN2.out], HKN⟩
                        case measure => (simp [RowKit.intOf]; try omega)
                      | false =>
                        have HN2 := Lib.hid (show (bi || (cy.take (k + 1)).contains o) = (z == o) by rw [HN, ← Bool.or_assoc, ht]; rfl)
                        clear HN ht
                        go_wp2
                        refine region_till 12 (fun wx => wx.cell? ⟨b, off + k, none⟩ = some (.int .i64 z) ∧ wx.cell? ⟨b, off + i, none⟩ = some (.int .i64 p)) (by kernel_rfl) ?_
                        refine till_take 0 60 false (v := ?v0q) (by kernel_rfl) (by kernel_rfl) (by kernel_rfl) (by kernel_rfl) (by kernel_rfl) (fun _ _ _ h => h) ?hw0q S0 ?hy0q ?rest0q
                        case hw0q => (simp only [List.getElem?_toArray, List.getElem?_cons_zero, Option.elim]; rfl)
                        case hy0q => (simp only [List.getElem?_toArray, List.getElem?_cons_zero, Option.elim]; intro wx _; go_simp; with_reducible rfl)
                        simp only [dstOf, List.getElem?_toArray, List.getElem?_cons_zero, Option.bind, Act.put, List.setIfInBounds_toArray, List.set_cons_zero, List.set_cons_succ]
                        refine till_take 1 60 false (v := ?v1q) (by kernel_rfl) (by kernel_rfl) (by kernel_rfl) (by kernel_rfl) (by kernel_rfl) (fun _ _ _ h => h) ?hw1q S0 ?hy1q ?rest1q
                        case hw1q => (simp only [List.getElem?_toArray, List.getElem?_cons_zero, List.getElem?_cons_succ, Option.elim]; rfl)
                        case hy1q => (simp only [List.getElem?_toArray, List.getElem?_cons_zero, List.getElem?_cons_succ, Option.elim]; intro wx _; go_simp; with_reducible rfl)
                        simp only [dstOf, List.getElem?_toArray, List.getElem?_cons_zero, List.getElem?_cons_succ, Option.bind, Act.put, List.setIfInBounds_toArray, List.set_cons_zero, List.set_cons_succ]
                        refine till_take 2 60 false (v := ?v2q) (by kernel_rfl) (by kernel_rfl) (by kernel_rfl) (by kernel_rfl) (by kernel_rfl) (fun _ _ _ h => h) ?hw2q S0 ?hy2q ?rest2q
                        case hw2q => (simp only [List.getElem?_toArray, List.getElem?_cons_zero, List.getElem?_cons_succ, Option.elim]; rfl)
                        case hy2q => (simp only [List.getElem?_toArray, List.getElem?_cons_zero, List.getElem?_cons_succ, Option.elim]; intro wx _; go_simp; with_reducible rfl)
                        simp only [dstOf, List.getElem?_toArray, List.getElem?_cons_zero, List.getElem?_cons_succ, Option.bind, Act.put, List.setIfInBounds_toArray, List.set_cons_zero, List.set_cons_succ]
                        refine till_take 3 60 false (v := ?v3q) (by kernel_rfl) (by kernel_rfl) (by kernel_rfl) (by kernel_rfl) (by kernel_rfl) (fun _ _ _ h => h) ?hw3q S0 ?hy3q ?rest3q
                        case hw3q => (simp only [List.getElem?_toArray, List.getElem?_cons_zero, List.getElem?_cons_succ, Option.elim]; rfl)
                        case hy3q => (simp only [List.getElem?_toArray, List.getElem?_cons_zero, List.getElem?_cons_succ, Option.elim]; intro wx _; go_simp; with_reducible rfl)
                        simp only [dstOf, List.getElem?_toArray, List.getElem?_cons_zero, List.getElem?_cons_succ, Option.bind, Act.put, List.setIfInBounds_toArray, List.set_cons_zero, List.set_cons_succ]
                        refine till_take 4 60 false (v := ?v4q) (by kernel_rfl) (by kernel_rfl) (by kernel_rfl) (by kernel_rfl) (by kernel_rfl) (fun _ _ _ h => h) ?hw4q S0 ?hy4q ?rest4q
                        case hw4q => (simp only [List.getElem?_toArray, List.getElem?_cons_zero, List.getElem?_cons_succ, Option.elim]; rfl)
                        case hy4q => (simp only [List.getElem?_toArray, List.getElem?_cons_zero, List.getElem?_cons_succ, Option.elim]; intro wx _; go_simp; with_reducible rfl)
                        simp only [dstOf, List.getElem?_toArray, List.getElem?_cons_zero, List.getElem?_cons_succ, Option.bind, Act.put, List.setIfInBounds_toArray, List.set_cons_zero, List.set_cons_succ]
                        refine till_take 5 60 true (v := ?v5q) (by kernel_rfl) (by kernel_rfl) (by kernel_rfl) (by kernel_rfl) (by kernel_rfl) (fun _ _ _ h => h) ?hw5q S0 ?hy5q ?rest5q
                        case hw5q => (simp only [List.getElem?_toArray, List.getElem?_cons_zero, List.getElem?_cons_succ, Option.elim]; rfl)
                        case hy5q => (simp only [List.getElem?_toArray, List.getElem?_cons_zero, List.getElem?_cons_succ, Option.elim]; intro wx hx; have x0 := (hx trivial).1; have x1 := (hx trivial).2; go_simp; with_reducible rfl)
                        simp only [dstOf, List.getElem?_toArray, List.getElem?_cons_zero, List.getElem?_cons_succ, Option.bind, Act.put, List.setIfInBounds_toArray, List.set_cons_zero, List.set_cons_succ]
                        refine till_take 6 60 false (v := ?v6q) (by kernel_rfl) (by kernel_rfl) (by kernel_rfl) (by kernel_rfl) (by kernel_rfl) (fun _ _ _ h => h) ?hw6q S0 ?hy6q ?rest6q
                        case hw6q => (simp only [List.getElem?_toArray, List.getElem?_cons_zero, List.getElem?_cons_succ, Option.elim]; rfl)
                        case hy6q => (simp only [List.getElem?_toArray, List.getElem?_cons_zero, List.getElem?_cons_succ, Option.elim]; intro wx _; go_simp; with_reducible rfl)
                        simp only [dstOf, List.getElem?_toArray, List.getElem?_cons_zero, List.getElem?_cons_succ, Option.bind, Act.put, List.setIfInBounds_toArray, List.set_cons_zero, List.set_cons_succ]
                        refine till_take 7 60 false (v := ?v7q) (by kernel_rfl) (by kernel_rfl) (by kernel_rfl) (by kernel_rfl) (by kernel_rfl) (fun _ _ _ h => h) ?hw7q S0 ?hy7q ?rest7q
                        case hw7q => (simp only [List.getElem?_toArray, List.getElem?_cons_zero, List.getElem?_cons_succ, Option.elim]; rfl)
                        case hy7q => (simp only [List.getElem?_toArray, List.getElem?_cons_zero, List.getElem?_cons_succ, Option.elim]; intro wx _; go_simp; with_reducible rfl)
                        simp only [dstOf, List.getElem?_toArray, List.getElem?_cons_zero, List.getElem?_cons_succ, Option.bind, Act.put, List.setIfInBounds_toArray, List.set_cons_zero, List.set_cons_succ]
                        refine till_take 8 60 false (v := ?v8q) (by kernel_rfl) (by kernel_rfl) (by kernel_rfl) (by kernel_rfl) (by kernel_rfl) (fun _ _ _ h => h) ?hw8q S0 ?hy8q ?rest8q
                        case hw8q => (simp only [List.getElem?_toArray, List.getElem?_cons_zero, List.getElem?_cons_succ, Option.elim]; rfl)
                        case hy8q => (simp only [List.getElem?_toArray, List.getElem?_cons_zero, List.getElem?_cons_succ, Option.elim]; intro wx _; go_simp; with_reducible rfl)
                        simp only [dstOf, List.getElem?_toArray, List.getElem?_cons_zero, List.getElem?_cons_succ, Option.bind, Act.put, List.setIfInBounds_toArray, List.set_cons_zero, List.set_cons_succ]
                        refine till_take 9 60 true (v := ?v9q) (by kernel_rfl) (by kernel_rfl) (by kernel_rfl) (by kernel_rfl) (by kernel_rfl) (fun _ _ _ h => h) ?hw9q S0 ?hy9q ?rest9q
                        case hw9q => (simp only [List.getElem?_toArray, List.getElem?_cons_zero, List.getElem?_cons_succ, Option.elim]; rfl)
                        case hy9q => (simp only [List.getElem?_toArray, List.getElem?_cons_zero, List.getElem?_cons_succ, Option.elim]; intro wx hx; have x0 := (hx trivial).1; have x1 := (hx trivial).2; go_simp; with_reducible rfl)
                        simp only [dstOf, List.getElem?_toArray, List.getElem?_cons_zero, List.getElem?_cons_succ, Option.bind, Act.put, List.setIfInBounds_toArray, List.set_cons_zero, List.set_cons_succ]
                        refine till_before 10 (by kernel_rfl) (fun K hK => ?_)
                        simp only [List.getElem?_toArray, List.getElem?_cons_zero, List.getElem?_cons_succ, Option.elim]
                        rw [if_pos (by rfl)]
                        go_simp
                        go_at_call 30
                        refine (HOP.out _).mono ?_
                        rintro e w8 ⟨rfl, rfl⟩
                        refine hK.out _ _ (S0) ?_
                        clear hK K
                        try simp only [Act.put, List.setIfInBounds_toArray, List.set_cons_zero, List.set_cons_succ]
                        refine till_take 11 60 false (v := ?v11q) (by kernel_rfl) (by kernel_rfl) (by kernel_rfl) (by kernel_rfl) (by kernel_rfl) (fun _ _ _ h => h) ?hw11q S0 ?hy11q ?rest11q
                        case hw11q => (simp only [List.getElem?_toArray, List.getElem?_cons_zero, List.getElem?_cons_succ, Option.elim]; rfl)
                        case hy11q => (simp only [List.getElem?_toArray, List.getElem?_cons_zero, List.getElem?_cons_succ, Option.elim]; intro wx _; go_simp; with_reducible rfl)
                        simp only [dstOf, List.getElem?_toArray, List.getElem?_cons_zero, List.getElem?_cons_succ, Option.bind, Act.put, List.setIfInBounds_toArray, List.set_cons_zero, List.set_cons_succ]
                        refine till_step 12 (by kernel_rfl) (by kernel_rfl) (fun K hK => ?_)
                        simp only [List.getElem?_toArray, List.getElem?_cons_zero, List.getElem?_cons_succ, Option.elim]
                        rw [if_pos (by rfl)]
                        go_simp
                        refine hK.out _ _ ?_
                        clear hK K
                        try simp only [Act.put, List.setIfInBounds_toArray, List.set_cons_zero, List.set_cons_succ]
                        refine till_late 13 (v := ?v13q) (by kernel_rfl) (by kernel_rfl) (by kernel_rfl) (by kernel_rfl) (fun _ _ _ h => h) (by kernel_rfl) ?hw13q ?hy13q ?rest13q
                        case hw13q => (simp only [List.getElem?_toArray, List.getElem?_cons_zero, List.getElem?_cons_succ, Option.elim]; rfl)
                        case hy13q => (simp only [List.getElem?_toArray, List.getElem?_cons_zero, List.getElem?_cons_succ, Option.elim]; intro wx; go_simp; with_reducible rfl)
                        simp only [dstOf, List.getElem?_toArray, List.getElem?_cons_zero, List.getElem?_cons_succ, Option.bind, Act.put, List.setIfInBounds_toArray, List.set_cons_zero, List.set_cons_succ]
                        refine till_end (by kernel_rfl) ?_ _
                        clear S0
                        go_wp2
                        go_roundw
                        case rel => exact ⟨k + 1, by omega, by go_num, by rw [HN2.out], HKN⟩
                        case measure => (simp [RowKit.intOf]; try omega)
                    · obtain rfl : k = cy.length := by omega
                      rw [← HBN.out]
                      go_wp2
                      go_roundw
                      case rel => exact ⟨i + 1, by omega, by go_num, rfl, HI3, HK⟩
                      case measure => (simp [RowKit.intOf]; try omega)
              · obtain rfl : i = cy.length := by omega
                have HR := Lib.hid ((ref_both HRI.out HLN.out HLT.out HI.out).trans (bo_all cy).symm)
                clear HI HLT
                go_wp2
                go_ret
                exact ⟨ret_bool HR.out.symm, HB.out⟩
end
end Go.Proofs.Ytapgcahbccchfaa
