/- The reference's graph: Add. -/
import Derived.Test.YtihnnffhpgbgjaaRob
import Derived.Test.YtihnnffhpgbgjaaGRight
namespace Go.Proofs.Ytihnnffhpgbgjaa
open Go.RowKit Go.Maps Go.ChangeMaps Go.MapKept
open Gp
attribute [local go_sem ↓] Go.wp_at_zero Go.wp_at_succ

/-- The loop's memory: what is built, and the new node's parents once they are copied. -/
def addOs (n : Nd) (xv : Value) (ov : Value) (O : List (Nd × Value)) (p : Bool) : List Ob := .row 32 2 ov O.length (ndVs O) :: (if p then [.row 3 1 xv n.2.length (intVs n.2)] else [])
section
variable {w : World} {r : Nat} {G : List Nd} {v : Value} {T : List (Nd × Value)} {S : Nat → Prop}
theorem RIn.put {w3 wr : World} {n : Nd} {xv ov : Value} {O : List (Nd × Value)} (h : RIn w r G v T S) (hb : Below w.heap.size w w3) (ok : Ok (Gp.ins n G)) (M : OMem w3 wr (addOs n xv ov O true)) (hX : ∀ z, xv.ownBlock = some z → w3.heap.size ≤ z)
    (hO : O.map (·.1) = Gp.ins n (T.map (·.1)) ∧ ∀ y ∈ O, y = (n, xv) ∨ y ∈ T) : TurnsR w (wr.setCell ⟨r, 0, none⟩ ov) r (Gp.ins n G) S := by
  have hb2 := hb.trans (M.below.mono hb.size)
  have h2 := h.keep hb2
  refine h.turn hb2 (lt_heap h.cell) ok (by rw [hO.1, h.is]) (M.rowAt (i := 0) rfl) (fun z hz => Nat.le_trans hb.size (M.rowNew (i := 0) rfl z hz)) fun x hx => ?_
  rcases hO.2 x hx with rfl | q
  · exact ⟨NumsAt.of_own (M.rowAt (i := 1) rfl), fun z hz => ⟨.inr (Nat.le_trans hb.size (hX z hz)), ((M.rowAt (i := 1) rfl).lt z hz).2⟩⟩
  · exact ⟨(h2.rows x q).1, fun z hz => ⟨.inl ((h2.rows x q).2 z hz), (h2.sep z ((h2.rows x q).2 z hz)).1⟩⟩
set_option maxHeartbeats 8000000 in
set_option maxRecDepth 100000 in
theorem radd_any (h : RIn w r G v T S) {u : Value} {n : Nd} (hp : NumsAt w u n.2) (hl : n.2.length ≤ 100) (hG : G.length ≤ 100) :
    Calls Try.prog 9 #[.pointer (some ⟨r, 0, none⟩), .agg #[.int .i64 n.1, u]] w fun e w' => e = .returned (.int .i64 (add G n).1) ∧ TurnsR w w' r (add G n).2 S := by
  have HG := Lib.hid h
  have hb1 := (Below.refl w.heap.size w).alloc (Nat.le_refl _) (.cells #[.int .i64 n.1, u] 32)
  have HP := Lib.hid (hp.keep hb1)
  have HV := Lib.hid (right_any (hp.keep hb1) (by omega))
  have B1 := Lib.hid hb1
  have k0 := cells_new w #[.int .i64 n.1, u] 32 0 _ rfl
  have k1 := cells_new w #[.int .i64 n.1, u] 32 1 _ rfl
  simp only [List.getElem_toArray, List.getElem_cons_zero, List.getElem_cons_succ] at k0 k1
  have K0 := Lib.hid k0
  have K1 := Lib.hid k1
  obtain ⟨ua, uc, rfl⟩ := hp.slice
  have HL := Lib.hid h.len
  have hTl : T.length ≤ 100 := by rw [h.len]; exact hG
  clear h hp hb1 k0 k1
  by_cases hr : right n = true
  · rw [hr] at HV
    have HRT := Lib.hid hr
    clear hr
    go_enter Try.func9, Try.ntmps9
    go_wp2_with (go_at_call 40; refine (HV.out).mono ?_; rintro e w2 ⟨rfl, g2⟩; refine Hid.out ?_)
    refine Lib.hid ?_
    have B2 := Lib.hid (B1.out.trans (g2.mono B1.out.size))
    have c0 := below_cell K0.out g2
    have c1 := below_cell K1.out g2
    have C0 := Lib.hid c0
    have C1 := Lib.hid c1
    have HP2 := Lib.hid (HP.out.keep g2)
    have HG2 := Lib.hid (HG.out.keep B2.out)
    have HA := Lib.hid (rat_any HG2.out.rat n.1 hG)
    clear g2 HV HP K0 K1 B1
    go_wp2_with (go_at_call 12; refine (HA.out).mono ?_; rintro e w3 ⟨q, rfl, hq, rfl⟩; refine Hid.out ?_)
    refine Lib.hid ?_
    clear HA
    rcases hq with ⟨rfl, hni⟩ | ⟨t, m, rfl, hm, hmn⟩
    · have HNI := Lib.hid hni
      clear hni
      go_wp2
      clear c0 c1
      go_loopw [6] (fun i wr => ∃ k : Nat, k ≤ n.2.length ∧ i = .int .i64 k ∧ Hid (∀ p ∈ n.2.take k, p ∈ ids G) ∧ w3 = wr) (fun i _ => n.2.length - (RowKit.intOf i).toNat)
      case atStart => exact ⟨0, Nat.zero_le _, rfl, Lib.hid (by simp), rfl⟩
      case round =>
        obtain ⟨k, hk, rfl, HI, rfl⟩ := hrel
        have c0 := C0.out
        have c1 := C1.out
        by_cases hlt : k < n.2.length
        · obtain ⟨p, hpk⟩ : ∃ p, n.2[k]? = some p := ⟨_, List.getElem?_eq_getElem hlt⟩
          obtain ⟨b1, off1, cap1, e1, _, hcs⟩ := HP2.out.form (by omega)
          cases e1
          have d1 := hcs k p hpk
          have HA := Lib.hid (rat_any HG2.out.rat p hG)
          have HPK := Lib.hid hpk
          clear hcs hpk
          go_wp2_with (go_at_call 12; refine (HA.out).mono ?_; rintro e w4 ⟨q, rfl, hq, rfl⟩; refine Hid.out ?_)
          refine Lib.hid ?_
          clear HA
          rcases hq with ⟨rfl, hpi⟩ | ⟨t, m, rfl, hm, hmp⟩
          · have HADD := Lib.hid (add_miss HRT.out HNI.out (fun q => hpi (q p (List.mem_of_getElem? HPK.out))))
            clear hpi
            go_wp2
            go_ret
            rw [HADD.out]
            exact ⟨rfl, HG.out.stays B2.out⟩
          · have HI2 := Lib.hid (show ∀ q ∈ n.2.take (k + 1), q ∈ ids G from fun q hq => by
              rw [List.take_add_one, HPK.out] at hq
              rcases List.mem_append.1 hq with r | r
              · exact HI.out q r
              · simp at r; subst r; exact hmp ▸ ids_of (List.mem_of_getElem? hm))
            have hnt : ¬ ((t : Nat) : Int) < 0 := by omega
            clear hm hmp
            go_wp2
            go_roundw
            case rel => exact ⟨k + 1, by omega, by go_num, HI2, by trivial⟩
            case measure => (simp [RowKit.intOf]; try omega)
        · obtain rfl : k = n.2.length := by omega
          have hall := HI.out
          rw [List.take_length] at hall
          have HALL := Lib.hid hall
          have HADD := Lib.hid (add_new HRT.out HNI.out hall)
          clear hall HI hlt hk
          go_wp2
          clear c0 c1
          obtain ⟨va, vc, hva⟩ := HG.out.slice
          subst hva
          rename World => w3
          go_loopw [8, 9, 10] (fun ov pv i wr => ∃ (k : Nat) (O : List (Nd × Value)) (p : Bool) (xv : Value) (oa : Option Addr) (oc : Nat), k ≤ T.length ∧ i = .int .i64 k ∧ pv = .bool p ∧ ov = .slice oa O.length oc ∧ Hid (Put n xv T k O p) ∧ Hid (∀ z, xv.ownBlock = some z → w3.heap.size ≤ z) ∧ OMem w3 wr (addOs n xv (.slice oa O.length oc) O p)) (fun _ _ i _ => T.length - (RowKit.intOf i).toNat)
          case atStart => exact ⟨0, [], false, .slice none 0 0, none, 0, Nat.zero_le _, rfl, rfl, rfl, Lib.hid ⟨rfl, fun x h => by simp at h⟩, Lib.hid (fun z hz => by cases hz), (OMem.start w3).rowNil _ _⟩
          case round =>
            obtain ⟨k, O, p, xv, oa, oc, hk, rfl, rfl, rfl, HPT, HX, M⟩ := hrel
            have hOl := HPT.out.len hk
            have HM := Lib.hid M
            have HB := Lib.hid M.below
            have e0 := below_cell HG2.out.c0 HB.out
            have c0 := below_cell C0.out HB.out
            have c1 := below_cell C1.out HB.out
            clear M
            by_cases hlt : k < T.length
            · obtain ⟨⟨m, mv⟩, hx⟩ : ∃ x, T[k]? = some x := ⟨_, List.getElem?_eq_getElem hlt⟩
              obtain ⟨b1, off1, cap1, pa, pc, e1, hcap, hmv, d0, d1, _⟩ := HG2.out.at_ hx
              have hmv : mv = .slice pa m.2.length pc := hmv
              subst hmv
              cases e1
              have D0 := Lib.hid (show w3.cell? ⟨b1, off1 + k * 2, none⟩ = some (.int .i64 m.1) from d0)
              have D1 := Lib.hid (show w3.cell? ⟨b1, off1 + k * 2 + 1, none⟩ = some (.slice pa m.2.length pc) from d1)
              clear d0 d1
              have d0 := below_cell D0.out HB.out
              have d1 := below_cell D1.out HB.out
              have HTK := Lib.hid hx
              have hne : m.1 ≠ n.1 := fun e => HNI.out (e ▸ ids_of (List.mem_of_getElem? (HG2.out.nd hx)))
              have S0 := And.intro e0 (And.intro d0 c0)
              clear hx
              cases p with
              | true =>
                obtain ⟨ya, yc, w7, r7, m7⟩ := (HM.out.fresh (below_drew wr)).pushNd (i := 0) rfl m pa m.2.length pc (by omega)
                have R7 := Lib.hid r7
                have M7 := Lib.hid m7
                have HP7 := Lib.hid (HPT.out.more HTK.out)
                clear r7 m7 c0 c1 hne
                go_wp2
                refine region_till 14 (fun w' => w'.cell? ⟨r, 0, none⟩ = some (.slice (some ⟨b1, off1, none⟩) T.length vc) ∧ w'.cell? ⟨b1, off1 + k * 2, none⟩ = some (.int .i64 m.1) ∧ w'.cell? ⟨w.heap.size, 0, none⟩ = some (.int .i64 n.1)) (by kernel_rfl) ?_
                refine till_take 0 16 false (v := ?v0c) (by kernel_rfl) (by kernel_rfl) (by kernel_rfl) (by kernel_rfl) (by kernel_rfl) (fun _ _ _ h => h) ?hw0c S0 ?hy0c ?rest0c
                case hw0c => (simp only [List.getElem?_toArray, List.getElem?_cons_zero, Option.elim]; rfl)
                case hy0c => (simp only [List.getElem?_toArray, List.getElem?_cons_zero, Option.elim]; intro wx _; go_simp; with_reducible rfl)
                simp only [dstOf, List.getElem?_toArray, List.getElem?_cons_zero, Option.bind, Act.put, List.setIfInBounds_toArray, List.set_cons_zero, List.set_cons_succ]
                refine till_take 1 16 false (v := ?v1c) (by kernel_rfl) (by kernel_rfl) (by kernel_rfl) (by kernel_rfl) (by kernel_rfl) (fun _ _ _ h => h) ?hw1c S0 ?hy1c ?rest1c
                case hw1c => (simp only [List.getElem?_toArray, List.getElem?_cons_zero, List.getElem?_cons_succ, Option.elim]; rfl)
                case hy1c => (simp only [List.getElem?_toArray, List.getElem?_cons_zero, List.getElem?_cons_succ, Option.elim]; intro wx _; go_simp; with_reducible rfl)
                simp only [dstOf, List.getElem?_toArray, List.getElem?_cons_zero, List.getElem?_cons_succ, Option.bind, Act.put, List.setIfInBounds_toArray, List.set_cons_zero, List.set_cons_succ]
                refine till_take 2 16 false (v := ?v2c) (by kernel_rfl) (by kernel_rfl) (by kernel_rfl) (by kernel_rfl) (by kernel_rfl) (fun _ _ _ h => h) ?hw2c S0 ?hy2c ?rest2c
                case hw2c => (simp only [List.getElem?_toArray, List.getElem?_cons_zero, List.getElem?_cons_succ, Option.elim]; rfl)
                case hy2c => (simp only [List.getElem?_toArray, List.getElem?_cons_zero, List.getElem?_cons_succ, Option.elim]; intro wx _; go_simp; with_reducible rfl)
                simp only [dstOf, List.getElem?_toArray, List.getElem?_cons_zero, List.getElem?_cons_succ, Option.bind, Act.put, List.setIfInBounds_toArray, List.set_cons_zero, List.set_cons_succ]
                refine till_skip 3 (by kernel_rfl) (by kernel_rfl) (by kernel_rfl) (by kernel_rfl) (fun _ _ _ h => h) ?hw3c (fun _ => S0) ?rest3c
                case hw3c => (simp only [List.getElem?_toArray, List.getElem?_cons_zero, List.getElem?_cons_succ, Option.elim]; rfl)
                simp only [dstOf, List.getElem?_toArray, List.getElem?_cons_zero, List.getElem?_cons_succ, Option.bind, Act.put, List.setIfInBounds_toArray, List.set_cons_zero, List.set_cons_succ]
                refine till_skip 4 (by kernel_rfl) (by kernel_rfl) (by kernel_rfl) (by kernel_rfl) (fun _ _ _ h => h) ?hw4c (fun _ => S0) ?rest4c
                case hw4c => (simp only [List.getElem?_toArray, List.getElem?_cons_zero, List.getElem?_cons_succ, Option.elim]; rfl)
                simp only [dstOf, List.getElem?_toArray, List.getElem?_cons_zero, List.getElem?_cons_succ, Option.bind, Act.put, List.setIfInBounds_toArray, List.set_cons_zero, List.set_cons_succ]
                refine till_skip 5 (by kernel_rfl) (by kernel_rfl) (by kernel_rfl) (by kernel_rfl) (fun _ _ _ h => h) ?hw5c (fun _ => S0) ?rest5c
                case hw5c => (simp only [List.getElem?_toArray, List.getElem?_cons_zero, List.getElem?_cons_succ, Option.elim]; rfl)
                simp only [dstOf, List.getElem?_toArray, List.getElem?_cons_zero, List.getElem?_cons_succ, Option.bind, Act.put, List.setIfInBounds_toArray, List.set_cons_zero, List.set_cons_succ]
                refine till_skip 6 (by kernel_rfl) (by kernel_rfl) (by kernel_rfl) (by kernel_rfl) (fun _ _ _ h => h) ?hw6c (fun _ => S0) ?rest6c
                case hw6c => (simp only [List.getElem?_toArray, List.getElem?_cons_zero, List.getElem?_cons_succ, Option.elim]; rfl)
                simp only [dstOf, List.getElem?_toArray, List.getElem?_cons_zero, List.getElem?_cons_succ, Option.bind, Act.put, List.setIfInBounds_toArray, List.set_cons_zero, List.set_cons_succ]
                refine till_skip 7 (by kernel_rfl) (by kernel_rfl) (by kernel_rfl) (by kernel_rfl) (fun _ _ _ h => h) ?hw7c (fun _ => S0) ?rest7c
                case hw7c => (simp only [List.getElem?_toArray, List.getElem?_cons_zero, List.getElem?_cons_succ, Option.elim]; rfl)
                simp only [dstOf, List.getElem?_toArray, List.getElem?_cons_zero, List.getElem?_cons_succ, Option.bind, Act.put, List.setIfInBounds_toArray, List.set_cons_zero, List.set_cons_succ]
                refine till_skip 8 (by kernel_rfl) (by kernel_rfl) (by kernel_rfl) (by kernel_rfl) (fun _ _ _ h => h) ?hw8c (fun _ => S0) ?rest8c
                case hw8c => (simp only [List.getElem?_toArray, List.getElem?_cons_zero, List.getElem?_cons_succ, Option.elim]; rfl)
                simp only [dstOf, List.getElem?_toArray, List.getElem?_cons_zero, List.getElem?_cons_succ, Option.bind, Act.put, List.setIfInBounds_toArray, List.set_cons_zero, List.set_cons_succ]
                refine till_skip 9 (by kernel_rfl) (by kernel_rfl) (by kernel_rfl) (by kernel_rfl) (fun _ _ _ h => h) ?hw9c (fun _ => S0) ?rest9c
                case hw9c => (simp only [List.getElem?_toArray, List.getElem?_cons_zero, List.getElem?_cons_succ, Option.elim]; rfl)
                simp only [dstOf, List.getElem?_toArray, List.getElem?_cons_zero, List.getElem?_cons_succ, Option.bind, Act.put, List.setIfInBounds_toArray, List.set_cons_zero, List.set_cons_succ]
                refine till_skip 10 (by kernel_rfl) (by kernel_rfl) (by kernel_rfl) (by kernel_rfl) (fun _ _ _ h => h) ?hw10c (fun _ => S0) ?rest10c
                case hw10c => (simp only [List.getElem?_toArray, List.getElem?_cons_zero, List.getElem?_cons_succ, Option.elim]; rfl)
                simp only [dstOf, List.getElem?_toArray, List.getElem?_cons_zero, List.getElem?_cons_succ, Option.bind, Act.put, List.setIfInBounds_toArray, List.set_cons_zero, List.set_cons_succ]
                refine till_skip 11 (by kernel_rfl) (by kernel_rfl) (by kernel_rfl) (by kernel_rfl) (fun _ _ _ h => h) ?hw11c (fun _ => S0) ?rest11c
                case hw11c => (simp only [List.getElem?_toArray, List.getElem?_cons_zero, List.getElem?_cons_succ, Option.elim]; rfl)
                simp only [dstOf, List.getElem?_toArray, List.getElem?_cons_zero, List.getElem?_cons_succ, Option.bind, Act.put, List.setIfInBounds_toArray, List.set_cons_zero, List.set_cons_succ]
                refine till_skip 12 (by kernel_rfl) (by kernel_rfl) (by kernel_rfl) (by kernel_rfl) (fun _ _ _ h => h) ?hw12c (fun _ => S0) ?rest12c
                case hw12c => (simp only [List.getElem?_toArray, List.getElem?_cons_zero, List.getElem?_cons_succ, Option.elim]; rfl)
                simp only [dstOf, List.getElem?_toArray, List.getElem?_cons_zero, List.getElem?_cons_succ, Option.bind, Act.put, List.setIfInBounds_toArray, List.set_cons_zero, List.set_cons_succ]
                refine till_skip 13 (by kernel_rfl) (by kernel_rfl) (by kernel_rfl) (by kernel_rfl) (fun _ _ _ h => h) ?hw13c (fun _ => S0) ?rest13c
                case hw13c => (simp only [List.getElem?_toArray, List.getElem?_cons_zero, List.getElem?_cons_succ, Option.elim]; rfl)
                simp only [dstOf, List.getElem?_toArray, List.getElem?_cons_zero, List.getElem?_cons_succ, Option.bind, Act.put, List.setIfInBounds_toArray, List.set_cons_zero, List.set_cons_succ]
                refine till_step 14 (by kernel_rfl) (by kernel_rfl) (fun K hK => ?_)
                simp only [List.getElem?_toArray, List.getElem?_cons_zero, List.getElem?_cons_succ, Option.elim]
                rw [if_pos (by rfl)]
                go_simp
                refine hK.out _ _ ?_
                clear hK K
                try simp only [Act.put, List.setIfInBounds_toArray, List.set_cons_zero, List.set_cons_succ]
                refine till_end (by kernel_rfl) ?_ _
                clear S0
                go_wp2_with (at_builtin; refine Hid.out ?_)
                refine Lib.hid ?_
                refine Lib.wpList_append_run _ rfl _ _ _ _ rfl _ _ rfl rfl _ _ R7.out ?_
                go_wp2
                go_roundw
                case rel => exact ⟨k + 1, O ++ [(m, .slice pa m.2.length pc)], true, xv, ya, yc, by omega, by go_num, rfl, by rw [List.length_append]; rfl, HP7, HX, by unfold addOs; rw [List.length_append]; exact M7.out⟩
                case measure => (simp [RowKit.intOf]; try omega)
              | false =>
                by_cases hgt : n.1 < m.1
                · have HPb := HP2.out.keep (HB.out.trans ((below_drew wr).mono HB.out.size))
                  obtain ⟨xa, xc, w5, r5, o5, b5, n5⟩ := copyN_run (HPb.keep (below_drew wr.drew)) (by omega)
                  have M5 := ((HM.out.fresh (below_drew wr)).fresh (below_drew wr.drew)).rowNewAt b5 o5 n5
                  obtain ⟨ya, yc, w6, r6, m6⟩ := M5.pushNd (i := 0) rfl n xa n.2.length xc (by omega)
                  have hO1 : (O ++ [(n, Value.slice xa n.2.length xc)]).length = O.length + 1 := by rw [List.length_append]; rfl
                  have M6 := Lib.hid (show OMem w3 w6 (addOs n (.slice xa n.2.length xc) (.slice ya (O ++ [(n, Value.slice xa n.2.length xc)]).length yc) (O ++ [(n, Value.slice xa n.2.length xc)]) true) by unfold addOs; rw [hO1]; exact m6)
                  obtain ⟨za, zc, w7, r7, m7⟩ := M6.out.pushNd (i := 0) rfl m pa m.2.length pc (by rw [hO1]; omega)
                  rw [hO1] at r7
                  have R5 := Lib.hid r5
                  have R6 := Lib.hid r6
                  have R7 := Lib.hid r7
                  have M7 := Lib.hid m7
                  have HP7 := Lib.hid (HPT.out.here (xv := .slice xa n.2.length xc) HTK.out hgt)
                  have HX7 := Lib.hid (fun z hz => Nat.le_trans HB.out.size (n5 z hz))
                  have S2 := And.intro (below_cell c0 ((below_drew wr).trans ((below_drew wr.drew).trans b5))) (below_cell c1 ((below_drew wr).trans ((below_drew wr.drew).trans b5)))
                  have S1 := And.intro (below_cell c0 ((below_drew wr).trans ((below_drew wr.drew).trans ((Below.refl wr.drew.drew.heap.size wr.drew.drew).alloc (Nat.le_refl _) (.cells #[] 3))))) (below_cell c1 ((below_drew wr).trans ((below_drew wr.drew).trans ((Below.refl wr.drew.drew.heap.size wr.drew.drew).alloc (Nat.le_refl _) (.cells #[] 3)))))
                  clear m6 r5 r6 r7 m7 M5 o5 n5 b5 hne d0 d1 HPb
                  go_wp2
                  refine region_till 14 (fun w' => w'.cell? ⟨r, 0, none⟩ = some (.slice (some ⟨b1, off1, none⟩) T.length vc) ∧ w'.cell? ⟨b1, off1 + k * 2, none⟩ = some (.int .i64 m.1) ∧ w'.cell? ⟨w.heap.size, 0, none⟩ = some (.int .i64 n.1)) (by kernel_rfl) ?_
                  refine till_take 0 16 false (v := ?v0d) (by kernel_rfl) (by kernel_rfl) (by kernel_rfl) (by kernel_rfl) (by kernel_rfl) (fun _ _ _ h => h) ?hw0d S0 ?hy0d ?rest0d
                  case hw0d => (simp only [List.getElem?_toArray, List.getElem?_cons_zero, Option.elim]; rfl)
                  case hy0d => (simp only [List.getElem?_toArray, List.getElem?_cons_zero, Option.elim]; intro wx _; go_simp; with_reducible rfl)
                  simp only [dstOf, List.getElem?_toArray, List.getElem?_cons_zero, Option.bind, Act.put, List.setIfInBounds_toArray, List.set_cons_zero, List.set_cons_succ]
                  refine till_take 1 16 false (v := ?v1d) (by kernel_rfl) (by kernel_rfl) (by kernel_rfl) (by kernel_rfl) (by kernel_rfl) (fun _ _ _ h => h) ?hw1d S0 ?hy1d ?rest1d
                  case hw1d => (simp only [List.getElem?_toArray, List.getElem?_cons_zero, List.getElem?_cons_succ, Option.elim]; rfl)
                  case hy1d => (simp only [List.getElem?_toArray, List.getElem?_cons_zero, List.getElem?_cons_succ, Option.elim]; intro wx _; go_simp; with_reducible rfl)
                  simp only [dstOf, List.getElem?_toArray, List.getElem?_cons_zero, List.getElem?_cons_succ, Option.bind, Act.put, List.setIfInBounds_toArray, List.set_cons_zero, List.set_cons_succ]
                  refine till_take 2 16 false (v := ?v2d) (by kernel_rfl) (by kernel_rfl) (by kernel_rfl) (by kernel_rfl) (by kernel_rfl) (fun _ _ _ h => h) ?hw2d S0 ?hy2d ?rest2d
                  case hw2d => (simp only [List.getElem?_toArray, List.getElem?_cons_zero, List.getElem?_cons_succ, Option.elim]; rfl)
                  case hy2d => (simp only [List.getElem?_toArray, List.getElem?_cons_zero, List.getElem?_cons_succ, Option.elim]; intro wx _; go_simp; with_reducible rfl)
                  simp only [dstOf, List.getElem?_toArray, List.getElem?_cons_zero, List.getElem?_cons_succ, Option.bind, Act.put, List.setIfInBounds_toArray, List.set_cons_zero, List.set_cons_succ]
                  refine till_take 3 16 false (v := ?v3d) (by kernel_rfl) (by kernel_rfl) (by kernel_rfl) (by kernel_rfl) (by kernel_rfl) (fun _ _ _ h => h) ?hw3d S0 ?hy3d ?rest3d
                  case hw3d => (simp only [List.getElem?_toArray, List.getElem?_cons_zero, List.getElem?_cons_succ, Option.elim]; rfl)
                  case hy3d => (simp only [List.getElem?_toArray, List.getElem?_cons_zero, List.getElem?_cons_succ, Option.elim]; intro wx _; go_simp; with_reducible rfl)
                  simp only [dstOf, List.getElem?_toArray, List.getElem?_cons_zero, List.getElem?_cons_succ, Option.bind, Act.put, List.setIfInBounds_toArray, List.set_cons_zero, List.set_cons_succ]
                  refine till_take 4 16 false (v := ?v4d) (by kernel_rfl) (by kernel_rfl) (by kernel_rfl) (by kernel_rfl) (by kernel_rfl) (fun _ _ _ h => h) ?hw4d S0 ?hy4d ?rest4d
                  case hw4d => (simp only [List.getElem?_toArray, List.getElem?_cons_zero, List.getElem?_cons_succ, Option.elim]; rfl)
                  case hy4d => (simp only [List.getElem?_toArray, List.getElem?_cons_zero, List.getElem?_cons_succ, Option.elim]; intro wx _; go_simp; with_reducible rfl)
                  simp only [dstOf, List.getElem?_toArray, List.getElem?_cons_zero, List.getElem?_cons_succ, Option.bind, Act.put, List.setIfInBounds_toArray, List.set_cons_zero, List.set_cons_succ]
                  refine till_take 5 16 false (v := ?v5d) (by kernel_rfl) (by kernel_rfl) (by kernel_rfl) (by kernel_rfl) (by kernel_rfl) (fun _ _ _ h => h) ?hw5d S0 ?hy5d ?rest5d
                  case hw5d => (simp only [List.getElem?_toArray, List.getElem?_cons_zero, List.getElem?_cons_succ, Option.elim]; rfl)
                  case hy5d => (simp only [List.getElem?_toArray, List.getElem?_cons_zero, List.getElem?_cons_succ, Option.elim]; intro wx _; go_simp; with_reducible rfl)
                  simp only [dstOf, List.getElem?_toArray, List.getElem?_cons_zero, List.getElem?_cons_succ, Option.bind, Act.put, List.setIfInBounds_toArray, List.set_cons_zero, List.set_cons_succ]
                  refine till_take 6 16 true (v := ?v6d) (by kernel_rfl) (by kernel_rfl) (by kernel_rfl) (by kernel_rfl) (by kernel_rfl) (fun _ _ _ h => h) ?hw6d S0 ?hy6d ?rest6d
                  case hw6d => (simp only [List.getElem?_toArray, List.getElem?_cons_zero, List.getElem?_cons_succ, Option.elim]; rfl)
                  case hy6d => (simp only [List.getElem?_toArray, List.getElem?_cons_zero, List.getElem?_cons_succ, Option.elim]; intro wx hx; have x0 := (hx trivial).1; have x1 := (hx trivial).2.1; have x2 := (hx trivial).2.2; go_simp; with_reducible rfl)
                  simp only [dstOf, List.getElem?_toArray, List.getElem?_cons_zero, List.getElem?_cons_succ, Option.bind, Act.put, List.setIfInBounds_toArray, List.set_cons_zero, List.set_cons_succ]
                  refine till_take 7 16 false (v := ?v7d) (by kernel_rfl) (by kernel_rfl) (by kernel_rfl) (by kernel_rfl) (by kernel_rfl) (fun _ _ _ h => h) ?hw7d S0 ?hy7d ?rest7d
                  case hw7d => (simp only [List.getElem?_toArray, List.getElem?_cons_zero, List.getElem?_cons_succ, Option.elim]; rfl)
                  case hy7d => (simp only [List.getElem?_toArray, List.getElem?_cons_zero, List.getElem?_cons_succ, Option.elim]; intro wx _; go_simp; with_reducible rfl)
                  simp only [dstOf, List.getElem?_toArray, List.getElem?_cons_zero, List.getElem?_cons_succ, Option.bind, Act.put, List.setIfInBounds_toArray, List.set_cons_zero, List.set_cons_succ]
                  refine till_take 8 16 false (v := ?v8d) (by kernel_rfl) (by kernel_rfl) (by kernel_rfl) (by kernel_rfl) (by kernel_rfl) (fun _ _ _ h => h) ?hw8d S0 ?hy8d ?rest8d
                  case hw8d => (simp only [List.getElem?_toArray, List.getElem?_cons_zero, List.getElem?_cons_succ, Option.elim]; rfl)
                  case hy8d => (simp only [List.getElem?_toArray, List.getElem?_cons_zero, List.getElem?_cons_succ, Option.elim]; intro wx _; go_simp; with_reducible rfl)
                  simp only [dstOf, List.getElem?_toArray, List.getElem?_cons_zero, List.getElem?_cons_succ, Option.bind, Act.put, List.setIfInBounds_toArray, List.set_cons_zero, List.set_cons_succ]
                  refine till_take 9 16 false (v := ?v9d) (by kernel_rfl) (by kernel_rfl) (by kernel_rfl) (by kernel_rfl) (by kernel_rfl) (fun _ _ _ h => h) ?hw9d S0 ?hy9d ?rest9d
                  case hw9d => (simp only [List.getElem?_toArray, List.getElem?_cons_zero, List.getElem?_cons_succ, Option.elim]; rfl)
                  case hy9d => (simp only [List.getElem?_toArray, List.getElem?_cons_zero, List.getElem?_cons_succ, Option.elim]; intro wx _; go_simp; with_reducible rfl)
                  simp only [dstOf, List.getElem?_toArray, List.getElem?_cons_zero, List.getElem?_cons_succ, Option.bind, Act.put, List.setIfInBounds_toArray, List.set_cons_zero, List.set_cons_succ]
                  refine till_take 10 16 true (v := ?v10d) (by kernel_rfl) (by kernel_rfl) (by kernel_rfl) (by kernel_rfl) (by kernel_rfl) (fun _ _ _ h => h) ?hw10d S0 ?hy10d ?rest10d
                  case hw10d => (simp only [List.getElem?_toArray, List.getElem?_cons_zero, List.getElem?_cons_succ, Option.elim]; rfl)
                  case hy10d => (simp only [List.getElem?_toArray, List.getElem?_cons_zero, List.getElem?_cons_succ, Option.elim]; intro wx hx; have x0 := (hx trivial).1; have x1 := (hx trivial).2.1; have x2 := (hx trivial).2.2; go_simp; with_reducible rfl)
                  simp only [dstOf, List.getElem?_toArray, List.getElem?_cons_zero, List.getElem?_cons_succ, Option.bind, Act.put, List.setIfInBounds_toArray, List.set_cons_zero, List.set_cons_succ]
                  refine till_take 11 16 false (v := ?v11d) (by kernel_rfl) (by kernel_rfl) (by kernel_rfl) (by kernel_rfl) (by kernel_rfl) (fun _ _ _ h => h) ?hw11d S0 ?hy11d ?rest11d
                  case hw11d => (simp only [List.getElem?_toArray, List.getElem?_cons_zero, List.getElem?_cons_succ, Option.elim]; rfl)
                  case hy11d => (simp only [List.getElem?_toArray, List.getElem?_cons_zero, List.getElem?_cons_succ, Option.elim]; intro wx _; go_simp; with_reducible rfl)
                  simp only [dstOf, List.getElem?_toArray, List.getElem?_cons_zero, List.getElem?_cons_succ, Option.bind, Act.put, List.setIfInBounds_toArray, List.set_cons_zero, List.set_cons_succ]
                  refine till_take 12 16 true (v := ?v12d) (by kernel_rfl) (by kernel_rfl) (by kernel_rfl) (by kernel_rfl) (by kernel_rfl) (fun _ _ _ h => h) ?hw12d S0 ?hy12d ?rest12d
                  case hw12d => (simp only [List.getElem?_toArray, List.getElem?_cons_zero, List.getElem?_cons_succ, Option.elim]; rfl)
                  case hy12d => (simp only [List.getElem?_toArray, List.getElem?_cons_zero, List.getElem?_cons_succ, Option.elim]; intro wx hx; have x0 := (hx trivial).1; have x1 := (hx trivial).2.1; have x2 := (hx trivial).2.2; go_simp; with_reducible rfl)
                  simp only [dstOf, List.getElem?_toArray, List.getElem?_cons_zero, List.getElem?_cons_succ, Option.bind, Act.put, List.setIfInBounds_toArray, List.set_cons_zero, List.set_cons_succ]
                  refine till_take 13 16 false (v := ?v13d) (by kernel_rfl) (by kernel_rfl) (by kernel_rfl) (by kernel_rfl) (by kernel_rfl) (fun _ _ _ h => h) ?hw13d S0 ?hy13d ?rest13d
                  case hw13d => (simp only [List.getElem?_toArray, List.getElem?_cons_zero, List.getElem?_cons_succ, Option.elim]; rfl)
                  case hy13d => (simp only [List.getElem?_toArray, List.getElem?_cons_zero, List.getElem?_cons_succ, Option.elim]; intro wx _; go_simp; with_reducible rfl)
                  simp only [dstOf, List.getElem?_toArray, List.getElem?_cons_zero, List.getElem?_cons_succ, Option.bind, Act.put, List.setIfInBounds_toArray, List.set_cons_zero, List.set_cons_succ]
                  refine till_step 14 (by kernel_rfl) (by kernel_rfl) (fun K hK => ?_)
                  simp only [List.getElem?_toArray, List.getElem?_cons_zero, List.getElem?_cons_succ, Option.elim]
                  rw [if_pos (by rfl)]
                  go_simp
                  refine hK.out _ _ ?_
                  clear hK K
                  try simp only [Act.put, List.setIfInBounds_toArray, List.set_cons_zero, List.set_cons_succ]
                  refine till_end (by kernel_rfl) ?_ _
                  clear S0
                  have S0 := And.intro c0 c1
                  go_wp2
                  refine region_till 8 (fun w' => w'.cell? ⟨w.heap.size, 0, none⟩ = some (.int .i64 n.1) ∧ w'.cell? ⟨w.heap.size, 1, none⟩ = some (.slice ua n.2.length uc)) (by kernel_rfl) ?_
                  refine till_take 0 16 false (v := ?v0e) (by kernel_rfl) (by kernel_rfl) (by kernel_rfl) (by kernel_rfl) (by kernel_rfl) (fun _ _ _ h => h) ?hw0e S0 ?hy0e ?rest0e
                  case hw0e => (simp only [List.getElem?_toArray, List.getElem?_cons_zero, Option.elim]; rfl)
                  case hy0e => (simp only [List.getElem?_toArray, List.getElem?_cons_zero, Option.elim]; intro wx _; go_simp; with_reducible rfl)
                  simp only [dstOf, List.getElem?_toArray, List.getElem?_cons_zero, Option.bind, Act.put, List.setIfInBounds_toArray, List.set_cons_zero, List.set_cons_succ]
                  refine till_take 1 16 false (v := ?v1e) (by kernel_rfl) (by kernel_rfl) (by kernel_rfl) (by kernel_rfl) (by kernel_rfl) (fun _ _ _ h => h) ?hw1e S0 ?hy1e ?rest1e
                  case hw1e => (simp only [List.getElem?_toArray, List.getElem?_cons_zero, List.getElem?_cons_succ, Option.elim]; rfl)
                  case hy1e => (simp only [List.getElem?_toArray, List.getElem?_cons_zero, List.getElem?_cons_succ, Option.elim]; intro wx _; go_simp; with_reducible rfl)
                  simp only [dstOf, List.getElem?_toArray, List.getElem?_cons_zero, List.getElem?_cons_succ, Option.bind, Act.put, List.setIfInBounds_toArray, List.set_cons_zero, List.set_cons_succ]
                  refine till_take 2 16 true (v := ?v2e) (by kernel_rfl) (by kernel_rfl) (by kernel_rfl) (by kernel_rfl) (by kernel_rfl) (fun _ _ _ h => h) ?hw2e S0 ?hy2e ?rest2e
                  case hw2e => (simp only [List.getElem?_toArray, List.getElem?_cons_zero, List.getElem?_cons_succ, Option.elim]; rfl)
                  case hy2e => (simp only [List.getElem?_toArray, List.getElem?_cons_zero, List.getElem?_cons_succ, Option.elim]; intro wx hx; have x0 := (hx trivial).1; have x1 := (hx trivial).2; go_simp; with_reducible rfl)
                  simp only [dstOf, List.getElem?_toArray, List.getElem?_cons_zero, List.getElem?_cons_succ, Option.bind, Act.put, List.setIfInBounds_toArray, List.set_cons_zero, List.set_cons_succ]
                  refine till_take 4 16 false (v := ?v4e) (by kernel_rfl) (by kernel_rfl) (by kernel_rfl) (by kernel_rfl) (by kernel_rfl) (fun _ _ _ h => h) ?hw4e S0 ?hy4e ?rest4e
                  case hw4e => (simp only [List.getElem?_toArray, List.getElem?_cons_zero, List.getElem?_cons_succ, Option.elim]; rfl)
                  case hy4e => (simp only [List.getElem?_toArray, List.getElem?_cons_zero, List.getElem?_cons_succ, Option.elim]; intro wx _; go_simp; with_reducible rfl)
                  simp only [dstOf, List.getElem?_toArray, List.getElem?_cons_zero, List.getElem?_cons_succ, Option.bind, Act.put, List.setIfInBounds_toArray, List.set_cons_zero, List.set_cons_succ]
                  refine till_take 5 16 true (v := ?v5e) (by kernel_rfl) (by kernel_rfl) (by kernel_rfl) (by kernel_rfl) (by kernel_rfl) (fun _ _ _ h => h) ?hw5e S0 ?hy5e ?rest5e
                  case hw5e => (simp only [List.getElem?_toArray, List.getElem?_cons_zero, List.getElem?_cons_succ, Option.elim]; rfl)
                  case hy5e => (simp only [List.getElem?_toArray, List.getElem?_cons_zero, List.getElem?_cons_succ, Option.elim]; intro wx hx; have x0 := (hx trivial).1; have x1 := (hx trivial).2; go_simp; with_reducible rfl)
                  simp only [dstOf, List.getElem?_toArray, List.getElem?_cons_zero, List.getElem?_cons_succ, Option.bind, Act.put, List.setIfInBounds_toArray, List.set_cons_zero, List.set_cons_succ]
                  refine till_before 3 (by kernel_rfl) (fun K hK => ?_)
                  simp only [List.getElem?_toArray, List.getElem?_cons_zero, List.getElem?_cons_succ, Option.elim]
                  rw [if_pos (by rfl)]
                  go_simp
                  refine hK.out _ _ (S1) ?_
                  clear hK K
                  try simp only [Act.put, List.setIfInBounds_toArray, List.set_cons_zero, List.set_cons_succ]
                  refine till_before 6 (by kernel_rfl) (fun K hK => ?_)
                  simp only [List.getElem?_toArray, List.getElem?_cons_zero, List.getElem?_cons_succ, Option.elim]
                  rw [if_pos (by rfl)]
                  refine Lib.wp_append_run _ (.tmp 74) (.tmp 76) 23 23 rfl _ _ rfl rfl _ _ R5.out ?_
                  refine hK.out _ _ (S2) ?_
                  clear hK K
                  try simp only [Act.put, List.setIfInBounds_toArray, List.set_cons_zero, List.set_cons_succ]
                  have S0 := S2
                  refine till_take 7 16 false (v := ?v7e) (by kernel_rfl) (by kernel_rfl) (by kernel_rfl) (by kernel_rfl) (by kernel_rfl) (fun _ _ _ h => h) ?hw7e S0 ?hy7e ?rest7e
                  case hw7e => (simp only [List.getElem?_toArray, List.getElem?_cons_zero, List.getElem?_cons_succ, Option.elim]; rfl)
                  case hy7e => (simp only [List.getElem?_toArray, List.getElem?_cons_zero, List.getElem?_cons_succ, Option.elim]; intro wx _; go_simp; with_reducible rfl)
                  simp only [dstOf, List.getElem?_toArray, List.getElem?_cons_zero, List.getElem?_cons_succ, Option.bind, Act.put, List.setIfInBounds_toArray, List.set_cons_zero, List.set_cons_succ]
                  refine till_step 8 (by kernel_rfl) (by kernel_rfl) (fun K hK => ?_)
                  simp only [List.getElem?_toArray, List.getElem?_cons_zero, List.getElem?_cons_succ, Option.elim]
                  rw [if_pos (by rfl)]
                  go_simp
                  refine hK.out _ _ ?_
                  clear hK K
                  try simp only [Act.put, List.setIfInBounds_toArray, List.set_cons_zero, List.set_cons_succ]
                  refine till_step 9 (by kernel_rfl) (by kernel_rfl) (fun K hK => ?_)
                  simp only [List.getElem?_toArray, List.getElem?_cons_zero, List.getElem?_cons_succ, Option.elim]
                  rw [if_pos (by rfl)]
                  refine Lib.wp_append_run _ (.tmp 71) (.tmp 79) 22 22 rfl _ _ rfl rfl _ _ R6.out ?_
                  refine hK.out _ _ ?_
                  clear hK K
                  try simp only [Act.put, List.setIfInBounds_toArray, List.set_cons_zero, List.set_cons_succ]
                  refine till_step 10 (by kernel_rfl) (by kernel_rfl) (fun K hK => ?_)
                  simp only [List.getElem?_toArray, List.getElem?_cons_zero, List.getElem?_cons_succ, Option.elim]
                  rw [if_pos (by rfl)]
                  go_simp
                  refine hK.out _ _ ?_
                  clear hK K
                  try simp only [Act.put, List.setIfInBounds_toArray, List.set_cons_zero, List.set_cons_succ]
                  refine till_end (by kernel_rfl) ?_ _
                  have e0 := below_cell HG2.out.c0 M6.out.below
                  have d0 := below_cell D0.out M6.out.below
                  have d1 := below_cell D1.out M6.out.below
                  clear S0 S1 S2 c0 c1 hgt
                  go_wp2_with (at_builtin; refine Hid.out ?_)
                  refine Lib.hid ?_
                  refine Lib.wpList_append_run _ rfl _ _ _ _ rfl _ _ rfl rfl _ _ R7.out ?_
                  go_wp2
                  go_roundw
                  case rel => exact ⟨k + 1, (O ++ [(n, .slice xa n.2.length xc)]) ++ [(m, .slice pa m.2.length pc)], true, .slice xa n.2.length xc, za, zc, by omega, by go_num, rfl, by rw [List.length_append, hO1]; rfl, HP7, HX7, by unfold addOs; rw [List.length_append, hO1]; rw [hO1] at M7; exact M7.out⟩
                  case measure => (simp [RowKit.intOf]; try omega)
                · obtain ⟨ya, yc, w7, r7, m7⟩ := (HM.out.fresh (below_drew wr)).pushNd (i := 0) rfl m pa m.2.length pc (by omega)
                  have R7 := Lib.hid r7
                  have M7 := Lib.hid m7
                  have HP7 := Lib.hid (HPT.out.less HTK.out (show m.1 < n.1 by omega))
                  clear r7 m7 c0 c1 hne
                  go_wp2
                  refine region_till 14 (fun w' => w'.cell? ⟨r, 0, none⟩ = some (.slice (some ⟨b1, off1, none⟩) T.length vc) ∧ w'.cell? ⟨b1, off1 + k * 2, none⟩ = some (.int .i64 m.1) ∧ w'.cell? ⟨w.heap.size, 0, none⟩ = some (.int .i64 n.1)) (by kernel_rfl) ?_
                  refine till_take 0 16 false (v := ?v0g) (by kernel_rfl) (by kernel_rfl) (by kernel_rfl) (by kernel_rfl) (by kernel_rfl) (fun _ _ _ h => h) ?hw0g S0 ?hy0g ?rest0g
                  case hw0g => (simp only [List.getElem?_toArray, List.getElem?_cons_zero, Option.elim]; rfl)
                  case hy0g => (simp only [List.getElem?_toArray, List.getElem?_cons_zero, Option.elim]; intro wx _; go_simp; with_reducible rfl)
                  simp only [dstOf, List.getElem?_toArray, List.getElem?_cons_zero, Option.bind, Act.put, List.setIfInBounds_toArray, List.set_cons_zero, List.set_cons_succ]
                  refine till_take 1 16 false (v := ?v1g) (by kernel_rfl) (by kernel_rfl) (by kernel_rfl) (by kernel_rfl) (by kernel_rfl) (fun _ _ _ h => h) ?hw1g S0 ?hy1g ?rest1g
                  case hw1g => (simp only [List.getElem?_toArray, List.getElem?_cons_zero, List.getElem?_cons_succ, Option.elim]; rfl)
                  case hy1g => (simp only [List.getElem?_toArray, List.getElem?_cons_zero, List.getElem?_cons_succ, Option.elim]; intro wx _; go_simp; with_reducible rfl)
                  simp only [dstOf, List.getElem?_toArray, List.getElem?_cons_zero, List.getElem?_cons_succ, Option.bind, Act.put, List.setIfInBounds_toArray, List.set_cons_zero, List.set_cons_succ]
                  refine till_take 2 16 false (v := ?v2g) (by kernel_rfl) (by kernel_rfl) (by kernel_rfl) (by kernel_rfl) (by kernel_rfl) (fun _ _ _ h => h) ?hw2g S0 ?hy2g ?rest2g
                  case hw2g => (simp only [List.getElem?_toArray, List.getElem?_cons_zero, List.getElem?_cons_succ, Option.elim]; rfl)
                  case hy2g => (simp only [List.getElem?_toArray, List.getElem?_cons_zero, List.getElem?_cons_succ, Option.elim]; intro wx _; go_simp; with_reducible rfl)
                  simp only [dstOf, List.getElem?_toArray, List.getElem?_cons_zero, List.getElem?_cons_succ, Option.bind, Act.put, List.setIfInBounds_toArray, List.set_cons_zero, List.set_cons_succ]
                  refine till_take 3 16 false (v := ?v3g) (by kernel_rfl) (by kernel_rfl) (by kernel_rfl) (by kernel_rfl) (by kernel_rfl) (fun _ _ _ h => h) ?hw3g S0 ?hy3g ?rest3g
                  case hw3g => (simp only [List.getElem?_toArray, List.getElem?_cons_zero, List.getElem?_cons_succ, Option.elim]; rfl)
                  case hy3g => (simp only [List.getElem?_toArray, List.getElem?_cons_zero, List.getElem?_cons_succ, Option.elim]; intro wx _; go_simp; with_reducible rfl)
                  simp only [dstOf, List.getElem?_toArray, List.getElem?_cons_zero, List.getElem?_cons_succ, Option.bind, Act.put, List.setIfInBounds_toArray, List.set_cons_zero, List.set_cons_succ]
                  refine till_take 4 16 false (v := ?v4g) (by kernel_rfl) (by kernel_rfl) (by kernel_rfl) (by kernel_rfl) (by kernel_rfl) (fun _ _ _ h => h) ?hw4g S0 ?hy4g ?rest4g
                  case hw4g => (simp only [List.getElem?_toArray, List.getElem?_cons_zero, List.getElem?_cons_succ, Option.elim]; rfl)
                  case hy4g => (simp only [List.getElem?_toArray, List.getElem?_cons_zero, List.getElem?_cons_succ, Option.elim]; intro wx _; go_simp; with_reducible rfl)
                  simp only [dstOf, List.getElem?_toArray, List.getElem?_cons_zero, List.getElem?_cons_succ, Option.bind, Act.put, List.setIfInBounds_toArray, List.set_cons_zero, List.set_cons_succ]
                  refine till_take 5 16 false (v := ?v5g) (by kernel_rfl) (by kernel_rfl) (by kernel_rfl) (by kernel_rfl) (by kernel_rfl) (fun _ _ _ h => h) ?hw5g S0 ?hy5g ?rest5g
                  case hw5g => (simp only [List.getElem?_toArray, List.getElem?_cons_zero, List.getElem?_cons_succ, Option.elim]; rfl)
                  case hy5g => (simp only [List.getElem?_toArray, List.getElem?_cons_zero, List.getElem?_cons_succ, Option.elim]; intro wx _; go_simp; with_reducible rfl)
                  simp only [dstOf, List.getElem?_toArray, List.getElem?_cons_zero, List.getElem?_cons_succ, Option.bind, Act.put, List.setIfInBounds_toArray, List.set_cons_zero, List.set_cons_succ]
                  refine till_take 6 16 true (v := ?v6g) (by kernel_rfl) (by kernel_rfl) (by kernel_rfl) (by kernel_rfl) (by kernel_rfl) (fun _ _ _ h => h) ?hw6g S0 ?hy6g ?rest6g
                  case hw6g => (simp only [List.getElem?_toArray, List.getElem?_cons_zero, List.getElem?_cons_succ, Option.elim]; rfl)
                  case hy6g => (simp only [List.getElem?_toArray, List.getElem?_cons_zero, List.getElem?_cons_succ, Option.elim]; intro wx hx; have x0 := (hx trivial).1; have x1 := (hx trivial).2.1; have x2 := (hx trivial).2.2; go_simp; with_reducible rfl)
                  simp only [dstOf, List.getElem?_toArray, List.getElem?_cons_zero, List.getElem?_cons_succ, Option.bind, Act.put, List.setIfInBounds_toArray, List.set_cons_zero, List.set_cons_succ]
                  refine till_take 7 16 false (v := ?v7g) (by kernel_rfl) (by kernel_rfl) (by kernel_rfl) (by kernel_rfl) (by kernel_rfl) (fun _ _ _ h => h) ?hw7g S0 ?hy7g ?rest7g
                  case hw7g => (simp only [List.getElem?_toArray, List.getElem?_cons_zero, List.getElem?_cons_succ, Option.elim]; rfl)
                  case hy7g => (simp only [List.getElem?_toArray, List.getElem?_cons_zero, List.getElem?_cons_succ, Option.elim]; intro wx _; go_simp; with_reducible rfl)
                  simp only [dstOf, List.getElem?_toArray, List.getElem?_cons_zero, List.getElem?_cons_succ, Option.bind, Act.put, List.setIfInBounds_toArray, List.set_cons_zero, List.set_cons_succ]
                  refine till_take 8 16 false (v := ?v8g) (by kernel_rfl) (by kernel_rfl) (by kernel_rfl) (by kernel_rfl) (by kernel_rfl) (fun _ _ _ h => h) ?hw8g S0 ?hy8g ?rest8g
                  case hw8g => (simp only [List.getElem?_toArray, List.getElem?_cons_zero, List.getElem?_cons_succ, Option.elim]; rfl)
                  case hy8g => (simp only [List.getElem?_toArray, List.getElem?_cons_zero, List.getElem?_cons_succ, Option.elim]; intro wx _; go_simp; with_reducible rfl)
                  simp only [dstOf, List.getElem?_toArray, List.getElem?_cons_zero, List.getElem?_cons_succ, Option.bind, Act.put, List.setIfInBounds_toArray, List.set_cons_zero, List.set_cons_succ]
                  refine till_take 9 16 false (v := ?v9g) (by kernel_rfl) (by kernel_rfl) (by kernel_rfl) (by kernel_rfl) (by kernel_rfl) (fun _ _ _ h => h) ?hw9g S0 ?hy9g ?rest9g
                  case hw9g => (simp only [List.getElem?_toArray, List.getElem?_cons_zero, List.getElem?_cons_succ, Option.elim]; rfl)
                  case hy9g => (simp only [List.getElem?_toArray, List.getElem?_cons_zero, List.getElem?_cons_succ, Option.elim]; intro wx _; go_simp; with_reducible rfl)
                  simp only [dstOf, List.getElem?_toArray, List.getElem?_cons_zero, List.getElem?_cons_succ, Option.bind, Act.put, List.setIfInBounds_toArray, List.set_cons_zero, List.set_cons_succ]
                  refine till_take 10 16 true (v := ?v10g) (by kernel_rfl) (by kernel_rfl) (by kernel_rfl) (by kernel_rfl) (by kernel_rfl) (fun _ _ _ h => h) ?hw10g S0 ?hy10g ?rest10g
                  case hw10g => (simp only [List.getElem?_toArray, List.getElem?_cons_zero, List.getElem?_cons_succ, Option.elim]; rfl)
                  case hy10g => (simp only [List.getElem?_toArray, List.getElem?_cons_zero, List.getElem?_cons_succ, Option.elim]; intro wx hx; have x0 := (hx trivial).1; have x1 := (hx trivial).2.1; have x2 := (hx trivial).2.2; go_simp; with_reducible rfl)
                  simp only [dstOf, List.getElem?_toArray, List.getElem?_cons_zero, List.getElem?_cons_succ, Option.bind, Act.put, List.setIfInBounds_toArray, List.set_cons_zero, List.set_cons_succ]
                  refine till_take 11 16 false (v := ?v11g) (by kernel_rfl) (by kernel_rfl) (by kernel_rfl) (by kernel_rfl) (by kernel_rfl) (fun _ _ _ h => h) ?hw11g S0 ?hy11g ?rest11g
                  case hw11g => (simp only [List.getElem?_toArray, List.getElem?_cons_zero, List.getElem?_cons_succ, Option.elim]; rfl)
                  case hy11g => (simp only [List.getElem?_toArray, List.getElem?_cons_zero, List.getElem?_cons_succ, Option.elim]; intro wx _; go_simp; with_reducible rfl)
                  simp only [dstOf, List.getElem?_toArray, List.getElem?_cons_zero, List.getElem?_cons_succ, Option.bind, Act.put, List.setIfInBounds_toArray, List.set_cons_zero, List.set_cons_succ]
                  refine till_take 12 16 true (v := ?v12g) (by kernel_rfl) (by kernel_rfl) (by kernel_rfl) (by kernel_rfl) (by kernel_rfl) (fun _ _ _ h => h) ?hw12g S0 ?hy12g ?rest12g
                  case hw12g => (simp only [List.getElem?_toArray, List.getElem?_cons_zero, List.getElem?_cons_succ, Option.elim]; rfl)
                  case hy12g => (simp only [List.getElem?_toArray, List.getElem?_cons_zero, List.getElem?_cons_succ, Option.elim]; intro wx hx; have x0 := (hx trivial).1; have x1 := (hx trivial).2.1; have x2 := (hx trivial).2.2; go_simp; with_reducible rfl)
                  simp only [dstOf, List.getElem?_toArray, List.getElem?_cons_zero, List.getElem?_cons_succ, Option.bind, Act.put, List.setIfInBounds_toArray, List.set_cons_zero, List.set_cons_succ]
                  refine till_take 13 16 false (v := ?v13g) (by kernel_rfl) (by kernel_rfl) (by kernel_rfl) (by kernel_rfl) (by kernel_rfl) (fun _ _ _ h => h) ?hw13g S0 ?hy13g ?rest13g
                  case hw13g => (simp only [List.getElem?_toArray, List.getElem?_cons_zero, List.getElem?_cons_succ, Option.elim]; rfl)
                  case hy13g => (simp only [List.getElem?_toArray, List.getElem?_cons_zero, List.getElem?_cons_succ, Option.elim]; intro wx _; go_simp; with_reducible rfl)
                  simp only [dstOf, List.getElem?_toArray, List.getElem?_cons_zero, List.getElem?_cons_succ, Option.bind, Act.put, List.setIfInBounds_toArray, List.set_cons_zero, List.set_cons_succ]
                  refine till_step 14 (by kernel_rfl) (by kernel_rfl) (fun K hK => ?_)
                  simp only [List.getElem?_toArray, List.getElem?_cons_zero, List.getElem?_cons_succ, Option.elim]
                  rw [if_pos (by rfl)]
                  go_simp
                  refine hK.out _ _ ?_
                  clear hK K
                  try simp only [Act.put, List.setIfInBounds_toArray, List.set_cons_zero, List.set_cons_succ]
                  refine till_end (by kernel_rfl) ?_ _
                  clear S0
                  go_wp2_with (at_builtin; refine Hid.out ?_)
                  refine Lib.hid ?_
                  refine Lib.wpList_append_run _ rfl _ _ _ _ rfl _ _ rfl rfl _ _ R7.out ?_
                  go_wp2
                  go_roundw
                  case rel => exact ⟨k + 1, O ++ [(m, .slice pa m.2.length pc)], false, xv, ya, yc, by omega, by go_num, rfl, by rw [List.length_append]; rfl, HP7, HX, by unfold addOs; rw [List.length_append]; exact M7.out⟩
                  case measure => (simp [RowKit.intOf]; try omega)
            · obtain rfl : k = T.length := by omega
              have OKI := Lib.hid (ins_ok HG.out.ok HRT.out HNI.out HALL.out)
              cases p with
              | true =>
                have HFIN := Lib.hid (HG.out.put B2.out OKI.out HM.out HX.out HPT.out.done)
                have fz : wr.frozen? ⟨r, 0, none⟩ = false := Lib.frozen_of_heap (HG2.out.keep HB.out).cell 0
                clear c0 c1
                go_wp2
                go_ret
                rw [HADD.out]
                exact ⟨rfl, HFIN.out⟩
              | false =>
                have HPb := HP2.out.keep HB.out
                obtain ⟨xa, xc, w5, r5, o5, b5, n5⟩ := copyN_run (HPb.keep (below_drew wr)) (by omega)
                have M5 := (HM.out.fresh (below_drew wr)).rowNewAt b5 o5 n5
                obtain ⟨ya, yc, w6, r6, m6⟩ := M5.pushNd (i := 0) rfl n xa n.2.length xc (by omega)
                have hO1 : (O ++ [(n, Value.slice xa n.2.length xc)]).length = O.length + 1 := by rw [List.length_append]; rfl
                have m6 : OMem w3 w6 (addOs n (.slice xa n.2.length xc) (.slice ya (O.length + 1) yc) (O ++ [(n, Value.slice xa n.2.length xc)]) true) := by unfold addOs; rw [hO1]; exact m6
                have R5 := Lib.hid r5
                have R6 := Lib.hid r6
                have HFIN := Lib.hid (HG.out.put B2.out OKI.out m6 (fun z hz => Nat.le_trans HB.out.size (n5 z hz)) (Put.last (xv := .slice xa n.2.length xc) HPT.out))
                have F0 := Lib.hid (below_cell HG2.out.c0 m6.below)
                have FZ := Lib.hid (show w6.frozen? ⟨r, 0, none⟩ = false from Lib.frozen_of_heap (HG2.out.keep m6.below).cell 0)
                have S2 := And.intro (below_cell c0 ((below_drew wr).trans b5)) (below_cell c1 ((below_drew wr).trans b5))
                have S1 := And.intro (below_cell c0 ((below_drew wr).trans ((Below.refl wr.drew.heap.size wr.drew).alloc (Nat.le_refl _) (.cells #[] 3)))) (below_cell c1 ((below_drew wr).trans ((Below.refl wr.drew.heap.size wr.drew).alloc (Nat.le_refl _) (.cells #[] 3))))
                have S0 := And.intro c0 c1
                clear m6 r5 r6 M5 o5 n5 b5 HPb
                go_wp2
                refine region_till 8 (fun w' => w'.cell? ⟨w.heap.size, 0, none⟩ = some (.int .i64 n.1) ∧ w'.cell? ⟨w.heap.size, 1, none⟩ = some (.slice ua n.2.length uc)) (by kernel_rfl) ?_
                refine till_take 0 16 false (v := ?v0f) (by kernel_rfl) (by kernel_rfl) (by kernel_rfl) (by kernel_rfl) (by kernel_rfl) (fun _ _ _ h => h) ?hw0f S0 ?hy0f ?rest0f
                case hw0f => (simp only [List.getElem?_toArray, List.getElem?_cons_zero, Option.elim]; rfl)
                case hy0f => (simp only [List.getElem?_toArray, List.getElem?_cons_zero, Option.elim]; intro wx _; go_simp; with_reducible rfl)
                simp only [dstOf, List.getElem?_toArray, List.getElem?_cons_zero, Option.bind, Act.put, List.setIfInBounds_toArray, List.set_cons_zero, List.set_cons_succ]
                refine till_take 1 16 false (v := ?v1f) (by kernel_rfl) (by kernel_rfl) (by kernel_rfl) (by kernel_rfl) (by kernel_rfl) (fun _ _ _ h => h) ?hw1f S0 ?hy1f ?rest1f
                case hw1f => (simp only [List.getElem?_toArray, List.getElem?_cons_zero, List.getElem?_cons_succ, Option.elim]; rfl)
                case hy1f => (simp only [List.getElem?_toArray, List.getElem?_cons_zero, List.getElem?_cons_succ, Option.elim]; intro wx _; go_simp; with_reducible rfl)
                simp only [dstOf, List.getElem?_toArray, List.getElem?_cons_zero, List.getElem?_cons_succ, Option.bind, Act.put, List.setIfInBounds_toArray, List.set_cons_zero, List.set_cons_succ]
                refine till_take 2 16 true (v := ?v2f) (by kernel_rfl) (by kernel_rfl) (by kernel_rfl) (by kernel_rfl) (by kernel_rfl) (fun _ _ _ h => h) ?hw2f S0 ?hy2f ?rest2f
                case hw2f => (simp only [List.getElem?_toArray, List.getElem?_cons_zero, List.getElem?_cons_succ, Option.elim]; rfl)
                case hy2f => (simp only [List.getElem?_toArray, List.getElem?_cons_zero, List.getElem?_cons_succ, Option.elim]; intro wx hx; have x0 := (hx trivial).1; have x1 := (hx trivial).2; go_simp; with_reducible rfl)
                simp only [dstOf, List.getElem?_toArray, List.getElem?_cons_zero, List.getElem?_cons_succ, Option.bind, Act.put, List.setIfInBounds_toArray, List.set_cons_zero, List.set_cons_succ]
                refine till_take 4 16 false (v := ?v4f) (by kernel_rfl) (by kernel_rfl) (by kernel_rfl) (by kernel_rfl) (by kernel_rfl) (fun _ _ _ h => h) ?hw4f S0 ?hy4f ?rest4f
                case hw4f => (simp only [List.getElem?_toArray, List.getElem?_cons_zero, List.getElem?_cons_succ, Option.elim]; rfl)
                case hy4f => (simp only [List.getElem?_toArray, List.getElem?_cons_zero, List.getElem?_cons_succ, Option.elim]; intro wx _; go_simp; with_reducible rfl)
                simp only [dstOf, List.getElem?_toArray, List.getElem?_cons_zero, List.getElem?_cons_succ, Option.bind, Act.put, List.setIfInBounds_toArray, List.set_cons_zero, List.set_cons_succ]
                refine till_take 5 16 true (v := ?v5f) (by kernel_rfl) (by kernel_rfl) (by kernel_rfl) (by kernel_rfl) (by kernel_rfl) (fun _ _ _ h => h) ?hw5f S0 ?hy5f ?rest5f
                case hw5f => (simp only [List.getElem?_toArray, List.getElem?_cons_zero, List.getElem?_cons_succ, Option.elim]; rfl)
                case hy5f => (simp only [List.getElem?_toArray, List.getElem?_cons_zero, List.getElem?_cons_succ, Option.elim]; intro wx hx; have x0 := (hx trivial).1; have x1 := (hx trivial).2; go_simp; with_reducible rfl)
                simp only [dstOf, List.getElem?_toArray, List.getElem?_cons_zero, List.getElem?_cons_succ, Option.bind, Act.put, List.setIfInBounds_toArray, List.set_cons_zero, List.set_cons_succ]
                refine till_before 3 (by kernel_rfl) (fun K hK => ?_)
                simp only [List.getElem?_toArray, List.getElem?_cons_zero, List.getElem?_cons_succ, Option.elim]
                rw [if_pos (by rfl)]
                go_simp
                refine hK.out _ _ (S1) ?_
                clear hK K
                try simp only [Act.put, List.setIfInBounds_toArray, List.set_cons_zero, List.set_cons_succ]
                refine till_before 6 (by kernel_rfl) (fun K hK => ?_)
                simp only [List.getElem?_toArray, List.getElem?_cons_zero, List.getElem?_cons_succ, Option.elim]
                rw [if_pos (by rfl)]
                refine Lib.wp_append_run _ (.tmp 96) (.tmp 98) 23 23 rfl _ _ rfl rfl _ _ R5.out ?_
                refine hK.out _ _ (S2) ?_
                clear hK K
                try simp only [Act.put, List.setIfInBounds_toArray, List.set_cons_zero, List.set_cons_succ]
                have S0 := S2
                refine till_take 7 16 false (v := ?v7f) (by kernel_rfl) (by kernel_rfl) (by kernel_rfl) (by kernel_rfl) (by kernel_rfl) (fun _ _ _ h => h) ?hw7f S0 ?hy7f ?rest7f
                case hw7f => (simp only [List.getElem?_toArray, List.getElem?_cons_zero, List.getElem?_cons_succ, Option.elim]; rfl)
                case hy7f => (simp only [List.getElem?_toArray, List.getElem?_cons_zero, List.getElem?_cons_succ, Option.elim]; intro wx _; go_simp; with_reducible rfl)
                simp only [dstOf, List.getElem?_toArray, List.getElem?_cons_zero, List.getElem?_cons_succ, Option.bind, Act.put, List.setIfInBounds_toArray, List.set_cons_zero, List.set_cons_succ]
                refine till_step 8 (by kernel_rfl) (by kernel_rfl) (fun K hK => ?_)
                simp only [List.getElem?_toArray, List.getElem?_cons_zero, List.getElem?_cons_succ, Option.elim]
                rw [if_pos (by rfl)]
                go_simp
                refine hK.out _ _ ?_
                clear hK K
                try simp only [Act.put, List.setIfInBounds_toArray, List.set_cons_zero, List.set_cons_succ]
                refine till_step 9 (by kernel_rfl) (by kernel_rfl) (fun K hK => ?_)
                simp only [List.getElem?_toArray, List.getElem?_cons_zero, List.getElem?_cons_succ, Option.elim]
                rw [if_pos (by rfl)]
                refine Lib.wp_append_run _ (.tmp 93) (.tmp 101) 22 22 rfl _ _ rfl rfl _ _ R6.out ?_
                refine hK.out _ _ ?_
                clear hK K
                try simp only [Act.put, List.setIfInBounds_toArray, List.set_cons_zero, List.set_cons_succ]
                refine till_step 10 (by kernel_rfl) (by kernel_rfl) (fun K hK => ?_)
                simp only [List.getElem?_toArray, List.getElem?_cons_zero, List.getElem?_cons_succ, Option.elim]
                rw [if_pos (by rfl)]
                go_simp
                refine hK.out _ _ ?_
                clear hK K
                try simp only [Act.put, List.setIfInBounds_toArray, List.set_cons_zero, List.set_cons_succ]
                refine till_end (by kernel_rfl) ?_ _
                have e0 := F0.out
                have fz := FZ.out
                clear S0 S1 S2 c0 c1
                go_wp2
                go_ret
                rw [HADD.out]
                exact ⟨rfl, HFIN.out⟩
    · have hng : ¬ ((t : Nat) : Int) < 0 := by omega
      have hge : ((t : Nat) : Int) ≥ 0 := by omega
      have hpar := par_at HG2.out.ok hm
      rw [hmn] at hpar
      have hin : n.1 ∈ ids G := hmn ▸ ids_of (List.mem_of_getElem? hm)
      obtain ⟨mu, hx⟩ := HG2.out.nth hm
      have htl := (List.getElem?_eq_some_iff.1 hx).1
      obtain ⟨b1, off1, cap1, pa, pc, e1, hcap, hmv, d0, d1, hmp⟩ := HG2.out.at_ hx
      have hmp : NumsAt w3 (.slice pa m.2.length pc) m.2 := hmp
      have d1 : w3.cell? ⟨b1, off1 + t * 2 + 1, none⟩ = some (.slice pa m.2.length pc) := d1
      have e0 := HG2.out.c0
      subst e1
      have HSM := Lib.hid (s_same (hmp.keep (below_drew w3)) (HP2.out.keep (below_drew w3)) (by have := par_few HG.out.ok n.1; rw [hpar] at this; omega))
      have S0 := And.intro e0 (And.intro d1 c1)
      have HDEC := Lib.hid (show (add G n).2 = G ∧ (add G n).1 = if decide (m.2 = n.2) then 0 else 5 by
        by_cases he : m.2 = n.2
        · rw [add_there HRT.out hin (hpar.trans he)]; simp [he]
        · rw [add_twice HRT.out hin (fun q => he (hpar ▸ q))]; simp [he])
      clear hm hmn hpar hin hx hmv d0 hmp
      generalize decide (m.2 = n.2) = same at HSM HDEC
      go_wp2
      refine region_till 10 (fun w' => w'.cell? ⟨r, 0, none⟩ = some (.slice (some ⟨b1, off1, none⟩) T.length cap1) ∧ w'.cell? ⟨b1, off1 + t * 2 + 1, none⟩ = some (.slice pa m.2.length pc) ∧ w'.cell? ⟨w.heap.size, 1, none⟩ = some (.slice ua n.2.length uc)) (by kernel_rfl) ?_
      refine till_take 0 16 false (v := ?v0) (by kernel_rfl) (by kernel_rfl) (by kernel_rfl) (by kernel_rfl) (by kernel_rfl) (fun _ _ _ h => h) ?hw0 S0 ?hy0 ?rest0
      case hw0 => (simp only [List.getElem?_toArray, List.getElem?_cons_zero, Option.elim]; rfl)
      case hy0 => (simp only [List.getElem?_toArray, List.getElem?_cons_zero, Option.elim]; intro wx _; go_simp; with_reducible rfl)
      simp only [dstOf, List.getElem?_toArray, List.getElem?_cons_zero, Option.bind, Act.put, List.setIfInBounds_toArray, List.set_cons_zero, List.set_cons_succ]
      refine till_take 1 16 false (v := ?v1) (by kernel_rfl) (by kernel_rfl) (by kernel_rfl) (by kernel_rfl) (by kernel_rfl) (fun _ _ _ h => h) ?hw1 S0 ?hy1 ?rest1
      case hw1 => (simp only [List.getElem?_toArray, List.getElem?_cons_zero, List.getElem?_cons_succ, Option.elim]; rfl)
      case hy1 => (simp only [List.getElem?_toArray, List.getElem?_cons_zero, List.getElem?_cons_succ, Option.elim]; intro wx _; go_simp; with_reducible rfl)
      simp only [dstOf, List.getElem?_toArray, List.getElem?_cons_zero, List.getElem?_cons_succ, Option.bind, Act.put, List.setIfInBounds_toArray, List.set_cons_zero, List.set_cons_succ]
      refine till_take 2 16 false (v := ?v2) (by kernel_rfl) (by kernel_rfl) (by kernel_rfl) (by kernel_rfl) (by kernel_rfl) (fun _ _ _ h => h) ?hw2 S0 ?hy2 ?rest2
      case hw2 => (simp only [List.getElem?_toArray, List.getElem?_cons_zero, List.getElem?_cons_succ, Option.elim]; rfl)
      case hy2 => (simp only [List.getElem?_toArray, List.getElem?_cons_zero, List.getElem?_cons_succ, Option.elim]; intro wx _; go_simp; with_reducible rfl)
      simp only [dstOf, List.getElem?_toArray, List.getElem?_cons_zero, List.getElem?_cons_succ, Option.bind, Act.put, List.setIfInBounds_toArray, List.set_cons_zero, List.set_cons_succ]
      refine till_take 3 16 true (v := ?v3) (by kernel_rfl) (by kernel_rfl) (by kernel_rfl) (by kernel_rfl) (by kernel_rfl) (fun _ _ _ h => h) ?hw3 S0 ?hy3 ?rest3
      case hw3 => (simp only [List.getElem?_toArray, List.getElem?_cons_zero, List.getElem?_cons_succ, Option.elim]; rfl)
      case hy3 => (simp only [List.getElem?_toArray, List.getElem?_cons_zero, List.getElem?_cons_succ, Option.elim]; intro wx hx; have x0 := (hx trivial).1; have x1 := (hx trivial).2.1; have x2 := (hx trivial).2.2; go_simp; with_reducible rfl)
      simp only [dstOf, List.getElem?_toArray, List.getElem?_cons_zero, List.getElem?_cons_succ, Option.bind, Act.put, List.setIfInBounds_toArray, List.set_cons_zero, List.set_cons_succ]
      refine till_take 4 16 false (v := ?v4) (by kernel_rfl) (by kernel_rfl) (by kernel_rfl) (by kernel_rfl) (by kernel_rfl) (fun _ _ _ h => h) ?hw4 S0 ?hy4 ?rest4
      case hw4 => (simp only [List.getElem?_toArray, List.getElem?_cons_zero, List.getElem?_cons_succ, Option.elim]; rfl)
      case hy4 => (simp only [List.getElem?_toArray, List.getElem?_cons_zero, List.getElem?_cons_succ, Option.elim]; intro wx _; go_simp; with_reducible rfl)
      simp only [dstOf, List.getElem?_toArray, List.getElem?_cons_zero, List.getElem?_cons_succ, Option.bind, Act.put, List.setIfInBounds_toArray, List.set_cons_zero, List.set_cons_succ]
      refine till_take 5 16 false (v := ?v5) (by kernel_rfl) (by kernel_rfl) (by kernel_rfl) (by kernel_rfl) (by kernel_rfl) (fun _ _ _ h => h) ?hw5 S0 ?hy5 ?rest5
      case hw5 => (simp only [List.getElem?_toArray, List.getElem?_cons_zero, List.getElem?_cons_succ, Option.elim]; rfl)
      case hy5 => (simp only [List.getElem?_toArray, List.getElem?_cons_zero, List.getElem?_cons_succ, Option.elim]; intro wx _; go_simp; with_reducible rfl)
      simp only [dstOf, List.getElem?_toArray, List.getElem?_cons_zero, List.getElem?_cons_succ, Option.bind, Act.put, List.setIfInBounds_toArray, List.set_cons_zero, List.set_cons_succ]
      refine till_take 6 16 false (v := ?v6) (by kernel_rfl) (by kernel_rfl) (by kernel_rfl) (by kernel_rfl) (by kernel_rfl) (fun _ _ _ h => h) ?hw6 S0 ?hy6 ?rest6
      case hw6 => (simp only [List.getElem?_toArray, List.getElem?_cons_zero, List.getElem?_cons_succ, Option.elim]; rfl)
      case hy6 => (simp only [List.getElem?_toArray, List.getElem?_cons_zero, List.getElem?_cons_succ, Option.elim]; intro wx _; go_simp; with_reducible rfl)
      simp only [dstOf, List.getElem?_toArray, List.getElem?_cons_zero, List.getElem?_cons_succ, Option.bind, Act.put, List.setIfInBounds_toArray, List.set_cons_zero, List.set_cons_succ]
      refine till_take 7 16 true (v := ?v7) (by kernel_rfl) (by kernel_rfl) (by kernel_rfl) (by kernel_rfl) (by kernel_rfl) (fun _ _ _ h => h) ?hw7 S0 ?hy7 ?rest7
      case hw7 => (simp only [List.getElem?_toArray, List.getElem?_cons_zero, List.getElem?_cons_succ, Option.elim]; rfl)
      case hy7 => (simp only [List.getElem?_toArray, List.getElem?_cons_zero, List.getElem?_cons_succ, Option.elim]; intro wx hx; have x0 := (hx trivial).1; have x1 := (hx trivial).2.1; have x2 := (hx trivial).2.2; go_simp; with_reducible rfl)
      simp only [dstOf, List.getElem?_toArray, List.getElem?_cons_zero, List.getElem?_cons_succ, Option.bind, Act.put, List.setIfInBounds_toArray, List.set_cons_zero, List.set_cons_succ]
      refine till_take 8 16 false (v := ?v8) (by kernel_rfl) (by kernel_rfl) (by kernel_rfl) (by kernel_rfl) (by kernel_rfl) (fun _ _ _ h => h) ?hw8 S0 ?hy8 ?rest8
      case hw8 => (simp only [List.getElem?_toArray, List.getElem?_cons_zero, List.getElem?_cons_succ, Option.elim]; rfl)
      case hy8 => (simp only [List.getElem?_toArray, List.getElem?_cons_zero, List.getElem?_cons_succ, Option.elim]; intro wx _; go_simp; with_reducible rfl)
      simp only [dstOf, List.getElem?_toArray, List.getElem?_cons_zero, List.getElem?_cons_succ, Option.bind, Act.put, List.setIfInBounds_toArray, List.set_cons_zero, List.set_cons_succ]
      refine till_take 9 16 true (v := ?v9) (by kernel_rfl) (by kernel_rfl) (by kernel_rfl) (by kernel_rfl) (by kernel_rfl) (fun _ _ _ h => h) ?hw9 S0 ?hy9 ?rest9
      case hw9 => (simp only [List.getElem?_toArray, List.getElem?_cons_zero, List.getElem?_cons_succ, Option.elim]; rfl)
      case hy9 => (simp only [List.getElem?_toArray, List.getElem?_cons_zero, List.getElem?_cons_succ, Option.elim]; intro wx hx; have x0 := (hx trivial).1; have x1 := (hx trivial).2.1; have x2 := (hx trivial).2.2; go_simp; with_reducible rfl)
      simp only [dstOf, List.getElem?_toArray, List.getElem?_cons_zero, List.getElem?_cons_succ, Option.bind, Act.put, List.setIfInBounds_toArray, List.set_cons_zero, List.set_cons_succ]
      refine till_step 10 (by kernel_rfl) (by kernel_rfl) (fun K hK => ?_)
      simp only [List.getElem?_toArray, List.getElem?_cons_zero, List.getElem?_cons_succ, Option.elim]
      rw [if_pos (by rfl)]
      go_simp
      go_at_call 17
      refine (HSM.out).mono ?_
      rintro e w4 ⟨rfl, b4⟩
      refine hK.out _ _ ?_
      clear hK K
      try simp only [Act.put, List.setIfInBounds_toArray, List.set_cons_zero, List.set_cons_succ]
      refine till_end (by kernel_rfl) ?_ _
      have HB4 := Lib.hid (B2.out.trans (((below_drew w3).trans b4).mono B2.out.size))
      clear S0 b4 HSM
      cases same with
      | true =>
        go_wp2
        go_ret
        rw [HDEC.out.1, HDEC.out.2]
        exact ⟨rfl, HG.out.stays HB4.out⟩
      | false =>
        go_wp2
        go_ret
        rw [HDEC.out.1, HDEC.out.2]
        exact ⟨rfl, HG.out.stays HB4.out⟩
  · have HA := Lib.hid (add_right (G := G) hr)
    rw [show right n = false by simpa using hr] at HV
    clear hr
    go_enter Try.func9, Try.ntmps9
    go_wp2_with (go_at_call 40; refine (HV.out).mono ?_; rintro e w2 ⟨rfl, g2⟩; refine Hid.out ?_)
    refine Lib.hid ?_
    go_wp2
    go_ret
    rw [HA.out]
    exact ⟨rfl, HG.out.stays (B1.out.trans (g2.mono B1.out.size))⟩
end
end Go.Proofs.Ytihnnffhpgbgjaa
