/- The reference's graph: Restrict. -/
import Derived.Test.YtihnnffhpgbgjaaRadd
namespace Go.Proofs.Ytihnnffhpgbgjaa
open Go.RowKit Go.Maps Go.ChangeMaps Go.MapKept
open Gp
attribute [local go_sem ↓] Go.wp_at_zero Go.wp_at_succ

/-- A graph whose struct is new; its parents' slices may be another one's. -/
def NewR (w w' : World) (G : List Nd) (S : Nat → Prop) (e : Ending) : Prop := ∃ c v' T' S', e = .returned (.pointer (some ⟨c, 0, none⟩)) ∧ RIn w' c G v' T' S' ∧ Below w.heap.size w w' ∧ w.heap.size ≤ c ∧ ∀ z, S' z → S z ∨ w.heap.size ≤ z
/-- What the loop has built. -/
def resOs (c : Nat) (ov : Value) (O : List (Nd × Value)) : List Ob := [.raw c (.cells #[ov] 30 (0, 0)), .row 32 2 ov O.length (ndVs O)]
section
variable {w : World} {r : Nat} {G : List Nd} {v : Value} {T : List (Nd × Value)} {S : Nat → Prop}
theorem RIn.built {w3 wr : World} {c : Nat} {ov : Value} {O : List (Nd × Value)} {G' : List Nd} (h : RIn w r G v T S) (hb : Below w.heap.size w w3) (hc : w3.heap.size ≤ c) (ok : Ok G') (M : OMem w3 wr (resOs c ov O))
    (hO : O.map (·.1) = G' ∧ ∀ y ∈ O, y ∈ T) : NewR w wr G' S (.returned (.pointer (some ⟨c, 0, none⟩))) := by
  have hb2 := hb.trans (M.below.mono hb.size)
  have h2 := h.keep hb2
  have hrow := M.rowAt (i := 1) rfl
  have hraw := M.raw_at (i := 0) rfl
  have hs := hb.size
  have hlt := h.lt
  have hne : ∀ z, ov.ownBlock = some z → z ≠ c := fun z hz e => by
    subst e
    obtain ⟨lab, hm⟩ := M
    obtain ⟨B, S1, hq, hl, _⟩ := hm.at_ 0 _ rfl
    obtain ⟨B2, S2, hq2, hl2, _⟩ := hm.at_ 1 _ rfl
    have e1 := hl z ((hq.2.1 z).2 rfl)
    have e2 := hl2 z ((hq2.2.1 z).2 hz)
    omega
  refine ⟨c, ov, O, fun z => ov.ownBlock = some z ∨ S z, rfl, ⟨ok, hO.1, hraw, hrow, fun z hz => .inl hz, fun x hx => ⟨(h2.rows x (hO.2 x hx)).1, fun z hz => .inr ((h2.rows x (hO.2 x hx)).2 z hz)⟩, fun z hz => ?_⟩, hb2, Nat.le_trans hs hc, fun z hz => ?_⟩
  · rcases hz with q | q
    · exact ⟨(hrow.lt z q).2, hne z q⟩
    · have := hlt z (.inr q)
      exact ⟨(h2.sep z q).1, by omega⟩
  · rcases hz with q | q
    · exact .inr (Nat.le_trans hs (M.rowNew (i := 1) rfl z q))
    · exact .inl q
theorem OMem.newRes {w0 w : World} {os : List Ob} {i r : Nat} {G G' : List Nd} (h : OMem w0 w os) (hi : os[i]? = some (.of (refK r G))) : ∃ v T S, RIn w r G v T S ∧ ∀ {w' e}, NewR w w' G' S e → ∃ c, e = .returned (.pointer (some ⟨c, 0, none⟩)) ∧ Below w.heap.size w w' ∧ OMem w0 w' (os ++ [.of (refK c G')]) := by
  obtain ⟨B, S, ⟨v, T, hg, hB⟩, hmk⟩ := h.makeOf hi
  refine ⟨v, T, S, hg, fun {w' e} ⟨c, v', T', S', he, hg', hb, hc, hS'⟩ => ⟨c, he, hb, hmk hb (K' := refK c G') (B' := (· = c)) (S' := S') ⟨v', T', hg', fun _ => Iff.rfl⟩ (fun x hx => by have : x = c := hx; omega) fun x hx => ?_⟩⟩
  rcases hS' x hx with q | q
  · exact .inl q
  · exact .inr (.inr ⟨q, fun e => (hg'.sep x hx).2 e⟩)
set_option maxHeartbeats 8000000 in
set_option maxRecDepth 100000 in
theorem rrestrict_any (h : RIn w r G v T S) (hG : G.length ≤ 100) {u : Value} {xs : List Int} (hu : NumsAt w u xs) (hx : xs.length ≤ 1000) :
    Calls Try.prog 25 #[.pointer (some ⟨r, 0, none⟩), u] w fun e w' => NewR w w' (restrict G xs) S e := by
  have HG := Lib.hid h
  have HD := Lib.hid (rdown_any h.rat hG hu hx)
  have hTl : T.length ≤ 100 := by rw [h.len]; exact hG
  obtain ⟨va, vc, hva⟩ := h.slice
  subst hva
  have HDL := Lib.hid (show (down G xs).length ≤ 100 from Nat.le_trans (List.length_filter_le _ _) (by simp [ids]; omega))
  clear h hu
  go_enter Try.func25, Try.ntmps25
  go_wp2_with (go_at_call 27; refine (HD.out).mono ?_; rintro e w2 ⟨d, rfl, hd, b2⟩; refine Hid.out ?_)
  refine Lib.hid ?_
  have HDN := Lib.hid hd
  have B2 := Lib.hid b2
  have M0 := Lib.hid (((OMem.start w2).raw (.cells #[.slice none 0 0] 30)).rowNil 32 2)
  have HG2 := Lib.hid (HG.out.keep b2)
  clear hd b2 HD
  go_wp2
  go_loopw [7] (fun i wr => ∃ (k : Nat) (oa : Option Addr) (oc : Nat), k ≤ T.length ∧ i = .int .i64 k ∧ OMem w2 wr (resOs w2.heap.size (.slice oa ((T.take k).filter fun x => inDown G xs x.1.1).length oc) ((T.take k).filter fun x => inDown G xs x.1.1))) (fun i _ => T.length - (RowKit.intOf i).toNat)
  case atStart => exact ⟨0, none, 0, Nat.zero_le _, rfl, M0.out⟩
  case round =>
    obtain ⟨k, oa, oc, hk, rfl, M⟩ := hrel
    have HM := Lib.hid M
    have HB := Lib.hid M.below
    have e0 := below_cell HG2.out.c0 HB.out
    clear M
    by_cases hlt : k < T.length
    · obtain ⟨⟨m, mv⟩, hx⟩ : ∃ x, T[k]? = some x := ⟨_, List.getElem?_eq_getElem hlt⟩
      obtain ⟨b1, off1, cap1, pa, pc, e1, hcap, hmv, d0, d1, _⟩ := HG2.out.at_ hx
      have hmv : mv = .slice pa m.2.length pc := hmv
      subst hmv
      cases e1
      have D0 := Lib.hid (show w2.cell? ⟨b1, off1 + k * 2, none⟩ = some (.int .i64 m.1) from d0)
      have D1 := Lib.hid (show w2.cell? ⟨b1, off1 + k * 2 + 1, none⟩ = some (.slice pa m.2.length pc) from d1)
      clear d0 d1
      have d0 := below_cell D0.out HB.out
      have d1 := below_cell D1.out HB.out
      have hin : (down G xs).contains m.1 = inDown G xs m.1 := by
        have hmi : m.1 ∈ ids G := ids_of (List.mem_of_getElem? (HG2.out.nd hx))
        rw [Bool.eq_iff_iff, List.contains_iff_mem]
        unfold down
        rw [List.mem_filter]
        exact ⟨fun q => q.2, fun q => ⟨hmi, q⟩⟩
      have HS := s_has m.1 (HDN.out.keep HB.out) (by have := HDL.out; omega)
      rw [hin] at HS
      have HT := Lib.hid (show (T.take (k + 1)).filter (fun x => inDown G xs x.1.1) = (T.take k).filter (fun x => inDown G xs x.1.1) ++ (if inDown G xs m.1 = true then [(m, .slice pa m.2.length pc)] else []) by
        rw [List.take_add_one, hx, List.filter_append]
        congr 1
        show [(m, Value.slice pa m.2.length pc)].filter (fun x => inDown G xs x.1.1) = _
        rw [List.filter_cons, List.filter_nil])
      have hol : ((T.take k).filter fun x => inDown G xs x.1.1).length ≤ 100 := by
        refine Nat.le_trans (List.length_filter_le _ _) ?_
        rw [List.length_take]; omega
      clear hx hin
      generalize (T.take k).filter (fun x => inDown G xs x.1.1) = O at HM HT hol
      have HS := Lib.hid HS
      cases hi : inDown G xs m.1 with
      | true =>
        rw [hi] at HS HT
        clear hi
        obtain ⟨ya, yc, w7, r7, m7⟩ := (HM.out.fresh (below_drew wr)).pushNd (i := 1) rfl m pa m.2.length pc (by omega)
        have R7 := Lib.hid r7
        have hO1 : (O ++ [(m, Value.slice pa m.2.length pc)]).length = O.length + 1 := by rw [List.length_append]; rfl
        have hraw := HM.out.raw_at (i := 0) rfl
        have f0 : wr.cell? ⟨w2.heap.size, 0, none⟩ = some (.slice oa O.length oc) := by simp [World.cell?, hraw]
        have FZ := Lib.hid (Lib.frozen_of_heap (m7.raw_at (i := 0) rfl) 0)
        have M7 := Lib.hid (show OMem w2 (w7.setCell ⟨w2.heap.size, 0, none⟩ (.slice ya (O.length + 1) yc)) (resOs w2.heap.size (.slice ya (O ++ [(m, Value.slice pa m.2.length pc)]).length yc) (O ++ [(m, Value.slice pa m.2.length pc)])) by
          rw [hO1]
          have := m7.raw_set (i := 0) rfl 0 (.slice ya (O.length + 1) yc)
          unfold resOs; rw [hO1]; exact this)
        have F7 := Lib.hid (show w7.cell? ⟨w2.heap.size, 0, none⟩ = some (.slice oa O.length oc) by simp [World.cell?, (m7.raw_at (i := 0) rfl : w7.heap[w2.heap.size]? = some (.cells #[.slice oa O.length oc] 30 (0, 0)))])
        have S0 := And.intro e0 (And.intro f0 (And.intro d0 d1))
        have hal := (Below.refl wr.drew.heap.size wr.drew).alloc (Nat.le_refl _) (.cells #[.int .i64 m.1, .slice pa m.2.length pc] 32)
        have hbd := (below_drew wr).trans hal
        have S1 := And.intro (below_cell e0 hbd) (And.intro (below_cell f0 hbd) (And.intro (below_cell d0 hbd) (below_cell d1 hbd)))
        clear r7 m7 hraw hal hbd
        go_wp2_with (go_at_call 41; refine (HS.out).mono ?_; rintro e w4 ⟨rfl, rfl⟩; refine Hid.out ?_)
        refine Lib.hid ?_
        clear HS
        go_wp2
        refine region_till 13 (fun w' => w'.cell? ⟨r, 0, none⟩ = some (.slice (some ⟨b1, off1, none⟩) T.length vc) ∧ w'.cell? ⟨w2.heap.size, 0, none⟩ = some (.slice oa O.length oc) ∧ w'.cell? ⟨b1, off1 + k * 2, none⟩ = some (.int .i64 m.1) ∧ w'.cell? ⟨b1, off1 + k * 2 + 1, none⟩ = some (.slice pa m.2.length pc)) (by kernel_rfl) ?_
        refine till_take 0 20 false (v := ?v0) (by kernel_rfl) (by kernel_rfl) (by kernel_rfl) (by kernel_rfl) (by kernel_rfl) (fun _ _ _ h => h) ?hw0 S0 ?hy0 ?rest0
        case hw0 => (simp only [List.getElem?_toArray, List.getElem?_cons_zero, Option.elim]; rfl)
        case hy0 => (simp only [List.getElem?_toArray, List.getElem?_cons_zero, Option.elim]; intro wx _; go_simp; with_reducible rfl)
        simp only [dstOf, List.getElem?_toArray, List.getElem?_cons_zero, Option.bind, Act.put, List.setIfInBounds_toArray, List.set_cons_zero, List.set_cons_succ]
        refine till_take 1 20 false (v := ?v1) (by kernel_rfl) (by kernel_rfl) (by kernel_rfl) (by kernel_rfl) (by kernel_rfl) (fun _ _ _ h => h) ?hw1 S0 ?hy1 ?rest1
        case hw1 => (simp only [List.getElem?_toArray, List.getElem?_cons_zero, List.getElem?_cons_succ, Option.elim]; rfl)
        case hy1 => (simp only [List.getElem?_toArray, List.getElem?_cons_zero, List.getElem?_cons_succ, Option.elim]; intro wx _; go_simp; with_reducible rfl)
        simp only [dstOf, List.getElem?_toArray, List.getElem?_cons_zero, List.getElem?_cons_succ, Option.bind, Act.put, List.setIfInBounds_toArray, List.set_cons_zero, List.set_cons_succ]
        refine till_take 2 20 false (v := ?v2) (by kernel_rfl) (by kernel_rfl) (by kernel_rfl) (by kernel_rfl) (by kernel_rfl) (fun _ _ _ h => h) ?hw2 S0 ?hy2 ?rest2
        case hw2 => (simp only [List.getElem?_toArray, List.getElem?_cons_zero, List.getElem?_cons_succ, Option.elim]; rfl)
        case hy2 => (simp only [List.getElem?_toArray, List.getElem?_cons_zero, List.getElem?_cons_succ, Option.elim]; intro wx _; go_simp; with_reducible rfl)
        simp only [dstOf, List.getElem?_toArray, List.getElem?_cons_zero, List.getElem?_cons_succ, Option.bind, Act.put, List.setIfInBounds_toArray, List.set_cons_zero, List.set_cons_succ]
        refine till_take 3 20 false (v := ?v3) (by kernel_rfl) (by kernel_rfl) (by kernel_rfl) (by kernel_rfl) (by kernel_rfl) (fun _ _ _ h => h) ?hw3 S0 ?hy3 ?rest3
        case hw3 => (simp only [List.getElem?_toArray, List.getElem?_cons_zero, List.getElem?_cons_succ, Option.elim]; rfl)
        case hy3 => (simp only [List.getElem?_toArray, List.getElem?_cons_zero, List.getElem?_cons_succ, Option.elim]; intro wx _; go_simp; with_reducible rfl)
        simp only [dstOf, List.getElem?_toArray, List.getElem?_cons_zero, List.getElem?_cons_succ, Option.bind, Act.put, List.setIfInBounds_toArray, List.set_cons_zero, List.set_cons_succ]
        refine till_take 4 20 true (v := ?v4) (by kernel_rfl) (by kernel_rfl) (by kernel_rfl) (by kernel_rfl) (by kernel_rfl) (fun _ _ _ h => h) ?hw4 S0 ?hy4 ?rest4
        case hw4 => (simp only [List.getElem?_toArray, List.getElem?_cons_zero, List.getElem?_cons_succ, Option.elim]; rfl)
        case hy4 => (simp only [List.getElem?_toArray, List.getElem?_cons_zero, List.getElem?_cons_succ, Option.elim]; intro wx hx; have x0 := (hx trivial).1; have x1 := (hx trivial).2.1; have x2 := (hx trivial).2.2.1; have x3 := (hx trivial).2.2.2; go_simp; with_reducible rfl)
        simp only [dstOf, List.getElem?_toArray, List.getElem?_cons_zero, List.getElem?_cons_succ, Option.bind, Act.put, List.setIfInBounds_toArray, List.set_cons_zero, List.set_cons_succ]
        refine till_take 5 20 false (v := ?v5) (by kernel_rfl) (by kernel_rfl) (by kernel_rfl) (by kernel_rfl) (by kernel_rfl) (fun _ _ _ h => h) ?hw5 S0 ?hy5 ?rest5
        case hw5 => (simp only [List.getElem?_toArray, List.getElem?_cons_zero, List.getElem?_cons_succ, Option.elim]; rfl)
        case hy5 => (simp only [List.getElem?_toArray, List.getElem?_cons_zero, List.getElem?_cons_succ, Option.elim]; intro wx _; go_simp; with_reducible rfl)
        simp only [dstOf, List.getElem?_toArray, List.getElem?_cons_zero, List.getElem?_cons_succ, Option.bind, Act.put, List.setIfInBounds_toArray, List.set_cons_zero, List.set_cons_succ]
        refine till_take 6 20 false (v := ?v6) (by kernel_rfl) (by kernel_rfl) (by kernel_rfl) (by kernel_rfl) (by kernel_rfl) (fun _ _ _ h => h) ?hw6 S0 ?hy6 ?rest6
        case hw6 => (simp only [List.getElem?_toArray, List.getElem?_cons_zero, List.getElem?_cons_succ, Option.elim]; rfl)
        case hy6 => (simp only [List.getElem?_toArray, List.getElem?_cons_zero, List.getElem?_cons_succ, Option.elim]; intro wx _; go_simp; with_reducible rfl)
        simp only [dstOf, List.getElem?_toArray, List.getElem?_cons_zero, List.getElem?_cons_succ, Option.bind, Act.put, List.setIfInBounds_toArray, List.set_cons_zero, List.set_cons_succ]
        refine till_take 7 20 false (v := ?v7) (by kernel_rfl) (by kernel_rfl) (by kernel_rfl) (by kernel_rfl) (by kernel_rfl) (fun _ _ _ h => h) ?hw7 S0 ?hy7 ?rest7
        case hw7 => (simp only [List.getElem?_toArray, List.getElem?_cons_zero, List.getElem?_cons_succ, Option.elim]; rfl)
        case hy7 => (simp only [List.getElem?_toArray, List.getElem?_cons_zero, List.getElem?_cons_succ, Option.elim]; intro wx _; go_simp; with_reducible rfl)
        simp only [dstOf, List.getElem?_toArray, List.getElem?_cons_zero, List.getElem?_cons_succ, Option.bind, Act.put, List.setIfInBounds_toArray, List.set_cons_zero, List.set_cons_succ]
        refine till_take 8 20 true (v := ?v8) (by kernel_rfl) (by kernel_rfl) (by kernel_rfl) (by kernel_rfl) (by kernel_rfl) (fun _ _ _ h => h) ?hw8 S0 ?hy8 ?rest8
        case hw8 => (simp only [List.getElem?_toArray, List.getElem?_cons_zero, List.getElem?_cons_succ, Option.elim]; rfl)
        case hy8 => (simp only [List.getElem?_toArray, List.getElem?_cons_zero, List.getElem?_cons_succ, Option.elim]; intro wx hx; have x0 := (hx trivial).1; have x1 := (hx trivial).2.1; have x2 := (hx trivial).2.2.1; have x3 := (hx trivial).2.2.2; go_simp; with_reducible rfl)
        simp only [dstOf, List.getElem?_toArray, List.getElem?_cons_zero, List.getElem?_cons_succ, Option.bind, Act.put, List.setIfInBounds_toArray, List.set_cons_zero, List.set_cons_succ]
        refine till_take 9 20 false (v := ?v9) (by kernel_rfl) (by kernel_rfl) (by kernel_rfl) (by kernel_rfl) (by kernel_rfl) (fun _ _ _ h => h) ?hw9 S0 ?hy9 ?rest9
        case hw9 => (simp only [List.getElem?_toArray, List.getElem?_cons_zero, List.getElem?_cons_succ, Option.elim]; rfl)
        case hy9 => (simp only [List.getElem?_toArray, List.getElem?_cons_zero, List.getElem?_cons_succ, Option.elim]; intro wx _; go_simp; with_reducible rfl)
        simp only [dstOf, List.getElem?_toArray, List.getElem?_cons_zero, List.getElem?_cons_succ, Option.bind, Act.put, List.setIfInBounds_toArray, List.set_cons_zero, List.set_cons_succ]
        refine till_take 10 20 false (v := ?v10) (by kernel_rfl) (by kernel_rfl) (by kernel_rfl) (by kernel_rfl) (by kernel_rfl) (fun _ _ _ h => h) ?hw10 S0 ?hy10 ?rest10
        case hw10 => (simp only [List.getElem?_toArray, List.getElem?_cons_zero, List.getElem?_cons_succ, Option.elim]; rfl)
        case hy10 => (simp only [List.getElem?_toArray, List.getElem?_cons_zero, List.getElem?_cons_succ, Option.elim]; intro wx _; go_simp; with_reducible rfl)
        simp only [dstOf, List.getElem?_toArray, List.getElem?_cons_zero, List.getElem?_cons_succ, Option.bind, Act.put, List.setIfInBounds_toArray, List.set_cons_zero, List.set_cons_succ]
        refine till_take 11 20 true (v := ?v11) (by kernel_rfl) (by kernel_rfl) (by kernel_rfl) (by kernel_rfl) (by kernel_rfl) (fun _ _ _ h => h) ?hw11 S0 ?hy11 ?rest11
        case hw11 => (simp only [List.getElem?_toArray, List.getElem?_cons_zero, List.getElem?_cons_succ, Option.elim]; rfl)
        case hy11 => (simp only [List.getElem?_toArray, List.getElem?_cons_zero, List.getElem?_cons_succ, Option.elim]; intro wx hx; have x0 := (hx trivial).1; have x1 := (hx trivial).2.1; have x2 := (hx trivial).2.2.1; have x3 := (hx trivial).2.2.2; go_simp; with_reducible rfl)
        simp only [dstOf, List.getElem?_toArray, List.getElem?_cons_zero, List.getElem?_cons_succ, Option.bind, Act.put, List.setIfInBounds_toArray, List.set_cons_zero, List.set_cons_succ]
        refine till_before 12 (by kernel_rfl) (fun K hK => ?_)
        simp only [List.getElem?_toArray, List.getElem?_cons_zero, List.getElem?_cons_succ, Option.elim]
        rw [if_pos (by rfl)]
        go_simp
        refine hK.out _ _ (S1) ?_
        clear hK K
        try simp only [Act.put, List.setIfInBounds_toArray, List.set_cons_zero, List.set_cons_succ]
        refine till_step 13 (by kernel_rfl) (by kernel_rfl) (fun K hK => ?_)
        simp only [List.getElem?_toArray, List.getElem?_cons_zero, List.getElem?_cons_succ, Option.elim]
        rw [if_pos (by rfl)]
        refine Lib.wp_append_run _ (.tmp 36) (.tmp 44) 22 22 rfl _ _ rfl rfl _ _ R7.out ?_
        refine hK.out _ _ ?_
        clear hK K
        try simp only [Act.put, List.setIfInBounds_toArray, List.set_cons_zero, List.set_cons_succ]
        refine till_step 14 (by kernel_rfl) (by kernel_rfl) (fun K hK => ?_)
        simp only [List.getElem?_toArray, List.getElem?_cons_zero, List.getElem?_cons_succ, Option.elim]
        rw [if_pos (by rfl)]
        go_simp
        refine hK.out _ _ ?_
        clear hK K
        try simp only [Act.put, List.setIfInBounds_toArray, List.set_cons_zero, List.set_cons_succ]
        refine till_step 15 (by kernel_rfl) (by kernel_rfl) (fun K hK => ?_)
        simp only [List.getElem?_toArray, List.getElem?_cons_zero, List.getElem?_cons_succ, Option.elim]
        rw [if_pos (by rfl)]
        go_simp
        refine hK.out _ _ ?_
        clear hK K
        try simp only [Act.put, List.setIfInBounds_toArray, List.set_cons_zero, List.set_cons_succ]
        refine till_step 16 (by kernel_rfl) (by kernel_rfl) (fun K hK => ?_)
        simp only [List.getElem?_toArray, List.getElem?_cons_zero, List.getElem?_cons_succ, Option.elim]
        rw [if_pos (by rfl)]
        have fz := FZ.out
        have f7 := F7.out
        go_simp
        refine hK.out _ _ ?_
        clear hK K
        try simp only [Act.put, List.setIfInBounds_toArray, List.set_cons_zero, List.set_cons_succ]
        refine till_end (by kernel_rfl) ?_ _
        clear S0 S1 f0 d0 d1 e0
        go_wp2
        go_roundw
        case rel => exact ⟨k + 1, ya, yc, by omega, by go_num, by rw [HT.out]; exact M7.out⟩
        case measure => (simp [RowKit.intOf]; try omega)
      | false =>
        rw [hi] at HS HT
        clear hi
        go_wp2_with (go_at_call 41; refine (HS.out).mono ?_; rintro e w4 ⟨rfl, rfl⟩; refine Hid.out ?_)
        refine Lib.hid ?_
        go_wp2
        go_roundw
        case rel => exact ⟨k + 1, oa, oc, by omega, by go_num, by rw [HT.out]; simpa using HM.out⟩
        case measure => (simp [RowKit.intOf]; try omega)
    · obtain rfl : k = T.length := by omega
      have hm := HM.out
      rw [List.take_length] at hm
      have HF := Lib.hid (HG.out.built B2.out (Nat.le_refl _) (restrict_ok HG.out.ok xs) hm ⟨by
        unfold restrict
        rw [← HG.out.is, List.filter_map]
        rfl, fun y hy => (List.mem_filter.1 hy).1⟩)
      clear hm
      go_wp2
      go_ret
      exact HF.out
end
end Go.Proofs.Ytihnnffhpgbgjaa
