/- Package vault: Open, Destroy. -/
import Derived.Test.YtkicdfoncopklaaVOps
namespace Go.Proofs.Ytkicdfoncopklaa
open Go.RowKit Go.Maps Go.ChangeMaps Go.MapKept
open Vp
attribute [local go_sem ↓] Go.wp_at_zero Go.wp_at_succ

section
variable {w0 w : World} {os : List Ob} {i b : Nat} {V : Vt}
theorem opens_none {k j : Int} (h : j < 0 ∨ (V.boxes.length : Int) ≤ j) : opens V k j = (xE, 4) := by
  unfold opens
  split
  · rfl
  · rw [List.getElem?_eq_none (by omega)]
theorem opens_some {k : Int} {j q : Nat} {s : ByteArray} (h : V.boxes[j]? = some (q, s)) : opens V k (j : Int) = if (q : Int) = k ∧ st V k = 1 then (s, 0) else (xE, 13) := by
  unfold opens
  rw [if_neg (by omega), Int.toNat_natCast, h]
def OpenPost (w : World) (s : ByteArray) (r : Int) (e : Ending) (w' : World) : Prop := e = .returned (.tuple #[.string s, .int .i64 r]) ∧ Below w.heap.size w w'
set_option maxHeartbeats 2000000 in
set_option maxRecDepth 100000 in
theorem v_open (h : OMem w0 w os) (hi : os[i]? = some (.vault b V)) (k j : Int) (hf : ∀ x ∈ V.boxes, x.2.size ≤ 281474976710656) :
    Calls Try.prog 15 #[.pointer (some ⟨b, 0, none⟩), .int .i64 k, .int .i64 j] w (OpenPost w (opens V k j).1 (opens V k j).2) := by
  obtain ⟨v, u, ks, ps, hc, _⟩ := h.vault hi
  have c0 := hc.c0
  have c1 := hc.c1
  obtain ⟨ua, uc, hu⟩ := hc.uform
  subst hu
  by_cases h0 : j < 0
  · rw [opens_none (.inl h0)]
    clear h hc
    go_enter Try.func15, Try.ntmps15
    go_wp2
    go_ret2
    exact ⟨rfl, Below.refl _ _⟩
  obtain ⟨j, rfl⟩ : ∃ m : Nat, j = (m : Int) := ⟨j.toNat, by omega⟩
  by_cases h1 : j < V.boxes.length
  case neg =>
    rw [opens_none (.inr (by omega))]
    clear h hc
    go_enter Try.func15, Try.ntmps15
    go_wp2
    go_ret2
    exact ⟨rfl, Below.refl _ _⟩
  obtain ⟨ug, uc', q, s, huv, hq, hbx, hql, q0, q1⟩ := hc.place h1
  cases huv
  have hs := hf _ (List.mem_of_getElem? hbx)
  obtain ⟨g, vc, p, hv, hp, hst, p0, p1, _⟩ := hc.key hql
  subst hv
  have hba : Below w.heap.size w (w.alloc (.cells #[.int .i64 (q.1 : Int), .int .i64 (q.2 : Int)] 56)) := (Below.refl _ _).alloc (Nat.le_refl _) _
  have d0 := below_cell c0 hba
  have d1 := below_cell p0 hba
  have ho : opens V k j = if (q.1 : Int) = k ∧ st V k = 1 then (s, 0) else (xE, 13) := opens_some hbx
  by_cases h2 : (q.1 : Int) = k
  case neg =>
    rw [ho, if_neg (fun z => h2 z.1)]
    clear h hc hq hbx hp hst ho
    go_enter Try.func15, Try.ntmps15
    go_wp2
    go_ret2
    exact ⟨rfl, hba⟩
  subst h2
  cases hg : p.gone with
  | true =>
    rw [hg] at d1 hst
    rw [ho, hst, if_neg (fun z => absurd z.2 (by decide))]
    clear h hc hq hbx hp hst ho
    go_enter Try.func15, Try.ntmps15
    go_wp2
    go_ret2
    exact ⟨rfl, hba⟩
  | false =>
    rw [hg] at d1 hst
    rw [ho, hst, if_pos ⟨rfl, rfl⟩]
    have ht := hc.rep.text _ _ _ _ hq hbx hp hg
    have htl := (List.getElem?_eq_some_iff.1 ht).1
    have htr := hc.trow p (List.mem_of_getElem? hp)
    obtain ⟨tg, tc, hpv⟩ := own_some htr (by omega)
    rw [hpv] at p1 htr
    have t0 := own_at htr (j := q.2) (y := .string s) (by unfold strVs; rw [List.getElem?_map, ht]; rfl)
    have d2 := below_cell p1 hba
    have d3 := below_cell t0 hba
    clear h hc hq hbx hp hst ho ht htr hpv p0 p1 t0
    go_enter Try.func15, Try.ntmps15
    have S0 : (w.alloc (.cells #[.int .i64 (q.1 : Int), .int .i64 (q.2 : Int)] 56)).drew.cell? ⟨b, 0, none⟩ = some (.slice (some ⟨g, 0, none⟩) V.good.length vc) ∧ (w.alloc (.cells #[.int .i64 (q.1 : Int), .int .i64 (q.2 : Int)] 56)).drew.cell? ⟨g, q.1 * 2 + 1, none⟩ = some (.slice (some ⟨tg, 0, none⟩) p.ts.length tc) ∧
        (w.alloc (.cells #[.int .i64 (q.1 : Int), .int .i64 (q.2 : Int)] 56)).drew.cell? ⟨w.heap.size, 1, none⟩ = some (.int .i64 (q.2 : Int)) ∧ (w.alloc (.cells #[.int .i64 (q.1 : Int), .int .i64 (q.2 : Int)] 56)).drew.cell? ⟨tg, q.2, none⟩ = some (.string s) := ⟨d0, d2, (Lib.cell_of_heap (MapKept.heap_alloc w _).1 1).trans rfl, d3⟩
    go_wp2
    refine region_till 12 (fun w' => w'.cell? ⟨b, 0, none⟩ = some (.slice (some ⟨g, 0, none⟩) V.good.length vc) ∧ w'.cell? ⟨g, q.1 * 2 + 1, none⟩ = some (.slice (some ⟨tg, 0, none⟩) p.ts.length tc) ∧ w'.cell? ⟨w.heap.size, 1, none⟩ = some (.int .i64 (q.2 : Int)) ∧ w'.cell? ⟨tg, q.2, none⟩ = some (.string s)) (by kernel_rfl) ?_
    refine till_take 0 16 false (v := ?v0) (by kernel_rfl) (by kernel_rfl) (by kernel_rfl) (by kernel_rfl) (by kernel_rfl) (fun _ _ _ h => h) ?hw0 S0 ?hy0 ?rest0
    case hw0 => (simp only [List.getElem?_toArray, List.getElem?_cons_zero, Option.elim]; rfl)
    case hy0 => (simp only [List.getElem?_toArray, List.getElem?_cons_zero, Option.elim]; intro wx _; go_simp; with_reducible rfl)
    simp only [dstOf, List.getElem?_toArray, List.getElem?_cons_zero, Option.bind, Act.put, List.setIfInBounds_toArray, List.set_cons_zero, List.set_cons_succ]
    refine till_take 1 16 false (v := ?v1) (by kernel_rfl) (by kernel_rfl) (by kernel_rfl) (by kernel_rfl) (by kernel_rfl) (fun _ _ _ h => h) ?hw1 S0 ?hy1 ?rest1
    case hw1 => (simp only [List.getElem?_toArray, List.getElem?_cons_zero, List.getElem?_cons_succ, Option.elim]; rfl)
    case hy1 => (simp only [List.getElem?_toArray, List.getElem?_cons_zero, List.getElem?_cons_succ, Option.elim]; intro wx _; go_simp; with_reducible rfl)
    simp only [dstOf, List.getElem?_toArray, List.getElem?_cons_zero, List.getElem?_cons_succ, Option.bind, Act.put, List.setIfInBounds_toArray, List.set_cons_zero, List.set_cons_succ]
    refine till_take 2 16 false (v := ?v2) (by kernel_rfl) (by kernel_rfl) (by kernel_rfl) (by kernel_rfl) (by kernel_rfl) (fun _ _ _ h => h) ?hw2 S0 ?hy2 ?rest2
    case hw2 => (simp only [List.getElem?_toArray, List.getElem?_cons_zero, List.getElem?_cons_succ, Option.elim]; rfl)
    case hy2 => (simp only [List.getElem?_toArray, List.getElem?_cons_zero, List.getElem?_cons_succ, Option.elim]; intro wx _; go_simp; with_reducible rfl)
    simp only [dstOf, List.getElem?_toArray, List.getElem?_cons_zero, List.getElem?_cons_succ, Option.bind, Act.put, List.setIfInBounds_toArray, List.set_cons_zero, List.set_cons_succ]
    refine till_take 3 16 true (v := ?v3) (by kernel_rfl) (by kernel_rfl) (by kernel_rfl) (by kernel_rfl) (by kernel_rfl) (fun _ _ _ h => h) ?hw3 S0 ?hy3 ?rest3
    case hw3 => (simp only [List.getElem?_toArray, List.getElem?_cons_zero, List.getElem?_cons_succ, Option.elim]; rfl)
    case hy3 => (simp only [List.getElem?_toArray, List.getElem?_cons_zero, List.getElem?_cons_succ, Option.elim]; intro wx hx; have x0 := (hx trivial).1; have x1 := (hx trivial).2.1; have x2 := (hx trivial).2.2.1; have x3 := (hx trivial).2.2.2; go_simp; with_reducible rfl)
    simp only [dstOf, List.getElem?_toArray, List.getElem?_cons_zero, List.getElem?_cons_succ, Option.bind, Act.put, List.setIfInBounds_toArray, List.set_cons_zero, List.set_cons_succ]
    refine till_take 4 16 false (v := ?v4) (by kernel_rfl) (by kernel_rfl) (by kernel_rfl) (by kernel_rfl) (by kernel_rfl) (fun _ _ _ h => h) ?hw4 S0 ?hy4 ?rest4
    case hw4 => (simp only [List.getElem?_toArray, List.getElem?_cons_zero, List.getElem?_cons_succ, Option.elim]; rfl)
    case hy4 => (simp only [List.getElem?_toArray, List.getElem?_cons_zero, List.getElem?_cons_succ, Option.elim]; intro wx _; go_simp; with_reducible rfl)
    simp only [dstOf, List.getElem?_toArray, List.getElem?_cons_zero, List.getElem?_cons_succ, Option.bind, Act.put, List.setIfInBounds_toArray, List.set_cons_zero, List.set_cons_succ]
    refine till_take 5 16 false (v := ?v5) (by kernel_rfl) (by kernel_rfl) (by kernel_rfl) (by kernel_rfl) (by kernel_rfl) (fun _ _ _ h => h) ?hw5 S0 ?hy5 ?rest5
    case hw5 => (simp only [List.getElem?_toArray, List.getElem?_cons_zero, List.getElem?_cons_succ, Option.elim]; rfl)
    case hy5 => (simp only [List.getElem?_toArray, List.getElem?_cons_zero, List.getElem?_cons_succ, Option.elim]; intro wx _; go_simp; with_reducible rfl)
    simp only [dstOf, List.getElem?_toArray, List.getElem?_cons_zero, List.getElem?_cons_succ, Option.bind, Act.put, List.setIfInBounds_toArray, List.set_cons_zero, List.set_cons_succ]
    refine till_take 6 16 false (v := ?v6) (by kernel_rfl) (by kernel_rfl) (by kernel_rfl) (by kernel_rfl) (by kernel_rfl) (fun _ _ _ h => h) ?hw6 S0 ?hy6 ?rest6
    case hw6 => (simp only [List.getElem?_toArray, List.getElem?_cons_zero, List.getElem?_cons_succ, Option.elim]; rfl)
    case hy6 => (simp only [List.getElem?_toArray, List.getElem?_cons_zero, List.getElem?_cons_succ, Option.elim]; intro wx _; go_simp; with_reducible rfl)
    simp only [dstOf, List.getElem?_toArray, List.getElem?_cons_zero, List.getElem?_cons_succ, Option.bind, Act.put, List.setIfInBounds_toArray, List.set_cons_zero, List.set_cons_succ]
    refine till_take 7 16 true (v := ?v7) (by kernel_rfl) (by kernel_rfl) (by kernel_rfl) (by kernel_rfl) (by kernel_rfl) (fun _ _ _ h => h) ?hw7 S0 ?hy7 ?rest7
    case hw7 => (simp only [List.getElem?_toArray, List.getElem?_cons_zero, List.getElem?_cons_succ, Option.elim]; rfl)
    case hy7 => (simp only [List.getElem?_toArray, List.getElem?_cons_zero, List.getElem?_cons_succ, Option.elim]; intro wx hx; have x0 := (hx trivial).1; have x1 := (hx trivial).2.1; have x2 := (hx trivial).2.2.1; have x3 := (hx trivial).2.2.2; go_simp; with_reducible rfl)
    simp only [dstOf, List.getElem?_toArray, List.getElem?_cons_zero, List.getElem?_cons_succ, Option.bind, Act.put, List.setIfInBounds_toArray, List.set_cons_zero, List.set_cons_succ]
    refine till_take 8 16 false (v := ?v8) (by kernel_rfl) (by kernel_rfl) (by kernel_rfl) (by kernel_rfl) (by kernel_rfl) (fun _ _ _ h => h) ?hw8 S0 ?hy8 ?rest8
    case hw8 => (simp only [List.getElem?_toArray, List.getElem?_cons_zero, List.getElem?_cons_succ, Option.elim]; rfl)
    case hy8 => (simp only [List.getElem?_toArray, List.getElem?_cons_zero, List.getElem?_cons_succ, Option.elim]; intro wx _; go_simp; with_reducible rfl)
    simp only [dstOf, List.getElem?_toArray, List.getElem?_cons_zero, List.getElem?_cons_succ, Option.bind, Act.put, List.setIfInBounds_toArray, List.set_cons_zero, List.set_cons_succ]
    refine till_take 9 16 true (v := ?v9) (by kernel_rfl) (by kernel_rfl) (by kernel_rfl) (by kernel_rfl) (by kernel_rfl) (fun _ _ _ h => h) ?hw9 S0 ?hy9 ?rest9
    case hw9 => (simp only [List.getElem?_toArray, List.getElem?_cons_zero, List.getElem?_cons_succ, Option.elim]; rfl)
    case hy9 => (simp only [List.getElem?_toArray, List.getElem?_cons_zero, List.getElem?_cons_succ, Option.elim]; intro wx hx; have x0 := (hx trivial).1; have x1 := (hx trivial).2.1; have x2 := (hx trivial).2.2.1; have x3 := (hx trivial).2.2.2; go_simp; with_reducible rfl)
    simp only [dstOf, List.getElem?_toArray, List.getElem?_cons_zero, List.getElem?_cons_succ, Option.bind, Act.put, List.setIfInBounds_toArray, List.set_cons_zero, List.set_cons_succ]
    refine till_take 10 16 false (v := ?v10) (by kernel_rfl) (by kernel_rfl) (by kernel_rfl) (by kernel_rfl) (by kernel_rfl) (fun _ _ _ h => h) ?hw10 S0 ?hy10 ?rest10
    case hw10 => (simp only [List.getElem?_toArray, List.getElem?_cons_zero, List.getElem?_cons_succ, Option.elim]; rfl)
    case hy10 => (simp only [List.getElem?_toArray, List.getElem?_cons_zero, List.getElem?_cons_succ, Option.elim]; intro wx _; go_simp; with_reducible rfl)
    simp only [dstOf, List.getElem?_toArray, List.getElem?_cons_zero, List.getElem?_cons_succ, Option.bind, Act.put, List.setIfInBounds_toArray, List.set_cons_zero, List.set_cons_succ]
    refine till_take 11 16 true (v := ?v11) (by kernel_rfl) (by kernel_rfl) (by kernel_rfl) (by kernel_rfl) (by kernel_rfl) (fun _ _ _ h => h) ?hw11 S0 ?hy11 ?rest11
    case hw11 => (simp only [List.getElem?_toArray, List.getElem?_cons_zero, List.getElem?_cons_succ, Option.elim]; rfl)
    case hy11 => (simp only [List.getElem?_toArray, List.getElem?_cons_zero, List.getElem?_cons_succ, Option.elim]; intro wx hx; have x0 := (hx trivial).1; have x1 := (hx trivial).2.1; have x2 := (hx trivial).2.2.1; have x3 := (hx trivial).2.2.2; go_simp; with_reducible rfl)
    simp only [dstOf, List.getElem?_toArray, List.getElem?_cons_zero, List.getElem?_cons_succ, Option.bind, Act.put, List.setIfInBounds_toArray, List.set_cons_zero, List.set_cons_succ]
    refine till_step 12 (by kernel_rfl) (by kernel_rfl) (fun K hK => ?_)
    simp only [List.getElem?_toArray, List.getElem?_cons_zero, List.getElem?_cons_succ, Option.elim]
    rw [if_pos (by rfl)]
    go_simp
    go_at_call 24
    refine (clone_any _ hs _).mono ?_
    rintro e w2 ⟨rfl, hb⟩
    refine hK.out _ _ ?_
    clear hK K
    try simp only [Act.put, List.setIfInBounds_toArray, List.set_cons_zero, List.set_cons_succ]
    refine till_late 13 (v := ?v13) (by kernel_rfl) (by kernel_rfl) (by kernel_rfl) (by kernel_rfl) (fun _ _ _ h => h) (by kernel_rfl) ?hw13 ?hy13 ?rest13
    case hw13 => (simp only [List.getElem?_toArray, List.getElem?_cons_zero, List.getElem?_cons_succ, Option.elim]; rfl)
    case hy13 => (simp only [List.getElem?_toArray, List.getElem?_cons_zero, List.getElem?_cons_succ, Option.elim]; intro wx; go_simp; with_reducible rfl)
    simp only [dstOf, List.getElem?_toArray, List.getElem?_cons_zero, List.getElem?_cons_succ, Option.bind, Act.put, List.setIfInBounds_toArray, List.set_cons_zero, List.set_cons_succ]
    refine till_late 14 (v := ?v14) (by kernel_rfl) (by kernel_rfl) (by kernel_rfl) (by kernel_rfl) (fun _ _ _ h => h) (by kernel_rfl) ?hw14 ?hy14 ?rest14
    case hw14 => (simp only [List.getElem?_toArray, List.getElem?_cons_zero, List.getElem?_cons_succ, Option.elim]; rfl)
    case hy14 => (simp only [List.getElem?_toArray, List.getElem?_cons_zero, List.getElem?_cons_succ, Option.elim]; intro wx; go_simp; with_reducible rfl)
    simp only [dstOf, List.getElem?_toArray, List.getElem?_cons_zero, List.getElem?_cons_succ, Option.bind, Act.put, List.setIfInBounds_toArray, List.set_cons_zero, List.set_cons_succ]
    refine till_end (by kernel_rfl) ?_ _
    go_wp2
    go_ret2
    exact ⟨rfl, (hba.trans ((below_drew _).mono hba.size)).trans (hb.mono hba.size)⟩
end
end Go.Proofs.Ytkicdfoncopklaa
