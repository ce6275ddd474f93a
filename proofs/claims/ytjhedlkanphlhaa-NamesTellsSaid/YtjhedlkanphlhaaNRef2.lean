/- The reference of layer 4: All, Open. -/
import Derived.Test.YtjhedlkanphlhaaNRef
namespace Go.Proofs.Ytjhedlkanphlhaa
open Go.RowKit Go.Maps Go.ChangeMaps Go.MapKept
open Np
attribute [local go_sem ↓] Go.wp_at_zero Go.wp_at_succ

section
variable {w0 w : World} {os : List Ob} {i b : Nat} {T : List ByteArray}
/-- append of what another slice of strings holds. -/
theorem run_append_strs (w : World) (v u : Value) (n : Nat) (xs : List Value) (l : List ByteArray) (hv : w.ownsRow 0 9 1 v n xs) (hu : w.ownsRow 0 9 1 u l.length (strVs l)) (hn : n + l.length ≤ 100000000) :
    ∃ v' w', (Builtin.append_ #[22, 22] 22 #[v, u]).run Try.prog w = .ok v' w' ∧ w'.ownsRow 0 9 1 v' (n + l.length) (xs ++ strVs l) ∧ w.grownBy w' v.ownBlock ∧ (v'.ownBlock = v.ownBlock ∨ ∀ k, v'.ownBlock = some k → w.heap.size ≤ k) := by
  obtain ⟨i0, hi, hz0, hz1, hz2⟩ := info_parts string_info
  rcases hu.2 with ⟨rfl, h0⟩ | ⟨g, cap, cur, hv', _⟩
  · obtain rfl : l = [] := List.eq_nil_of_length_eq_zero h0
    obtain ⟨a, c, rfl⟩ := own_form hv
    have hnc : n ≤ c := by
      rcases hv.2 with ⟨h1, h2⟩ | ⟨g, cap, cur, h1, _, _, h4, _⟩
      · omega
      · cases h1; exact h4
    refine ⟨_, w, run_append_nothing w _ _ _ _ i0 Try.underlying22 hi a n c hnc _ (Src.ofNil (w := w) Try.underlying22 0), by simpa [strVs] using hv, ⟨rfl, rfl, rfl, Nat.le_refl _, fun _ _ _ => rfl⟩, .inl rfl⟩
  · subst hv'
    obtain ⟨v', w', h1, h2, h3, _, h5⟩ := run_append_own_at (P := Try.prog) w 0 22 22 9 i0 (.string ⟨#[]⟩) 1 16 Try.underlying22 hi hz0 hz1 hz2 rfl (by decide) v n xs hv ⟨g, 0, none⟩ l.length cap (strVs l) (by rw [strVs_length]; omega) (fun j u hj => hu.cells (g := g) rfl j u hj) (oneCell_strs l) (by unfold maxLen; omega) (by omega) (Nat.zero_le _)
    exact ⟨v', w', h1, h2, h3, h5.imp id fun h k hk => by rw [h] at hk; cases hk; exact Nat.le_refl _⟩
set_option maxHeartbeats 1000000 in
set_option maxRecDepth 100000 in
theorem r_all (h : OMem w0 w os) (hi : os[i]? = some (.ref b T)) (hn : T.length ≤ 100000) : Calls Try.prog 22 #[.pointer (some ⟨b, 0, none⟩)] w (RowPost w0 os T) := by
  obtain ⟨v, hc⟩ := h.ref hi
  have hba : Below w.heap.size w (w.alloc (.cells #[] 9)) := (Below.refl _ _).alloc (Nat.le_refl _) _
  have hc1 := hc.fresh hba
  have c0 := hc1.c0
  obtain ⟨va, vc, rfl⟩ := own_form hc.row
  obtain ⟨v', w', r1, r2, r3, r4⟩ := run_append_strs _ _ _ 0 [] T (World.ownsRow_made w #[] 0 (Nat.zero_le _) (by unfold maxLen; omega) (by simp)) hc1.row (by omega)
  rw [Nat.zero_add, List.nil_append] at r2
  have hb' : Below w.heap.size w w' := hba.grown r3 (by simp) (fun k hk => by cases hk; exact Nat.le_refl _)
  have hm := h.row hb' (e := 9) (v := v') (xs := strVs T) (by rw [strVs_length]; exact r2) (fun k hk => by
    rcases r4 with q | q
    · have := q.symm.trans hk; cases this; exact Nat.le_refl _
    · have := q k hk; simp at this; omega)
  have HP := Lib.hid r1
  have HM := Lib.hid hm
  clear r1 r2 r3 r4 hm hb' hc hc1 hba h
  go_enter Try.func22, Try.ntmps22
  go_wp2_with (at_builtin; refine Lib.wpList_append_run _ rfl _ _ _ _ rfl _ _ rfl rfl _ _ HP.out ?_)
  go_ret
  exact ⟨v', rfl, HM.out⟩

/-! ### Open -/
theorem OMem.singleRef {w w' : World} {b : Nat} {T : List ByteArray} (h : OMem w w' [.ref b T]) : ∃ v, RfC w' b T v ∧ w.heap.size ≤ b ∧ ∀ k, v.ownBlock = some k → w.heap.size ≤ k := by
  obtain ⟨lab, h⟩ := h
  obtain ⟨v, g⟩ := h.at_ 0 _ rfl
  have key : ∀ x, lab x ≠ 0 → w.heap.size ≤ x := fun x hx => by
    rcases Nat.lt_or_ge x w.heap.size with q | q
    · exact absurd (h.und.labs x q) hx
    · exact q
  exact ⟨v, ⟨g.blk, g.row, fun e => by have := g.lb; have := g.lr b e; omega⟩, key b (by have := g.lb; omega), fun k hk => key k (by have := g.lr k hk; omega)⟩
theorem OMem.joinRef {w' : World} {b : Nat} {T : List ByteArray} (h : OMem w0 w os) (k : OMem w w' [.ref b T]) : OMem w0 w' (os ++ [.ref b T]) := by
  obtain ⟨v, hc, h1, h3⟩ := k.singleRef
  exact h.pushRef k.below hc.blk hc.row h1 h3 hc.br
def ROpenPost (w0 : World) (os : List Ob) (l : List ByteArray) (e : Ending) (w' : World) : Prop :=
  (((opened l).2 = none ∧ e = .returned (.tuple #[.pointer none, .int .i64 (opened l).1]) ∧ OMem w0 w' os) ∨
   ((opened l).2 = some l ∧ ∃ b, e = .returned (.tuple #[.pointer (some ⟨b, 0, none⟩), .int .i64 (opened l).1]) ∧ OMem w0 w' (os ++ [.ref b l])))
set_option maxHeartbeats 4000000 in
set_option maxRecDepth 100000 in
theorem r_open (h : OMem w0 w os) (v : Value) (l : List ByteArray) (hv : TextsAt w v l) (hn : l.length ≤ 100000) : Calls Try.prog 11 #[v] w (ROpenPost w0 os l) := by
  obtain ⟨a, cap, rfl, hc⟩ := hv.form
  have HV := Lib.hid hv
  have HC := Lib.hid hc
  have H := Lib.hid h
  clear h hc hv
  go_enter Try.func11, Try.ntmps11
  go_wp2
  go_loopw [4] (fun i wr => ∃ k : Nat, k ≤ l.length ∧ i = .int .i64 k ∧ (∀ s ∈ l.take k, s.size ≤ 65536) ∧ wr = w) (fun i _ => l.length - (intOf i).toNat)
  case atStart => exact ⟨0, Nat.zero_le _, rfl, by simp, rfl⟩
  case round =>
    obtain ⟨k, hk, rfl, hs, rfl⟩ := hrel
    obtain ⟨w, hw⟩ : ∃ w, w = wr := ⟨_, rfl⟩
    subst hw
    have HS := Lib.hid hs
    clear hs
    by_cases hlt : k < l.length
    · obtain ⟨g, off, rfl, hcell⟩ := HC.out k hlt
      by_cases hz : l[k].size ≤ 65536
      · have hgt : ¬ ((65536 : Int) < (l[k].size : Int)) := by omega
        go_wp2
        go_roundw
        case rel =>
          refine ⟨k + 1, by omega, by go_num, fun s hs => ?_, by trivial⟩
          rw [List.take_succ_eq_append_getElem hlt] at hs
          rcases List.mem_append.1 hs with q | q
          · exact HS.out s q
          · simp at q; subst q; exact hz
        case measure => simp [intOf]; omega
      · have hgt : (65536 : Int) < (l[k].size : Int) := by omega
        have HR := Lib.hid (opened_arg hlt (by omega))
        go_wp2
        go_ret2
        exact .inl (by rw [HR.out]; exact ⟨rfl, rfl, H.out⟩)
    · obtain rfl : k = l.length := by omega
      have HT := Lib.hid (show AllText l from fun s hs => HS.out s (by rw [List.take_length]; exact hs))
      clear HS
      go_wp2_with (go_at_call 13; refine (r_new (OMem.start _)).mono ?_; rintro e w1 ⟨b, rfl, m1⟩; refine Hid.out ?_)
      refine Lib.hid ?_
      have M1 := Lib.hid (show OMem w w1 [.ref b []] from m1)
      clear m1
      go_wp2
      go_loopw [6] (fun i wr => ∃ k : Nat, k ≤ l.length ∧ i = .int .i64 k ∧ (l.take k).Nodup ∧ OMem w wr [.ref b (l.take k)]) (fun i _ => l.length - (intOf i).toNat)
      case atStart => exact ⟨0, Nat.zero_le _, rfl, by simp, M1.out⟩
      case round =>
        obtain ⟨k, hk, rfl, hd, hm⟩ := hrel
        have HD := Lib.hid hd
        have M := Lib.hid hm
        clear hd hm M1
        by_cases hlt : k < l.length
        · obtain ⟨a', cap', hva, hcell⟩ := (HV.out.keep M.out.below).form
          obtain ⟨g, off, hg1, hg2⟩ := hcell k hlt
          cases hva
          cases hg1
          have hl : (l.take k).length = k := by rw [List.length_take]; omega
          have HA := Lib.hid (r_at M.out (i := 0) rfl l[k] (by omega))
          clear hcell
          by_cases hmem : l[k] ∈ l.take k
          · have hr : rat (l.take k) l[k] = (pos (l.take k) l[k] : Int) := by unfold rat; rw [if_pos hmem]
            rw [hr] at HA
            have hge : 0 ≤ (pos (l.take k) l[k] : Int) := by omega
            have HR := Lib.hid (opened_twice HT.out (not_nodup hlt hmem))
            clear hr hmem hl
            go_wp2_with (go_at_call 25; refine (HA.out).mono ?_; rintro e w2 ⟨rfl, rfl⟩; refine Hid.out ?_)
            refine Lib.hid ?_
            go_wp2
            go_ret2
            exact .inl (by rw [HR.out]; exact ⟨rfl, rfl, H.out.fresh M.out.below⟩)
          · have hr : rat (l.take k) l[k] = -1 := by unfold rat; rw [if_neg hmem]
            rw [hr] at HA
            have HM := Lib.hid (take_nodup hlt HD.out hmem)
            have HTK := Lib.hid (List.take_succ_eq_append_getElem hlt)
            clear hr hmem
            go_wp2_with (go_at_call 25; refine (HA.out).mono ?_; rintro e w2 ⟨rfl, rfl⟩; refine Hid.out ?_)
            refine Lib.hid ?_
            obtain ⟨v2, hc2⟩ := M.out.drew.ref (i := 0) rfl
            obtain ⟨a2, c2, hv2⟩ := own_form hc2.row
            subst hv2
            obtain ⟨a3, c3, w3, r1, d0, f0, hb2, hm2⟩ := M.out.drew.refPush (i := 0) rfl hc2 l[k] (q := wr.heap.size) (w1 := wr.drew.alloc (.cells #[.string l[k]] 9)) ((Below.refl _ _).alloc (Nat.le_refl _) _) (by have := (MapKept.heap_alloc wr.drew (.cells #[.string l[k]] 9)).1; exact (Lib.cell_of_heap this 0).trans rfl) (by omega)
            rw [hl] at r1 d0 hm2
            have S0 : wr.drew.cell? ⟨b, 0, none⟩ = some (.slice a2 k c2) ∧ wr.drew.cell? ⟨g, off + k, none⟩ = some (.string l[k]) := ⟨by rw [← hl]; exact hc2.c0, hg2⟩
            have S1 : (wr.drew.alloc (.cells #[.string l[k]] 9)).cell? ⟨b, 0, none⟩ = some (.slice a2 k c2) ∧ (wr.drew.alloc (.cells #[.string l[k]] 9)).cell? ⟨g, off + k, none⟩ = some (.string l[k]) := ⟨below_cell S0.1 ((Below.refl _ _).alloc (Nat.le_refl _) _), below_cell S0.2 ((Below.refl _ _).alloc (Nat.le_refl _) _)⟩
            have HP := Lib.hid r1
            have M3 := Lib.hid (show OMem w (w3.setCell ⟨b, 0, none⟩ (.slice a3 (k + 1) c3)) [.ref b (l.take k ++ [l[k]])] from hm2)
            clear r1 hm2 hb2 hc2 hg2 hl HA M
            go_wp2
            refine region_till 10 (fun w' => w'.cell? ⟨b, 0, none⟩ = some (.slice a2 k c2) ∧ w'.cell? ⟨g, off + k, none⟩ = some (.string l[k])) (by kernel_rfl) ?_
            refine till_take 0 8 false (v := ?v0) (by kernel_rfl) (by kernel_rfl) (by kernel_rfl) (by kernel_rfl) (by kernel_rfl) (fun _ _ _ h => h) ?hw0 S0 ?hy0 ?rest0
            case hw0 => (simp only [List.getElem?_toArray, List.getElem?_cons_zero, Option.elim]; rfl)
            case hy0 => (simp only [List.getElem?_toArray, List.getElem?_cons_zero, Option.elim]; intro wx _; go_simp; with_reducible rfl)
            simp only [dstOf, List.getElem?_toArray, List.getElem?_cons_zero, Option.bind, Act.put, List.setIfInBounds_toArray, List.set_cons_zero, List.set_cons_succ]
            refine till_take 1 8 false (v := ?v1) (by kernel_rfl) (by kernel_rfl) (by kernel_rfl) (by kernel_rfl) (by kernel_rfl) (fun _ _ _ h => h) ?hw1 S0 ?hy1 ?rest1
            case hw1 => (simp only [List.getElem?_toArray, List.getElem?_cons_zero, List.getElem?_cons_succ, Option.elim]; rfl)
            case hy1 => (simp only [List.getElem?_toArray, List.getElem?_cons_zero, List.getElem?_cons_succ, Option.elim]; intro wx _; go_simp; with_reducible rfl)
            simp only [dstOf, List.getElem?_toArray, List.getElem?_cons_zero, List.getElem?_cons_succ, Option.bind, Act.put, List.setIfInBounds_toArray, List.set_cons_zero, List.set_cons_succ]
            refine till_take 2 8 false (v := ?v2) (by kernel_rfl) (by kernel_rfl) (by kernel_rfl) (by kernel_rfl) (by kernel_rfl) (fun _ _ _ h => h) ?hw2 S0 ?hy2 ?rest2
            case hw2 => (simp only [List.getElem?_toArray, List.getElem?_cons_zero, List.getElem?_cons_succ, Option.elim]; rfl)
            case hy2 => (simp only [List.getElem?_toArray, List.getElem?_cons_zero, List.getElem?_cons_succ, Option.elim]; intro wx _; go_simp; with_reducible rfl)
            simp only [dstOf, List.getElem?_toArray, List.getElem?_cons_zero, List.getElem?_cons_succ, Option.bind, Act.put, List.setIfInBounds_toArray, List.set_cons_zero, List.set_cons_succ]
            refine till_take 3 8 false (v := ?v3) (by kernel_rfl) (by kernel_rfl) (by kernel_rfl) (by kernel_rfl) (by kernel_rfl) (fun _ _ _ h => h) ?hw3 S0 ?hy3 ?rest3
            case hw3 => (simp only [List.getElem?_toArray, List.getElem?_cons_zero, List.getElem?_cons_succ, Option.elim]; rfl)
            case hy3 => (simp only [List.getElem?_toArray, List.getElem?_cons_zero, List.getElem?_cons_succ, Option.elim]; intro wx _; go_simp; with_reducible rfl)
            simp only [dstOf, List.getElem?_toArray, List.getElem?_cons_zero, List.getElem?_cons_succ, Option.bind, Act.put, List.setIfInBounds_toArray, List.set_cons_zero, List.set_cons_succ]
            refine till_take 4 8 true (v := ?v4) (by kernel_rfl) (by kernel_rfl) (by kernel_rfl) (by kernel_rfl) (by kernel_rfl) (fun _ _ _ h => h) ?hw4 S0 ?hy4 ?rest4
            case hw4 => (simp only [List.getElem?_toArray, List.getElem?_cons_zero, List.getElem?_cons_succ, Option.elim]; rfl)
            case hy4 => (simp only [List.getElem?_toArray, List.getElem?_cons_zero, List.getElem?_cons_succ, Option.elim]; intro wx hx; have x0 := (hx trivial).1; have x1 := (hx trivial).2; go_simp; with_reducible rfl)
            simp only [dstOf, List.getElem?_toArray, List.getElem?_cons_zero, List.getElem?_cons_succ, Option.bind, Act.put, List.setIfInBounds_toArray, List.set_cons_zero, List.set_cons_succ]
            refine till_take 5 8 false (v := ?v5) (by kernel_rfl) (by kernel_rfl) (by kernel_rfl) (by kernel_rfl) (by kernel_rfl) (fun _ _ _ h => h) ?hw5 S0 ?hy5 ?rest5
            case hw5 => (simp only [List.getElem?_toArray, List.getElem?_cons_zero, List.getElem?_cons_succ, Option.elim]; rfl)
            case hy5 => (simp only [List.getElem?_toArray, List.getElem?_cons_zero, List.getElem?_cons_succ, Option.elim]; intro wx _; go_simp; with_reducible rfl)
            simp only [dstOf, List.getElem?_toArray, List.getElem?_cons_zero, List.getElem?_cons_succ, Option.bind, Act.put, List.setIfInBounds_toArray, List.set_cons_zero, List.set_cons_succ]
            refine till_take 6 8 false (v := ?v6) (by kernel_rfl) (by kernel_rfl) (by kernel_rfl) (by kernel_rfl) (by kernel_rfl) (fun _ _ _ h => h) ?hw6 S0 ?hy6 ?rest6
            case hw6 => (simp only [List.getElem?_toArray, List.getElem?_cons_zero, List.getElem?_cons_succ, Option.elim]; rfl)
            case hy6 => (simp only [List.getElem?_toArray, List.getElem?_cons_zero, List.getElem?_cons_succ, Option.elim]; intro wx _; go_simp; with_reducible rfl)
            simp only [dstOf, List.getElem?_toArray, List.getElem?_cons_zero, List.getElem?_cons_succ, Option.bind, Act.put, List.setIfInBounds_toArray, List.set_cons_zero, List.set_cons_succ]
            refine till_take 7 8 false (v := ?v7) (by kernel_rfl) (by kernel_rfl) (by kernel_rfl) (by kernel_rfl) (by kernel_rfl) (fun _ _ _ h => h) ?hw7 S0 ?hy7 ?rest7
            case hw7 => (simp only [List.getElem?_toArray, List.getElem?_cons_zero, List.getElem?_cons_succ, Option.elim]; rfl)
            case hy7 => (simp only [List.getElem?_toArray, List.getElem?_cons_zero, List.getElem?_cons_succ, Option.elim]; intro wx _; go_simp; with_reducible rfl)
            simp only [dstOf, List.getElem?_toArray, List.getElem?_cons_zero, List.getElem?_cons_succ, Option.bind, Act.put, List.setIfInBounds_toArray, List.set_cons_zero, List.set_cons_succ]
            refine till_take 8 8 true (v := ?v8) (by kernel_rfl) (by kernel_rfl) (by kernel_rfl) (by kernel_rfl) (by kernel_rfl) (fun _ _ _ h => h) ?hw8 S0 ?hy8 ?rest8
            case hw8 => (simp only [List.getElem?_toArray, List.getElem?_cons_zero, List.getElem?_cons_succ, Option.elim]; rfl)
            case hy8 => (simp only [List.getElem?_toArray, List.getElem?_cons_zero, List.getElem?_cons_succ, Option.elim]; intro wx hx; have x0 := (hx trivial).1; have x1 := (hx trivial).2; go_simp; with_reducible rfl)
            simp only [dstOf, List.getElem?_toArray, List.getElem?_cons_zero, List.getElem?_cons_succ, Option.bind, Act.put, List.setIfInBounds_toArray, List.set_cons_zero, List.set_cons_succ]
            refine till_before 9 (by kernel_rfl) (fun K hK => ?_)
            simp only [List.getElem?_toArray, List.getElem?_cons_zero, List.getElem?_cons_succ, Option.elim]
            rw [if_pos (by rfl)]
            go_simp
            refine hK.out _ _ (S1) ?_
            clear hK K
            try simp only [Act.put, List.setIfInBounds_toArray, List.set_cons_zero, List.set_cons_succ]
            refine till_step 10 (by kernel_rfl) (by kernel_rfl) (fun K hK => ?_)
            simp only [List.getElem?_toArray, List.getElem?_cons_zero, List.getElem?_cons_succ, Option.elim]
            rw [if_pos (by rfl)]
            refine Lib.wp_append_run _ (.tmp 37) (.tmp 42) 22 22 rfl _ _ rfl rfl _ _ HP.out ?_
            refine hK.out _ _ ?_
            clear hK K
            try simp only [Act.put, List.setIfInBounds_toArray, List.set_cons_zero, List.set_cons_succ]
            refine till_late 11 (v := ?v11) (by kernel_rfl) (by kernel_rfl) (by kernel_rfl) (by kernel_rfl) (fun _ _ _ h => h) (by kernel_rfl) ?hw11 ?hy11 ?rest11
            case hw11 => (simp only [List.getElem?_toArray, List.getElem?_cons_zero, List.getElem?_cons_succ, Option.elim]; rfl)
            case hy11 => (simp only [List.getElem?_toArray, List.getElem?_cons_zero, List.getElem?_cons_succ, Option.elim]; intro wx; go_simp; with_reducible rfl)
            simp only [dstOf, List.getElem?_toArray, List.getElem?_cons_zero, List.getElem?_cons_succ, Option.bind, Act.put, List.setIfInBounds_toArray, List.set_cons_zero, List.set_cons_succ]
            refine till_late 12 (v := ?v12) (by kernel_rfl) (by kernel_rfl) (by kernel_rfl) (by kernel_rfl) (fun _ _ _ h => h) (by kernel_rfl) ?hw12 ?hy12 ?rest12
            case hw12 => (simp only [List.getElem?_toArray, List.getElem?_cons_zero, List.getElem?_cons_succ, Option.elim]; rfl)
            case hy12 => (simp only [List.getElem?_toArray, List.getElem?_cons_zero, List.getElem?_cons_succ, Option.elim]; intro wx; go_simp; with_reducible rfl)
            simp only [dstOf, List.getElem?_toArray, List.getElem?_cons_zero, List.getElem?_cons_succ, Option.bind, Act.put, List.setIfInBounds_toArray, List.set_cons_zero, List.set_cons_succ]
            refine till_step 13 (by kernel_rfl) (by kernel_rfl) (fun K hK => ?_)
            simp only [List.getElem?_toArray, List.getElem?_cons_zero, List.getElem?_cons_succ, Option.elim]
            rw [if_pos (by rfl)]
            go_simp
            refine hK.out _ _ ?_
            clear hK K
            try simp only [Act.put, List.setIfInBounds_toArray, List.set_cons_zero, List.set_cons_succ]
            refine till_end (by kernel_rfl) ?_ _
            go_wp2
            go_roundw
            case rel => exact ⟨k + 1, by omega, by go_num, HM.out, by rw [HTK.out]; exact M3.out⟩
            case measure => simp [intOf]; omega
        · obtain rfl : k = l.length := by omega
          have hd := HD.out
          have hm := M.out
          rw [List.take_length] at hd hm
          have HR := Lib.hid (opened_ok HT.out hd)
          have M2 := Lib.hid hm
          clear hd hm HD M
          go_wp2
          go_ret2
          exact .inr (by rw [HR.out]; exact ⟨rfl, _, rfl, H.out.joinRef M2.out⟩)
end
end Go.Proofs.Ytjhedlkanphlhaa
