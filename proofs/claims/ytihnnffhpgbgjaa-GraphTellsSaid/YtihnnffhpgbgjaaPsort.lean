/- Sorted. -/
import Derived.Test.YtihnnffhpgbgjaaPcmp
namespace Go.Proofs.Ytihnnffhpgbgjaa
open Go.RowKit Go.Maps Go.ChangeMaps Go.MapKept Go.Shelf Go.Sort
open Gp
attribute [local go_sem ↓] Go.wp_at_zero Go.wp_at_succ

section
variable {w : World} {b mb q g : Nat} {G : List Nd} {pv : Int → Value} {S : Nat → Prop}
theorem cmp_any (x y : Int) (w : World) : Calls Try.prog 53 #[.int .i64 x, .int .i64 y] w fun e w' => e = .returned (.int .i64 (Lib.compareInt x y)) ∧ w' = w := Any.cmp_Compare_int Try.lcmp x y w
set_option maxHeartbeats 2000000 in
set_option maxRecDepth 100000 in
theorem cl2_any (h : GBox w b mb G pv S q) (x y : Int) : Calls Try.prog 51 #[.int .i64 x, .int .i64 y, .pointer (some ⟨q, 0, none⟩)] w fun e w' => e = .returned (.int .i64 (cf G x y)) ∧ Grw w w' := by
  have HB := Lib.hid h
  have S0 : GBox w.drew b mb G pv S q ∧ Grw w w.drew := ⟨h.keep (below_drew w), (Grw.refl w).drew⟩
  clear h
  unfold cf
  go_enter Try.func51, Try.ntmps51
  go_wp2
  refine region_till 11 (fun w' => GBox w' b mb G pv S q ∧ Grw w w') (by kernel_rfl) ?_
  refine till_take 0 16 true (v := ?v0) (by kernel_rfl) (by kernel_rfl) (by kernel_rfl) (by kernel_rfl) (by kernel_rfl) (fun _ _ _ h => h) ?hw0 S0 ?hy0 ?rest0
  case hw0 => (simp only [List.getElem?_toArray, List.getElem?_cons_zero, Option.elim]; rfl)
  case hy0 => (simp only [List.getElem?_toArray, List.getElem?_cons_zero, Option.elim]; intro wx hx; have x0 := (hx trivial).1.box; go_simp; with_reducible rfl)
  simp only [dstOf, List.getElem?_toArray, List.getElem?_cons_zero, Option.bind, Act.put, List.setIfInBounds_toArray, List.set_cons_zero, List.set_cons_succ]
  refine till_take 1 16 false (v := ?v1) (by kernel_rfl) (by kernel_rfl) (by kernel_rfl) (by kernel_rfl) (by kernel_rfl) (fun _ _ _ h => h) ?hw1 S0 ?hy1 ?rest1
  case hw1 => (simp only [List.getElem?_toArray, List.getElem?_cons_zero, List.getElem?_cons_succ, Option.elim]; rfl)
  case hy1 => (simp only [List.getElem?_toArray, List.getElem?_cons_zero, List.getElem?_cons_succ, Option.elim]; intro wx _; go_simp; with_reducible rfl)
  simp only [dstOf, List.getElem?_toArray, List.getElem?_cons_zero, List.getElem?_cons_succ, Option.bind, Act.put, List.setIfInBounds_toArray, List.set_cons_zero, List.set_cons_succ]
  refine till_take 3 16 true (v := ?v3) (by kernel_rfl) (by kernel_rfl) (by kernel_rfl) (by kernel_rfl) (by kernel_rfl) (fun _ _ _ h => h) ?hw3 S0 ?hy3 ?rest3
  case hw3 => (simp only [List.getElem?_toArray, List.getElem?_cons_zero, List.getElem?_cons_succ, Option.elim]; rfl)
  case hy3 => (simp only [List.getElem?_toArray, List.getElem?_cons_zero, List.getElem?_cons_succ, Option.elim]; intro wx hx; have x0 := (hx trivial).1.box; go_simp; with_reducible rfl)
  simp only [dstOf, List.getElem?_toArray, List.getElem?_cons_zero, List.getElem?_cons_succ, Option.bind, Act.put, List.setIfInBounds_toArray, List.set_cons_zero, List.set_cons_succ]
  refine till_take 4 16 false (v := ?v4) (by kernel_rfl) (by kernel_rfl) (by kernel_rfl) (by kernel_rfl) (by kernel_rfl) (fun _ _ _ h => h) ?hw4 S0 ?hy4 ?rest4
  case hw4 => (simp only [List.getElem?_toArray, List.getElem?_cons_zero, List.getElem?_cons_succ, Option.elim]; rfl)
  case hy4 => (simp only [List.getElem?_toArray, List.getElem?_cons_zero, List.getElem?_cons_succ, Option.elim]; intro wx _; go_simp; with_reducible rfl)
  simp only [dstOf, List.getElem?_toArray, List.getElem?_cons_zero, List.getElem?_cons_succ, Option.bind, Act.put, List.setIfInBounds_toArray, List.set_cons_zero, List.set_cons_succ]
  refine till_take 7 16 false (v := ?v7) (by kernel_rfl) (by kernel_rfl) (by kernel_rfl) (by kernel_rfl) (by kernel_rfl) (fun _ _ _ h => h) ?hw7 S0 ?hy7 ?rest7
  case hw7 => (simp only [List.getElem?_toArray, List.getElem?_cons_zero, List.getElem?_cons_succ, Option.elim]; rfl)
  case hy7 => (simp only [List.getElem?_toArray, List.getElem?_cons_zero, List.getElem?_cons_succ, Option.elim]; intro wx _; go_simp; with_reducible rfl)
  simp only [dstOf, List.getElem?_toArray, List.getElem?_cons_zero, List.getElem?_cons_succ, Option.bind, Act.put, List.setIfInBounds_toArray, List.set_cons_zero, List.set_cons_succ]
  refine till_take 8 16 false (v := ?v8) (by kernel_rfl) (by kernel_rfl) (by kernel_rfl) (by kernel_rfl) (by kernel_rfl) (fun _ _ _ h => h) ?hw8 S0 ?hy8 ?rest8
  case hw8 => (simp only [List.getElem?_toArray, List.getElem?_cons_zero, List.getElem?_cons_succ, Option.elim]; rfl)
  case hy8 => (simp only [List.getElem?_toArray, List.getElem?_cons_zero, List.getElem?_cons_succ, Option.elim]; intro wx _; go_simp; with_reducible rfl)
  simp only [dstOf, List.getElem?_toArray, List.getElem?_cons_zero, List.getElem?_cons_succ, Option.bind, Act.put, List.setIfInBounds_toArray, List.set_cons_zero, List.set_cons_succ]
  refine till_before 2 (by kernel_rfl) (fun K hK => ?_)
  simp only [List.getElem?_toArray, List.getElem?_cons_zero, List.getElem?_cons_succ, Option.elim]
  rw [if_pos (by rfl)]
  go_simp
  go_at_call 13
  refine (level_in S0.1.gr x).mono ?_
  rintro e w2 ⟨rfl, g2⟩
  refine hK.out _ _ (⟨S0.1.keep g2.1, S0.2.trans g2⟩) ?_
  clear hK K
  try simp only [Act.put, List.setIfInBounds_toArray, List.set_cons_zero, List.set_cons_succ]
  have S1 := And.intro (S0.1.keep g2.1) (S0.2.trans g2)
  clear S0 g2
  have S0 := S1
  clear S1
  refine till_before 5 (by kernel_rfl) (fun K hK => ?_)
  simp only [List.getElem?_toArray, List.getElem?_cons_zero, List.getElem?_cons_succ, Option.elim]
  rw [if_pos (by rfl)]
  go_simp
  go_at_call 13
  refine (level_in S0.1.gr y).mono ?_
  rintro e w3 ⟨rfl, g3⟩
  refine hK.out _ _ (⟨S0.1.keep g3.1, S0.2.trans g3⟩) ?_
  clear hK K
  try simp only [Act.put, List.setIfInBounds_toArray, List.set_cons_zero, List.set_cons_succ]
  have S1 := And.intro (S0.1.keep g3.1) (S0.2.trans g3)
  clear S0 g3
  have S0 := S1
  clear S1
  refine till_before 6 (by kernel_rfl) (fun K hK => ?_)
  simp only [List.getElem?_toArray, List.getElem?_cons_zero, List.getElem?_cons_succ, Option.elim]
  rw [if_pos (by rfl)]
  go_simp
  go_at_call 53
  refine (cmp_any _ _ _).mono ?_
  rintro e w4 ⟨rfl, rfl⟩
  refine hK.out _ _ (S0) ?_
  clear hK K
  try simp only [Act.put, List.setIfInBounds_toArray, List.set_cons_zero, List.set_cons_succ]
  refine till_before 9 (by kernel_rfl) (fun K hK => ?_)
  simp only [List.getElem?_toArray, List.getElem?_cons_zero, List.getElem?_cons_succ, Option.elim]
  rw [if_pos (by rfl)]
  go_simp
  go_at_call 53
  refine (cmp_any _ _ _).mono ?_
  rintro e w5 ⟨rfl, rfl⟩
  refine hK.out _ _ (S0) ?_
  clear hK K
  try simp only [Act.put, List.setIfInBounds_toArray, List.set_cons_zero, List.set_cons_succ]
  have S1 := And.intro (S0.1.keep ((Below.refl _ _).alloc (Nat.le_refl _) (.cells #[.int .i64 (Lib.compareInt (lev G x) (lev G y)), .int .i64 (Lib.compareInt x y)] 3))) (S0.2.alloc (.cells #[.int .i64 (Lib.compareInt (lev G x) (lev G y)), .int .i64 (Lib.compareInt x y)] 3))
  have HO := Lib.hid (or_any (nums_lit w5 [Lib.compareInt (lev G x) (lev G y), Lib.compareInt x y] (by simp)) (by simp))
  refine till_before 10 (by kernel_rfl) (fun K hK => ?_)
  simp only [List.getElem?_toArray, List.getElem?_cons_zero, List.getElem?_cons_succ, Option.elim]
  rw [if_pos (by rfl)]
  go_simp
  refine hK.out _ _ (S1) ?_
  clear hK K
  try simp only [Act.put, List.setIfInBounds_toArray, List.set_cons_zero, List.set_cons_succ]
  refine till_step 11 (by kernel_rfl) (by kernel_rfl) (fun K hK => ?_)
  simp only [List.getElem?_toArray, List.getElem?_cons_zero, List.getElem?_cons_succ, Option.elim]
  rw [if_pos (by rfl)]
  go_simp
  go_at_call 52
  refine (HO.out).mono ?_
  rintro e w6 ⟨rfl, rfl⟩
  refine hK.out _ _ ?_
  clear hK K
  try simp only [Act.put, List.setIfInBounds_toArray, List.set_cons_zero, List.set_cons_succ]
  refine till_late 12 (v := ?v12) (by kernel_rfl) (by kernel_rfl) (by kernel_rfl) (by kernel_rfl) (fun _ _ _ h => h) (by kernel_rfl) ?hw12 ?hy12 ?rest12
  case hw12 => (simp only [List.getElem?_toArray, List.getElem?_cons_zero, List.getElem?_cons_succ, Option.elim]; rfl)
  case hy12 => (simp only [List.getElem?_toArray, List.getElem?_cons_zero, List.getElem?_cons_succ, Option.elim]; intro wx; go_simp; with_reducible rfl)
  simp only [dstOf, List.getElem?_toArray, List.getElem?_cons_zero, List.getElem?_cons_succ, Option.bind, Act.put, List.setIfInBounds_toArray, List.set_cons_zero, List.set_cons_succ]
  refine till_end (by kernel_rfl) ?_ _
  go_wp2
  go_ret
  exact ⟨rfl, S1.2⟩
theorem putRow_heap (w : World) (blk : Nat) (d : Array Int) (x : Nat) (hx : x ≠ blk) : (putRow (Value.int .i64) w blk 0 d).heap[x]? = w.heap[x]? := by
  unfold putRow mapBlock
  simp [Array.getElem?_modify, Ne.symm hx]
theorem sortWorld_grown (w : World) (blk m : Nat) (d : Array Int) (os : Array Obj) : w.grownBy (sortWorld (Value.int .i64) w blk 0 m d os) (some blk) := by
  have hsz : (putRow (Value.int .i64) (Sort.ahead w m) blk 0 d).heap.size = w.heap.size := by rw [size_putRow]; rfl
  refine ⟨rfl, rfl, rfl, ?_, fun k hk hne => ?_⟩
  · show w.heap.size ≤ ((putRow (Value.int .i64) (Sort.ahead w m) blk 0 d).heap ++ os).size
    rw [Array.size_append, hsz]; omega
  · show ((putRow (Value.int .i64) (Sort.ahead w m) blk 0 d).heap ++ os)[k]? = _
    rw [Array.getElem?_append_left (by rw [hsz]; exact hk), putRow_heap _ _ _ _ (fun e => hne (by rw [e]))]
    rfl
theorem grw_grow {w w' : World} (h : Grw w w') : ∃ q os, w' = grow (w.drewN q) os := by
  refine ⟨w'.drawn - w.drawn, w'.heap.extract w.heap.size w'.heap.size, ?_⟩
  have hh : w'.heap = w.heap ++ w'.heap.extract w.heap.size w'.heap.size := by
    apply Array.ext_getElem?
    intro i
    by_cases hi : i < w.heap.size
    · rw [Array.getElem?_append_left hi, h.1.block i hi]
    · rw [Array.getElem?_append_right (by omega), Array.getElem?_extract]
      have := h.1.size
      by_cases hi2 : i < w'.heap.size
      · rw [if_pos (by omega)]; congr 1; omega
      · rw [if_neg (by omega), Array.getElem?_eq_none (by omega)]
  have e : w' = { heap := w.heap ++ w'.heap.extract w.heap.size w'.heap.size, tape := w.tape, drawn := w.drawn + (w'.drawn - w.drawn), os := w.os, output := w.output } := by
    rw [← hh, ← h.1.tape, ← h.1.os, ← h.1.output, show w.drawn + (w'.drawn - w.drawn) = w'.drawn by have := h.2; omega]
  exact e
theorem holds_of {w : World} {g : Nat} {d : List Int} (h : HoldsI w g d) : Holds (Value.int .i64) w g 0 d.toArray := fun j hj => by
  have hj' : j < d.length := by simpa using hj
  have := h j _ (List.getElem?_eq_getElem hj')
  rw [Nat.zero_add]
  refine ⟨?_, this.2⟩
  rw [this.1]
  simp [hj']
theorem of_holds {w : World} {g : Nat} {d : List Int} (h : Holds (Value.int .i64) w g 0 d.toArray) : HoldsI w g d := fun j z hj => by
  have hj' : j < d.length := (List.getElem?_eq_some_iff.1 hj).1
  have := h j (by simpa using hj')
  rw [Nat.zero_add] at this
  refine ⟨?_, this.2⟩
  rw [this.1]
  have e : d[j] = z := (List.getElem?_eq_some_iff.1 hj).2
  simp [hj', e]
theorem sortF_in (h : GBox w b mb G pv S q) {ks : List Int} (hd : HoldsI w g ks) (hgs : g < w.heap.size) (h1 : b < g ∧ mb < g ∧ q < g) (h2 : ∀ x, S x → x < g) (cap : Nat) (hl : ks.length ≤ 1000) :
    Calls Try.prog 50 #[.slice (some ⟨g, 0, none⟩) ks.length cap, .func (.func 51) #[] #[.pointer (some ⟨q, 0, none⟩)]] w fun e w' =>
      e = .returned (.tuple #[]) ∧ HoldsI w' g (ks.mergeSort fun x y => !(ltOf (cf G)) y x) ∧ w.grownBy w' (some g) := by
  have hsz : ks.toArray.size = ks.length := by simp
  have hcmp : CmpLays1 Try.prog 51 #[.pointer (some ⟨q, 0, none⟩)] (Value.int .i64) (cf G) g 0 ks.toArray.size w := fun m os dk _ x y => by
    refine (cl2_any (h.grown (sortWorld_grown w g m dk os) h1 h2) x y).mono fun e w' ⟨he, hg⟩ => ⟨he, grw_grow hg⟩
  have H := Any.slices_SortFunc_total Try.lsortF (Value.int .i64) (fun _ => rfl) (cf G) cf_swo 51 #[.pointer (some ⟨q, 0, none⟩)] g 0 cap ks.toArray w
    (enters_of Try.func51 (by kernel_rfl) rfl) hcmp (holds_of hd) hgs (by rw [hsz]; omega) cf_total
  change Calls Try.prog 50 _ _ _ at H
  rw [hsz] at H
  refine H.mono fun e w' ⟨he, n, os, hw⟩ => ⟨he, ?_, ?_⟩
  · subst hw
    exact of_holds (holds_sortWorld (Value.int .i64) w g 0 n ks.toArray _ os hgs (holds_of hd) (by simp))
  · subst hw
    exact sortWorld_grown w g n _ os
theorem compact_in {zs : List Int} (hd : HoldsI w g zs) {cap : Nat} (hcap : zs.length ≤ cap) (hl : zs.length ≤ 1000) :
    Calls Try.prog 54 #[.slice (some ⟨g, 0, none⟩) zs.length cap] w fun e w' => ∃ v, e = .returned v ∧ NumsAt w' v (Lib.compact zs) ∧ w.grownBy w' (some g) := by
  have H := Any.slices_Compact_int Try.lcompact g 0 cap zs w (holds_of hd) (by omega) hcap
  change Calls Try.prog 54 _ _ _ at H
  have hle : (Lib.compact zs).length ≤ zs.length := by
    unfold Lib.compact Lib.compactUpTo
    rw [List.length_map]
    refine Nat.le_trans (List.length_filter_le _ _) ?_
    simp
  refine H.mono fun e w' ⟨he, k, hw⟩ => ⟨_, he, ?_, ?_⟩
  · subst hw
    have hh := holds_putRow (Value.int .i64) (Sort.ahead w k) g 0 zs.toArray (Lib.compact zs ++ List.replicate (zs.length - (Lib.compact zs).length) 0).toArray (holds_ahead _ w k g 0 _ (holds_of hd)) (by simp; omega)
    have hh2 := of_holds hh
    refine ⟨some ⟨g, 0, none⟩, cap, rfl, ⟨by omega, fun e => by cases e⟩, fun j z hj => ⟨g, 0, rfl, ?_⟩⟩
    rw [Nat.zero_add]
    exact (hh2 j z (by rw [List.getElem?_append_left (List.getElem?_eq_some_iff.1 hj).1]; exact hj)).1
  · subst hw
    have := sortWorld_grown w g k (Lib.compact zs ++ List.replicate (zs.length - (Lib.compact zs).length) 0).toArray #[]
    unfold sortWorld at this
    rwa [grow_empty] at this
set_option maxHeartbeats 1000000 in
theorem idx_nil (fv : Value) (w : World) : Calls Try.prog 61 #[.slice none 0 0, fv] w fun e w' => e = .returned (.int .i64 (-1)) ∧ w' = w := by
  go_enter Try.func61, Try.ntmps61
  go_wp2
  go_loopw [8] (fun i wr => i = .int .i64 0 ∧ w = wr) (fun _ _ => 0)
  case atStart => exact ⟨rfl, rfl⟩
  case round =>
    obtain ⟨rfl, rfl⟩ := hrel
    go_wp2
    go_ret
    exact ⟨rfl, rfl⟩
set_option maxHeartbeats 1000000 in
theorem del_nil (fv : Value) (w : World) : Calls Try.prog 48 #[.slice none 0 0, fv] w fun e w' => e = .returned (.slice none 0 0) ∧ w' = w := by
  have HI := Lib.hid (idx_nil fv w)
  go_enter Try.func48, Try.ntmps48
  go_wp2_with (go_at_call 61; refine (HI.out).mono ?_; rintro e w2 ⟨rfl, rfl⟩; refine Hid.out ?_)
  refine Lib.hid ?_
  go_wp2
  go_ret
  exact ⟨rfl, rfl⟩
theorem sortF_nil (fv : Value) (w : World) : Calls Try.prog 50 #[.slice none 0 0, fv] w fun e w' => e = .returned (.tuple #[]) ∧ w' = w := AnyF.slices_SortFunc_none { Try.lsortF with } none 0 fv w
theorem compact_nil (w : World) : Calls Try.prog 54 #[.slice none 0 0] w fun e w' => e = .returned (.slice none 0 0) ∧ w' = w := Any.slices_Compact_int_empty Try.lcompact none 0 w
set_option maxHeartbeats 2000000 in
set_option maxRecDepth 100000 in
theorem sorted_in (h : GIn w b mb G pv S) {v : Value} {xs : List Int} (hv : NumsAt w v xs) (hx : xs.length ≤ 1000) :
    Calls Try.prog 28 #[.pointer (some ⟨b, 0, none⟩), v] w fun e w' => ∃ v, e = .returned v ∧ NumsAt w' v (sorted G xs) ∧ Below w.heap.size w w' := by
  have hb1 := (Below.refl w.heap.size w).alloc (Nat.le_refl _) (.cells #[.pointer (some ⟨b, 0, none⟩)] 26)
  have HC := Lib.hid (clone_any (hv.keep hb1) hx)
  have HB1 := Lib.hid (show GBox (w.alloc (.cells #[.pointer (some ⟨b, 0, none⟩)] 26)) b mb G pv S w.heap.size from ⟨h.keep hb1, cells_new w _ _ 0 _ rfl⟩)
  have HL := Lib.hid (And.intro (h.lt b (.inl (.inl rfl))) (And.intro (h.lt mb (.inl (.inr rfl))) (fun x (hx : S x) => (h.sep x hx).1)))
  have B1 := Lib.hid hb1
  have HP := Lib.hid (sorted_pick (xs := xs) h.ok)
  have hs1 : (w.alloc (.cells #[.pointer (some ⟨b, 0, none⟩)] 26)).heap.size = w.heap.size + 1 := by simp
  clear h hv hb1
  generalize sorted G xs = r at HP ⊢
  go_enter Try.func28, Try.ntmps28
  go_wp2_with (go_at_call 39; refine (HC.out).mono ?_; rintro e w2 ⟨v2, rfl, o2, n2, b2⟩; refine Hid.out ?_)
  refine Lib.hid ?_
  rw [hs1] at n2
  have HB2 := Lib.hid (HB1.out.keep b2)
  have B2 := Lib.hid (B1.out.trans (b2.mono (by omega)))
  have hz2 := B2.out.size
  clear HB1 HC b2
  rcases o2.2 with ⟨hv2, hn⟩ | ⟨g, cap, cur, hv2, _, hgc, hncap, _⟩
  · have hx0 := List.length_eq_zero_iff.1 hn
    subst hx0
    subst hv2
    have hr : r = [] := by rw [← HP.out]; simp [Lib.compact, Lib.compactUpTo]
    have HR := Lib.hid hr
    clear hr o2 n2 hn
    have HD := Lib.hid (del_nil (.func (.func 49) #[] #[.pointer (some ⟨w.heap.size, 0, none⟩)]) w2)
    have HS := Lib.hid (sortF_nil (.func (.func 51) #[] #[.pointer (some ⟨w.heap.size, 0, none⟩)]) w2)
    have HN := Lib.hid (compact_nil w2)
    go_wp2_with (go_at_call 48; refine (HD.out).mono ?_; rintro e w3 ⟨rfl, rfl⟩; refine Hid.out ?_)
    refine Lib.hid ?_
    go_wp2_with (go_at_call 50; refine (HS.out).mono ?_; rintro e w4 ⟨rfl, rfl⟩; refine Hid.out ?_)
    refine Lib.hid ?_
    go_wp2_with (go_at_call 54; refine (HN.out).mono ?_; rintro e w5 ⟨rfl, rfl⟩; refine Hid.out ?_)
    refine Lib.hid ?_
    go_wp2
    go_ret
    rw [HR.out]
    exact ⟨_, rfl, NumsAt.nil _, B2.out⟩
  · subst hv2
    have hg0 := n2 g rfl
    have hg2 := lt_heap hgc
    have HH := Lib.hid (HoldsI.of_own o2)
    have h1 : b < g ∧ mb < g ∧ w.heap.size < g := ⟨by have := HL.out.1; omega, by have := HL.out.2.1; omega, by omega⟩
    have H2 := Lib.hid (fun x (hx : S x) => (show x < g by have := HL.out.2.2 x hx; omega))
    have hle := List.length_filter_le (fun x => (ids G).contains x) xs
    have HD := Lib.hid (del_in HB2.out HH.out hg2 h1 H2.out hncap hx)
    clear o2 n2 hgc
    generalize hks : xs.filter (fun x => (ids G).contains x) = ks at HD hle HP
    clear hks
    go_wp2_with (go_at_call 48; refine (HD.out).mono ?_; rintro e w3 ⟨rfl, hd3, g3⟩; refine Hid.out ?_)
    refine Lib.hid ?_
    have hz3 := g3.size
    have HB3 := Lib.hid (HB2.out.grown g3 h1 H2.out)
    have HS := Lib.hid (sortF_in HB3.out hd3 (by omega) h1 H2.out cap (by omega))
    have G3 := Lib.hid g3
    have hml : (ks.mergeSort fun x y => !(ltOf (cf G)) y x).length = ks.length := List.length_mergeSort _
    clear HD hd3 g3
    go_wp2_with (go_at_call 50; refine (HS.out).mono ?_; rintro e w4 ⟨rfl, hd4, g4⟩; refine Hid.out ?_)
    refine Lib.hid ?_
    have hz4 := g4.size
    have HN := Lib.hid (compact_in hd4 (cap := cap) (by omega) (by omega))
    rw [hml, HP.out] at HN
    have G4 := Lib.hid g4
    clear HS hd4 g4 hml
    go_wp2_with (go_at_call 54; refine (HN.out).mono ?_; rintro e w5 ⟨v5, rfl, hn5, g5⟩; refine Hid.out ?_)
    refine Lib.hid ?_
    have HF := Lib.hid (below_grown (below_grown (below_grown B2.out G3.out (fun x hx => by have := Option.some.inj hx; omega)) G4.out (fun x hx => by have := Option.some.inj hx; omega)) g5 (fun x hx => by have := Option.some.inj hx; omega))
    have HN5 := Lib.hid hn5
    clear HN hn5 g5
    go_wp2
    go_ret
    exact ⟨v5, rfl, HN5.out, HF.out⟩
end
end Go.Proofs.Ytihnnffhpgbgjaa
