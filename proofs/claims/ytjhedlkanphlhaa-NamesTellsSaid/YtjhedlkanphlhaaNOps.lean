/- Package names: New, All, Copy. -/
import Derived.Test.YtjhedlkanphlhaaNOf
import Derived.Test.YtjhedlkanphlhaaOrd2
import Derived.Shelf.SlMaps.Clone
namespace Go.Proofs.Ytjhedlkanphlhaa
open Go.RowKit Go.Maps Go.ChangeMaps Go.MapKept
open Np
attribute [local go_sem ↓] Go.wp_at_zero Go.wp_at_succ

theorem MapIs.entries {P : Program} {w : World} {k : TypeId} {b c : Nat} {m : Lit → Option Value} (h : MapIs P w k b c m) : ∃ es clock, w.heap[b]? = some (.map es clock) := by
  obtain ⟨_, ⟨es, clock, h1, _⟩, _⟩ := h
  exact ⟨es, clock, h1⟩
theorem idxMap_nil (x : Lit) : none = idxMap [] x := by
  unfold idxMap; split
  · rw [if_neg (by simp)]
  · rfl

section
variable {w0 w : World} {os : List Ob} {i b : Nat} {T : List ByteArray}
/-- A call that makes a list. -/
def MadePost (w0 : World) (os : List Ob) (T : List ByteArray) (e : Ending) (w' : World) : Prop := ∃ b, e = .returned (.pointer (some ⟨b, 0, none⟩)) ∧ OMem w0 w' (os ++ [.names b T])
set_option maxRecDepth 100000 in
theorem n_new (h : OMem w0 w os) : Calls Try.prog 12 #[] w (MadePost w0 os []) := by
  have hmm := @run_makeMap Try.prog
  go_enter Try.func12, Try.ntmps12
  go_wp2
  go_ret
  have hm := mapIs_made (P := Try.prog) (k := 9) w
  refine ⟨_, rfl, h.pushNames (v := .slice none 0 0) (mb := w.heap.size) (((Below.refl _ _).alloc (Nat.le_refl _) _).alloc (by simp) _) (by have := (MapKept.heap_alloc (w.alloc (.map #[] 0)) (.cells #[.slice none 0 0, .map (some w.heap.size)] 51)).1; simpa using this) (World.ownsRow_nil _ _ _ _) ((hm.kept (World.grownBy_alloc _ _ none) (by simp)).congr (fun x => (idxMap_nil x).symm) rfl) (by simp) (Nat.le_refl _) (fun k hk => by cases hk) (by simp) (fun e => by cases e) (fun e => by cases e)⟩

/-- A list that is being filled. -/
def Filling (w : World) (g n : Nat) (l : List ByteArray) : Prop := ∃ cur : Array Value, w.heap[g]? = some (.cells cur 9 (0, 0)) ∧ cur.toList = strVs l ++ List.replicate (n - l.length) (.string ⟨#[]⟩) ∧ l.length ≤ n
theorem Filling.fresh {w' : World} {g n : Nat} {l : List ByteArray} (h : Filling w g n l) (hb : Below w.heap.size w w') : Filling w' g n l := by
  obtain ⟨cur, h1, h2⟩ := h; exact ⟨cur, (hb.block g (lt_heap h1)).trans h1, h2⟩
theorem Filling.fz {g n : Nat} {l : List ByteArray} (h : Filling w g n l) (j : Nat) : w.frozen? ⟨g, j, none⟩ = false := by
  obtain ⟨cur, h1, h2⟩ := h; exact Lib.frozen_of_heap h1 j
theorem Filling.cell {g n : Nat} {l : List ByteArray} (h : Filling w g n l) (hl : l.length < n) : w.cell? ⟨g, l.length, none⟩ = some (.string ⟨#[]⟩) := by
  obtain ⟨cur, h1, h2, _⟩ := h
  rw [Lib.cell_of_heap h1, ← Array.getElem?_toList, h2, List.getElem?_append_right (by simp [strVs]), strVs_length]
  rw [Nat.sub_self, List.getElem?_replicate, if_pos (by omega)]
theorem Filling.next {g n : Nat} {l : List ByteArray} (h : Filling w g n l) (hl : l.length < n) (s : ByteArray) : Filling (w.setCell ⟨g, l.length, none⟩ (.string s)) g n (l ++ [s]) := by
  obtain ⟨cur, h1, h2, _⟩ := h
  refine ⟨_, set_heap h1 _, ?_, by simp; omega⟩
  rw [Array.toList_setIfInBounds, h2, List.set_append_right _ _ (by simp [strVs]), strVs_length, Nat.sub_self]
  obtain ⟨m, hm⟩ : ∃ m, n - l.length = m + 1 := ⟨n - l.length - 1, by omega⟩
  rw [hm, List.replicate_succ, List.set_cons_zero]
  have : n - (l ++ [s]).length = m := by simp; omega
  rw [this]
  simp [strVs]
theorem Filling.done {g n : Nat} {l : List ByteArray} (h : Filling w g n l) (hl : l.length = n) (hn : n ≤ 100000) : w.ownsRow 0 9 1 (.slice (some ⟨g, 0, none⟩) n n) (strVs l).length (strVs l) := by
  obtain ⟨cur, h1, h2, _⟩ := h
  rw [hl, Nat.sub_self, List.replicate_zero, List.append_nil] at h2
  have hs : cur.size = n := by rw [← Array.length_toList, h2, strVs_length, hl]
  refine ⟨by simp, .inr ⟨g, n, cur, by rw [strVs_length, hl], Nat.zero_le _, h1, by rw [strVs_length]; omega, by unfold maxLen; omega, by omega, ?_⟩⟩
  rw [h2, Nat.mul_one, List.take_length]
theorem made_filling (w : World) (n : Nat) (hn : n ≤ 100000) : ∃ w', (Instr.makeSlice 22 (.int .i64 (n : Int)) (.int .i64 (n : Int))).run Try.prog w = .ok (.slice (some ⟨w.heap.size, 0, none⟩) n n) w' ∧ Below w.heap.size w w' ∧ Filling w' w.heap.size n [] := by
  obtain ⟨i0, hi, hz0, hz1, hz2⟩ := info_parts string_info
  have hr := run_makeSlice (P := Try.prog) w 22 9 i0 (.string ⟨#[]⟩) Try.underlying22 hi hz0 .i64 .i64 (n : Int) (n : Int) (by omega) (Int.le_refl _) (by rw [hz1]; omega) (by rw [hz2]; omega) (by omega)
  simp only [Int.toNat_natCast, hz1, Nat.mul_one] at hr
  refine ⟨_, hr, (Below.refl _ _).alloc (Nat.le_refl _) _, _, heap_alloc_new w _, ?_, Nat.zero_le _⟩
  show (madeCells #[Value.string ⟨#[]⟩] n).toList = _
  rw [toList_madeCells_one]
  simp [strVs]
/-- A list of the call's own. -/
def RowPost (w0 : World) (os : List Ob) (T : List ByteArray) (e : Ending) (w' : World) : Prop := ∃ v, e = .returned v ∧ OMem w0 w' (os ++ [.own 9 v (strVs T)])
set_option maxHeartbeats 1000000 in
set_option maxRecDepth 100000 in
theorem n_all_b (h : OMem w0 w os) (hi : os[i]? = some (.names b T)) (ht : AllText T) (hn : T.length ≤ 100000) : Calls Try.prog 21 #[.pointer (some ⟨b, 0, none⟩)] w fun e w' => ∃ v, e = .returned v ∧ OMem w0 w' (os ++ [.own 9 v (strVs T)]) ∧ Below w.heap.size w w' := by
  obtain ⟨v, mb, hc⟩ := h.names hi
  have c0 := hc.c0
  obtain ⟨va, vc, hvc, _⟩ := (texts_own hc.row).form
  subst hvc
  obtain ⟨w1, hmk, hb1, hf1⟩ := made_filling w T.length hn
  have d0 := below_cell c0 hb1
  have HT := Lib.hid (show TextsAt w (.slice va T.length vc) T from texts_own hc.row)
  have H := Lib.hid h
  have HTX := Lib.hid ht
  clear h hc ht
  go_enter Try.func21, Try.ntmps21
  go_wp2
  go_loopw [17] (fun i wr => ∃ k : Nat, k ≤ T.length ∧ i = .int .i64 k ∧ Filling wr w.heap.size T.length (T.take k) ∧ Below w.heap.size w wr) (fun i _ => T.length - (intOf i).toNat)
  case atStart => exact ⟨0, Nat.zero_le _, rfl, hf1, hb1⟩
  case round =>
    obtain ⟨k, hk, rfl, hr, kr⟩ := hrel
    clear hf1 hb1 d0 hmk c0 w1
    have hsr := kr.size
    by_cases hlt : k < T.length
    · obtain ⟨a, cap, hvc, hcell⟩ := (HT.out.keep kr).form
      obtain ⟨g, off, hva, hg⟩ := hcell k hlt
      cases hvc
      cases hva
      have hTk := HTX.out _ (List.getElem_mem hlt)
      have hl : (T.take k).length = k := by rw [List.length_take]; omega
      have HR := Lib.hid hr
      have KR := Lib.hid kr
      have HL := Lib.hid hl
      clear hcell hr kr hl
      go_wp2_with (go_at_call 26; refine (clone_any _ (by omega) _).mono ?_; rintro e w2 ⟨rfl, hb2⟩; refine Hid.out ?_)
      refine Lib.hid ?_
      have hf2 := HR.out.fresh hb2
      have h0 := hf2.cell (by rw [HL.out]; exact hlt)
      have hz := hf2.fz k
      have hn2 := hf2.next (by rw [HL.out]; exact hlt) T[k]
      rw [HL.out] at h0 hn2
      have HN := Lib.hid hn2
      have HB2 := Lib.hid hb2
      clear hf2 hn2 hb2 hg
      go_wp2
      go_roundw
      case rel =>
        refine ⟨k + 1, by omega, by go_num, ?_, ?_⟩
        · rw [List.take_succ_eq_append_getElem hlt]; exact HN.out
        · exact (KR.out.trans (HB2.out.mono hsr)).setCell (Nat.le_refl _) _
      case measure => simp [intOf]; omega
    · obtain rfl : k = T.length := by omega
      rw [List.take_length] at hr
      have HR := Lib.hid hr
      have KR := Lib.hid kr
      clear hr kr
      go_wp2
      go_ret
      exact ⟨_, rfl, H.out.row KR.out (HR.out.done rfl hn) (fun k hk => by cases hk; exact Nat.le_refl _), KR.out⟩
theorem n_all (h : OMem w0 w os) (hi : os[i]? = some (.names b T)) (ht : AllText T) (hn : T.length ≤ 100000) : Calls Try.prog 21 #[.pointer (some ⟨b, 0, none⟩)] w (RowPost w0 os T) :=
  (n_all_b h hi ht hn).mono fun _ _ ⟨v, h1, h2, _⟩ => ⟨v, h1, h2⟩

/-! ### Copy -/
def ClonePost (w : World) (n : Nat) (xs : List Value) (e : Ending) (w' : World) : Prop := ∃ v', e = .returned v' ∧ (w'.ownsRow 0 9 1 v' n xs ∧ ∀ k, v'.ownBlock = some k → w.heap.size ≤ k) ∧ Below w.heap.size w w'
set_option maxHeartbeats 1000000 in
set_option maxRecDepth 100000 in
theorem cloneT (v : Value) (xs : List Value) (w : World) (h : RowAt w v xs) (h1 : ∀ u ∈ xs, u.oneCell' = true) (hn : xs.length ≤ 100000) :
    Calls Try.prog 27 #[v] w (ClonePost w xs.length xs) := by
  obtain ⟨i0, hi, hz0, hz1, hz2⟩ := info_parts string_info
  have q22 : ∀ (w : World) (a : Option Addr) (n c n' c' : Nat), (binOp .eql 22 (.slice a n c) (.slice none n' c')).run Try.prog w = .ok (.bool a.isNone) w := fun w a n c n' c' => Lib.run_eql_slice_nil w _ _ a n c n' c' Try.underlying22
  obtain ⟨a, cap, rfl, hc⟩ := h
  cases a with
  | none =>
    have : xs = [] := by
      cases xs with
      | nil => rfl
      | cons x l => obtain ⟨_, _, h2, _⟩ := hc 0 x rfl; cases h2
    subst this
    go_enter Try.func27, Try.ntmps27
    go_wp2
    go_ret
    exact ⟨_, rfl, ⟨World.ownsRow_nil _ _ _ _, fun k hk => by cases hk⟩, Below.refl _ _⟩
  | some ad =>
    have HC := Lib.hid hc
    have H1 := Lib.hid h1
    clear hc h1
    go_enter Try.func27, Try.ntmps27
    go_wp2_with (at_builtin; refine wpList_append_own_at _ rfl _ _ 22 rfl 0 9 i0 (.string ⟨#[]⟩) 1 16 Try.underlying22 hi hz0 hz1 hz2 rfl (by decide) _ _ _ rfl (World.ownsRow_made w #[] 0 (Nat.zero_le _) (by unfold maxLen; omega) (by simp)) ad xs.length cap xs rfl (by simp) ?c1 H1.out ?c3 ?c4 (Nat.zero_le _) ?_)
    case c1 =>
      intro j u hj
      obtain ⟨g, off, h2, h3⟩ := HC.out j u hj
      cases h2
      rw [Lib.add_plain]
      exact (World.grownBy_alloc w _ none).cell h3 (by simp)
    case c3 => unfold maxLen; omega
    case c4 => omega
    intro v' w1 hown hg _ hat
    have hg := (show (w.alloc (.cells #[] 9)).grownBy w1 (some w.heap.size) from hg)
    have HAT := Lib.hid hat
    clear hat
    go_wp2
    go_ret
    refine ⟨v', rfl, ⟨by simpa using hown, fun k hk => ?_⟩, ?_⟩
    · rcases HAT.out with h | h
      · have h2 := h.symm.trans hk; simp [Value.ownBlock] at h2; omega
      · have h2 := h.symm.trans hk; simp at h2; omega
    · exact ((Below.refl _ _).alloc (Nat.le_refl _) _).grown hg (by simp) (fun k hk => by cases hk; exact Nat.le_refl _)
set_option maxHeartbeats 2000000 in
set_option maxRecDepth 100000 in
theorem cloneM (b : Nat) (es : Array MapEntry) (clock : Nat) (w : World) (hb : w.heap[b]? = some (.map es clock)) :
    Calls Try.prog 28 #[.map (some b)] w fun e w' => e = .returned (.map (some w.heap.size)) ∧ w' = w.alloc (.map es clock) := by
  have hq := fun w => run_eql_map_nil_sl (P := Try.prog) w 49 _ _ (some b) Try.underlying49
  go_enter Try.func28, Try.ntmps28
  go_wp2
  rw [run_callFunc_extern Try.func30 (by kernel_rfl) (by kernel_rfl) (by kernel_rfl) (e := Extern.MapsClone.clone) (by kernel_rfl), run_maps_clone_sl w 49 hb]
  simp only [Result.andThen]
  rw [Oper.upon_value]
  go_wp2
  rw [run_typeAssert_map_sl _ 49 20 _ _ _ Try.underlying49]
  simp only [Result.andThen]
  rw [Oper.upon_value]
  go_wp2
  go_ret
  exact ⟨rfl, rfl⟩
set_option maxHeartbeats 4000000 in
set_option maxRecDepth 100000 in
theorem n_copy (h : OMem w0 w os) (hi : os[i]? = some (.names b T)) (hn : T.length ≤ 100000) : Calls Try.prog 23 #[.pointer (some ⟨b, 0, none⟩)] w (MadePost w0 os T) := by
  obtain ⟨v, mb, hc⟩ := h.names hi
  obtain ⟨va, vc, hvc, _⟩ := (texts_own hc.row).form
  subst hvc
  have hcd := hc.fresh (below_drew w)
  have S0 : w.drew.cell? ⟨b, 0, none⟩ = some (.slice va T.length vc) ∧ w.drew.cell? ⟨b, 1, none⟩ = some (.map (some mb)) := ⟨hcd.c0, hcd.c1⟩
  have HCT := Lib.hid (cloneT (.slice va T.length vc) (strVs T) w.drew (texts_own hcd.row) (oneCell_strs T) (by rw [strVs_length]; exact hn))
  have HC := Lib.hid hcd
  have H := Lib.hid h.drew
  clear h hc hcd
  go_enter Try.func23, Try.ntmps23
  go_wp2
  refine region_till 10 (fun w' => w'.cell? ⟨b, 0, none⟩ = some (.slice va T.length vc) ∧ w'.cell? ⟨b, 1, none⟩ = some (.map (some mb))) (by kernel_rfl) ?_
  refine till_take 0 8 false (v := ?v0) (by kernel_rfl) (by kernel_rfl) (by kernel_rfl) (by kernel_rfl) (by kernel_rfl) (fun _ _ _ h => h) ?hw0 S0 ?hy0 ?rest0
  case hw0 => (simp only [List.getElem?_toArray, List.getElem?_cons_zero, Option.elim]; rfl)
  case hy0 => (simp only [List.getElem?_toArray, List.getElem?_cons_zero, Option.elim]; intro wx _; go_simp; with_reducible rfl)
  simp only [dstOf, List.getElem?_toArray, List.getElem?_cons_zero, Option.bind, Act.put, List.setIfInBounds_toArray, List.set_cons_zero, List.set_cons_succ]
  refine till_take 1 8 false (v := ?v1) (by kernel_rfl) (by kernel_rfl) (by kernel_rfl) (by kernel_rfl) (by kernel_rfl) (fun _ _ _ h => h) ?hw1 S0 ?hy1 ?rest1
  case hw1 => (simp only [List.getElem?_toArray, List.getElem?_cons_zero, List.getElem?_cons_succ, Option.elim]; rfl)
  case hy1 => (simp only [List.getElem?_toArray, List.getElem?_cons_zero, List.getElem?_cons_succ, Option.elim]; intro wx _; go_simp; with_reducible rfl)
  simp only [dstOf, List.getElem?_toArray, List.getElem?_cons_zero, List.getElem?_cons_succ, Option.bind, Act.put, List.setIfInBounds_toArray, List.set_cons_zero, List.set_cons_succ]
  refine till_take 2 8 false (v := ?v2) (by kernel_rfl) (by kernel_rfl) (by kernel_rfl) (by kernel_rfl) (by kernel_rfl) (fun _ _ _ h => h) ?hw2 S0 ?hy2 ?rest2
  case hw2 => (simp only [List.getElem?_toArray, List.getElem?_cons_zero, List.getElem?_cons_succ, Option.elim]; rfl)
  case hy2 => (simp only [List.getElem?_toArray, List.getElem?_cons_zero, List.getElem?_cons_succ, Option.elim]; intro wx _; go_simp; with_reducible rfl)
  simp only [dstOf, List.getElem?_toArray, List.getElem?_cons_zero, List.getElem?_cons_succ, Option.bind, Act.put, List.setIfInBounds_toArray, List.set_cons_zero, List.set_cons_succ]
  refine till_take 3 8 true (v := ?v3) (by kernel_rfl) (by kernel_rfl) (by kernel_rfl) (by kernel_rfl) (by kernel_rfl) (fun _ _ _ h => h) ?hw3 S0 ?hy3 ?rest3
  case hw3 => (simp only [List.getElem?_toArray, List.getElem?_cons_zero, List.getElem?_cons_succ, Option.elim]; rfl)
  case hy3 => (simp only [List.getElem?_toArray, List.getElem?_cons_zero, List.getElem?_cons_succ, Option.elim]; intro wx hx; have x0 := (hx trivial).1; go_simp; with_reducible rfl)
  simp only [dstOf, List.getElem?_toArray, List.getElem?_cons_zero, List.getElem?_cons_succ, Option.bind, Act.put, List.setIfInBounds_toArray, List.set_cons_zero, List.set_cons_succ]
  refine till_take 5 8 false (v := ?v5) (by kernel_rfl) (by kernel_rfl) (by kernel_rfl) (by kernel_rfl) (by kernel_rfl) (fun _ _ _ h => h) ?hw5 S0 ?hy5 ?rest5
  case hw5 => (simp only [List.getElem?_toArray, List.getElem?_cons_zero, List.getElem?_cons_succ, Option.elim]; rfl)
  case hy5 => (simp only [List.getElem?_toArray, List.getElem?_cons_zero, List.getElem?_cons_succ, Option.elim]; intro wx _; go_simp; with_reducible rfl)
  simp only [dstOf, List.getElem?_toArray, List.getElem?_cons_zero, List.getElem?_cons_succ, Option.bind, Act.put, List.setIfInBounds_toArray, List.set_cons_zero, List.set_cons_succ]
  refine till_take 6 8 false (v := ?v6) (by kernel_rfl) (by kernel_rfl) (by kernel_rfl) (by kernel_rfl) (by kernel_rfl) (fun _ _ _ h => h) ?hw6 S0 ?hy6 ?rest6
  case hw6 => (simp only [List.getElem?_toArray, List.getElem?_cons_zero, List.getElem?_cons_succ, Option.elim]; rfl)
  case hy6 => (simp only [List.getElem?_toArray, List.getElem?_cons_zero, List.getElem?_cons_succ, Option.elim]; intro wx _; go_simp; with_reducible rfl)
  simp only [dstOf, List.getElem?_toArray, List.getElem?_cons_zero, List.getElem?_cons_succ, Option.bind, Act.put, List.setIfInBounds_toArray, List.set_cons_zero, List.set_cons_succ]
  refine till_take 7 8 false (v := ?v7) (by kernel_rfl) (by kernel_rfl) (by kernel_rfl) (by kernel_rfl) (by kernel_rfl) (fun _ _ _ h => h) ?hw7 S0 ?hy7 ?rest7
  case hw7 => (simp only [List.getElem?_toArray, List.getElem?_cons_zero, List.getElem?_cons_succ, Option.elim]; rfl)
  case hy7 => (simp only [List.getElem?_toArray, List.getElem?_cons_zero, List.getElem?_cons_succ, Option.elim]; intro wx _; go_simp; with_reducible rfl)
  simp only [dstOf, List.getElem?_toArray, List.getElem?_cons_zero, List.getElem?_cons_succ, Option.bind, Act.put, List.setIfInBounds_toArray, List.set_cons_zero, List.set_cons_succ]
  refine till_take 8 8 true (v := ?v8) (by kernel_rfl) (by kernel_rfl) (by kernel_rfl) (by kernel_rfl) (by kernel_rfl) (fun _ _ _ h => h) ?hw8 S0 ?hy8 ?rest8
  case hw8 => (simp only [List.getElem?_toArray, List.getElem?_cons_zero, List.getElem?_cons_succ, Option.elim]; rfl)
  case hy8 => (simp only [List.getElem?_toArray, List.getElem?_cons_zero, List.getElem?_cons_succ, Option.elim]; intro wx hx; have x1 := (hx trivial).2; go_simp; with_reducible rfl)
  simp only [dstOf, List.getElem?_toArray, List.getElem?_cons_zero, List.getElem?_cons_succ, Option.bind, Act.put, List.setIfInBounds_toArray, List.set_cons_zero, List.set_cons_succ]
  refine till_before 4 (by kernel_rfl) (fun K hK => ?_)
  simp only [List.getElem?_toArray, List.getElem?_cons_zero, List.getElem?_cons_succ, Option.elim]
  rw [if_pos (by rfl)]
  go_simp
  go_at_call 27
  refine (HCT.out).mono ?_
  rintro e w1 ⟨v', rfl, hf, hb1⟩
  refine hK.out _ _ (And.intro (below_cell S0.1 hb1) (below_cell S0.2 hb1)) ?_
  clear hK K
  try simp only [Act.put, List.setIfInBounds_toArray, List.set_cons_zero, List.set_cons_succ]
  obtain ⟨ua, uc, hua⟩ := own_form hf.1
  subst hua
  have T0 : w1.cell? ⟨b, 0, none⟩ = some (.slice va T.length vc) ∧ w1.cell? ⟨b, 1, none⟩ = some (.map (some mb)) := ⟨below_cell S0.1 hb1, below_cell S0.2 hb1⟩
  have HF := Lib.hid hf
  have HB := Lib.hid hb1
  have hm := (HC.out.map.block (w' := w1) (hb1.block mb HC.out.map.lt))
  obtain ⟨es, clock, hes⟩ := hm.entries
  have HES := Lib.hid hes
  have HM := Lib.hid hm
  clear hf hb1 hes hm HCT S0
  refine till_before 9 (by kernel_rfl) (fun K hK => ?_)
  simp only [List.getElem?_toArray, List.getElem?_cons_zero, List.getElem?_cons_succ, Option.elim]
  rw [if_pos (by rfl)]
  go_simp
  go_at_call 28
  refine (cloneM mb es clock _ HES.out).mono ?_
  rintro e w2 ⟨rfl, rfl⟩
  refine hK.out _ _ (And.intro (below_cell T0.1 ((Below.refl _ _).alloc (Nat.le_refl _) _)) (below_cell T0.2 ((Below.refl _ _).alloc (Nat.le_refl _) _))) ?_
  clear hK K
  try simp only [Act.put, List.setIfInBounds_toArray, List.set_cons_zero, List.set_cons_succ]
  refine till_step 10 (by kernel_rfl) (by kernel_rfl) (fun K hK => ?_)
  simp only [List.getElem?_toArray, List.getElem?_cons_zero, List.getElem?_cons_succ, Option.elim]
  rw [if_pos (by rfl)]
  go_simp
  refine hK.out _ _ ?_
  clear hK K
  try simp only [Act.put, List.setIfInBounds_toArray, List.set_cons_zero, List.set_cons_succ]
  refine till_step 11 (by kernel_rfl) (by kernel_rfl) (fun K hK => ?_)
  simp only [List.getElem?_toArray, List.getElem?_cons_zero, List.getElem?_cons_succ, Option.elim]
  rw [if_pos (by rfl)]
  go_simp
  refine hK.out _ _ ?_
  clear hK K
  try simp only [Act.put, List.setIfInBounds_toArray, List.set_cons_zero, List.set_cons_succ]
  refine till_step 12 (by kernel_rfl) (by kernel_rfl) (fun K hK => ?_)
  simp only [List.getElem?_toArray, List.getElem?_cons_zero, List.getElem?_cons_succ, Option.elim]
  rw [if_pos (by rfl)]
  go_simp
  refine hK.out _ _ ?_
  clear hK K
  try simp only [Act.put, List.setIfInBounds_toArray, List.set_cons_zero, List.set_cons_succ]
  refine till_end (by kernel_rfl) ?_ _
  go_wp2
  go_ret
  have hf := HF.out
  have hb := HB.out
  have hcp := HM.out.copy HES.out
  have hs1 := hb.size
  have e1 : (strVs T).length = T.length := strVs_length T
  have hrow := hf.1
  rw [e1] at hrow
  rw [e1] at hf ⊢
  have hown : ∀ k, (Value.slice ua T.length uc).ownBlock = some k → k < w1.heap.size := fun k hk => (hrow.lt k hk).2
  refine ⟨_, rfl, H.out.pushNames (v := .slice ua T.length uc) (mb := w1.heap.size) ((hb.alloc hs1 _).alloc (Nat.le_trans hs1 (by simp)) _) ?_ ((hrow.alloc _).alloc _) (hcp.kept (World.grownBy_alloc _ _ none) (by simp)) (show w.drew.heap.size ≤ _ by omega) hs1 hf.2 (by omega) (fun e => by have := hown _ e; omega) (fun e => by have := hown _ e; omega)⟩
  have := (MapKept.heap_alloc (w1.alloc (.map es clock)) (.cells #[Value.slice ua T.length uc, Value.map (some w1.heap.size)] 51)).1
  simpa using this
end
end Go.Proofs.Ytjhedlkanphlhaa
