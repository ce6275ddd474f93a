/- Package vault: New, Key, Keys, Boxes, isKey. -/
import Derived.Test.YtkicdfoncopklaaVHeap
import Derived.Test.YtkicdfoncopklaaOrd2
import Derived.Test.YtkicdfoncopklaaShelf
import Derived.Lib.AppendZeros
namespace Go.Proofs.Ytkicdfoncopklaa
open Go.RowKit Go.Maps Go.ChangeMaps Go.MapKept
open Vp
attribute [local go_sem ↓] Go.wp_at_zero Go.wp_at_succ

theorem bun_info : (Try.prog.info? 58).map (fun i => (i.zero, i.size, i.bytes)) = some (some (.agg #[.bool false, .slice none 0 0]), 2, 32) := by kernel_rfl
theorem pl_info : (Try.prog.info? 56).map (fun i => (i.zero, i.size, i.bytes)) = some (some (.agg #[.int .i64 0, .int .i64 0]), 2, 16) := by kernel_rfl
theorem clone_any (s : ByteArray) (hs : s.size ≤ 281474976710656) (w : World) :
    Calls Try.prog 24 #[.string s] w fun e w' => e = .returned (.string s) ∧ Below w.heap.size w w' := by
  go_enter Try.func24, Try.ntmps24
  go_wp2_with (go_at_call 30; refine (Try.stringslite_Clone s _ hs).mono ?_; rintro e w' ⟨rfl, hb⟩)
  go_ret
  exact ⟨rfl, hb⟩

/-- Two cells go onto a row of elements that have two. -/
theorem run_push_bun (w : World) (v : Value) (ks : List Bun) (p : Bun) (q : Nat) (hown : w.ownsRow 0 58 2 v ks.length (bunVs ks)) (h0 : w.cell? ⟨q, 0, none⟩ = some (.bool p.gone)) (h1 : w.cell? ⟨q, 1, none⟩ = some p.v) (hp : p.v.oneCell' = true) (hn : ks.length ≤ 100000) :
    ∃ v' w', (Builtin.append_ #[51, 51] 51 #[v, .slice (some ⟨q, 0, none⟩) 1 1]).run Try.prog w = .ok v' w' ∧ w'.ownsRow 0 58 2 v' (ks ++ [p]).length (bunVs (ks ++ [p])) ∧ w.grownBy w' v.ownBlock ∧ (v'.ownBlock = v.ownBlock ∨ v'.ownBlock = some w.heap.size) ∧ ∃ a c, v' = .slice a (ks.length + 1) c := by
  obtain ⟨i0, hi, hz0, hz1, hz2⟩ := info_parts bun_info
  obtain ⟨v', w', r1, r2, r3, _, r5⟩ := run_append_own_at (P := Try.prog) w 0 51 51 58 i0 (.agg #[.bool false, .slice none 0 0]) 2 32 Try.underlying51 hi hz0 hz1 hz2 rfl (by decide) v ks.length _ hown ⟨q, 0, none⟩ 1 1 [.bool p.gone, p.v] rfl (fun j u hj => by
    match j, hj with
    | 0, hj => simp at hj; subst hj; rw [Lib.add_plain]; exact h0
    | 1, hj => simp at hj; subst hj; rw [Lib.add_plain]; exact h1) (fun u hu => by simp at hu; rcases hu with rfl | rfl; rfl; exact hp) (by unfold maxLen; omega) (by omega) (Nat.zero_le _)
  have r2' : w'.ownsRow 0 58 2 v' (ks ++ [p]).length (bunVs (ks ++ [p])) := by rw [bunVs_app]; simpa [bunVs] using r2
  obtain ⟨a, c, hv⟩ := own_form r2'
  exact ⟨v', w', r1, r2', r3, r5, a, c, by rw [hv]; simp⟩
theorem run_push_pl (w : World) (v : Value) (ps : List (Nat × Nat)) (p : Nat × Nat) (q : Nat) (hown : w.ownsRow 0 56 2 v ps.length (plVs ps)) (h0 : w.cell? ⟨q, 0, none⟩ = some (.int .i64 (p.1 : Int))) (h1 : w.cell? ⟨q, 1, none⟩ = some (.int .i64 (p.2 : Int))) (hn : ps.length ≤ 100000) :
    ∃ v' w', (Builtin.append_ #[52, 52] 52 #[v, .slice (some ⟨q, 0, none⟩) 1 1]).run Try.prog w = .ok v' w' ∧ w'.ownsRow 0 56 2 v' (ps ++ [p]).length (plVs (ps ++ [p])) ∧ w.grownBy w' v.ownBlock ∧ (v'.ownBlock = v.ownBlock ∨ v'.ownBlock = some w.heap.size) ∧ ∃ a c, v' = .slice a (ps.length + 1) c := by
  obtain ⟨i0, hi, hz0, hz1, hz2⟩ := info_parts pl_info
  obtain ⟨v', w', r1, r2, r3, _, r5⟩ := run_append_own_at (P := Try.prog) w 0 52 52 56 i0 (.agg #[.int .i64 0, .int .i64 0]) 2 16 Try.underlying52 hi hz0 hz1 hz2 rfl (by decide) v ps.length _ hown ⟨q, 0, none⟩ 1 1 [.int .i64 (p.1 : Int), .int .i64 (p.2 : Int)] rfl (fun j u hj => by
    match j, hj with
    | 0, hj => simp at hj; subst hj; rw [Lib.add_plain]; exact h0
    | 1, hj => simp at hj; subst hj; rw [Lib.add_plain]; exact h1) (fun u hu => by simp at hu; rcases hu with rfl | rfl <;> rfl) (by unfold maxLen; omega) (by omega) (Nat.zero_le _)
  have r2' : w'.ownsRow 0 56 2 v' (ps ++ [p]).length (plVs (ps ++ [p])) := by rw [plVs_app]; simpa [plVs] using r2
  obtain ⟨a, c, hv⟩ := own_form r2'
  exact ⟨v', w', r1, r2', r3, r5, a, c, by rw [hv]; simp⟩
/-- A string goes onto a row of strings. -/
theorem run_push_str (v : Value) (xs : List ByteArray) (z : ByteArray) (w : World) (q : Nat) (hown : w.ownsRow 0 9 1 v xs.length (strVs xs)) (hq : w.cell? ⟨q, 0, none⟩ = some (.string z)) (hn : xs.length ≤ 100000) :
    ∃ v' w', (Builtin.append_ #[39, 39] 39 #[v, .slice (some ⟨q, 0, none⟩) 1 1]).run Try.prog w = .ok v' w' ∧ w'.ownsRow 0 9 1 v' (xs ++ [z]).length (strVs (xs ++ [z])) ∧ w.grownBy w' v.ownBlock ∧ (v'.ownBlock = v.ownBlock ∨ v'.ownBlock = some w.heap.size) ∧ ∃ a c, v' = .slice a (xs.length + 1) c := by
  obtain ⟨i0, hi, hz0, hz1, hz2⟩ := info_parts string_info
  obtain ⟨v', w', h1, h2, h3, _, h5⟩ := run_append_own_at (P := Try.prog) w 0 39 39 9 i0 (.string ⟨#[]⟩) 1 16 Try.underlying39 hi hz0 hz1 hz2 rfl (by decide) v xs.length _ hown ⟨q, 0, none⟩ 1 1 [.string z] rfl (fun j u hj => by
    match j, hj with
    | 0, hj => simp at hj; subst hj; rw [Lib.add_plain]; exact hq) (fun u hu => by simp at hu; subst hu; rfl) (by unfold maxLen; omega) (by omega) (Nat.zero_le _)
  have h2' : w'.ownsRow 0 9 1 v' (xs ++ [z]).length (strVs (xs ++ [z])) := by simpa [strVs] using h2
  obtain ⟨a, c, hv⟩ := own_form h2'
  exact ⟨v', w', h1, h2', h3, h5, a, c, by rw [hv]; simp⟩

section
variable {w0 w : World} {os : List Ob} {i b : Nat} {V : Vt}
set_option maxRecDepth 100000 in
theorem v_new (h : OMem w0 w os) : Calls Try.prog 9 #[] w fun e w' => ∃ b, e = .returned (.pointer (some ⟨b, 0, none⟩)) ∧ OMem w0 w' (os ++ [.vault b empty]) := by
  go_enter Try.func9, Try.ntmps9
  go_wp2
  go_ret
  refine ⟨_, rfl, h.vaultNew (v := .slice none 0 0) (u := .slice none 0 0) (ks := []) (ps := []) ((Below.refl _ _).alloc (Nat.le_refl _) _) ⟨(MapKept.heap_alloc w _).1, World.ownsRow_nil _ _ _ _, World.ownsRow_nil _ _ _ _, fun p hp => (by cases hp), ?_, rep_empty⟩ fun x hx => ?_⟩
  · exact ⟨fun e => (by cases e), fun e => (by cases e), fun _ e => (by cases e), fun p hp => (by cases hp), fun p hp => (by cases hp), fun p hp => (by cases hp), fun i j p q hi => (by simp at hi)⟩
  · rcases hx with rfl | hx | hx | ⟨p, hp, _⟩
    · exact Nat.le_refl _
    · cases hx
    · cases hx
    · cases hp
set_option maxRecDepth 100000 in
theorem v_keys (h : OMem w0 w os) (hi : os[i]? = some (.vault b V)) : Calls Try.prog 13 #[.pointer (some ⟨b, 0, none⟩)] w fun e w' => e = .returned (.int .i64 (V.good.length : Int)) ∧ w = w' := by
  obtain ⟨v, u, ks, ps, hc, _⟩ := h.vault hi
  have c0 := hc.c0
  obtain ⟨va, vc, rfl⟩ := hc.vform
  clear h hc
  go_enter Try.func13, Try.ntmps13
  go_wp2
  go_ret
  exact ⟨rfl, rfl⟩
set_option maxRecDepth 100000 in
theorem v_boxes (h : OMem w0 w os) (hi : os[i]? = some (.vault b V)) : Calls Try.prog 14 #[.pointer (some ⟨b, 0, none⟩)] w fun e w' => e = .returned (.int .i64 (V.boxes.length : Int)) ∧ w = w' := by
  obtain ⟨v, u, ks, ps, hc, _⟩ := h.vault hi
  have c1 := hc.c1
  obtain ⟨ua, uc, rfl⟩ := hc.uform
  clear h hc
  go_enter Try.func14, Try.ntmps14
  go_wp2
  go_ret
  exact ⟨rfl, rfl⟩
set_option maxRecDepth 100000 in
theorem v_isKey {va : Option Addr} {n vc : Nat} (c0 : w.cell? ⟨b, 0, none⟩ = some (.slice va n vc)) (k : Int) : Calls Try.prog 28 #[.pointer (some ⟨b, 0, none⟩), .int .i64 k] w fun e w' => e = .returned (.bool (decide (0 ≤ k ∧ k < (n : Int)))) ∧ w = w' := by
  by_cases h0 : 0 ≤ k
  · by_cases h1 : k < (n : Int)
    · go_enter Try.func28, Try.ntmps28
      go_wp2
      go_ret
      exact ⟨ret_bool (decide_eq_true ⟨h0, h1⟩).symm, rfl⟩
    · go_enter Try.func28, Try.ntmps28
      go_wp2
      go_ret
      exact ⟨ret_bool (decide_eq_false (by omega)).symm, rfl⟩
  · go_enter Try.func28, Try.ntmps28
    go_wp2
    go_ret
    have hk : ¬ (0 ≤ k) := by omega
    exact ⟨ret_bool (by simp [hk]), rfl⟩

set_option maxHeartbeats 1000000 in
set_option maxRecDepth 100000 in
theorem v_key (h : OMem w0 w os) (hi : os[i]? = some (.vault b V)) (hn : V.good.length ≤ 100000) :
    Calls Try.prog 17 #[.pointer (some ⟨b, 0, none⟩)] w fun e w' => e = .returned (.int .i64 (V.good.length : Int)) ∧ OMem w0 w' (os.set i (.vault b (key V))) := by
  obtain ⟨v, u, ks, ps, hc, hch⟩ := h.vault hi
  have hb1 : Below w.heap.size w (w.alloc (.cells #[.bool false, .slice none 0 0] 58)) := (Below.refl _ _).alloc (Nat.le_refl _) _
  have hc1 := hc.fresh hb1
  have hq := (MapKept.heap_alloc w (.cells #[.bool false, .slice none 0 0] 58)).1
  obtain ⟨v', w2, hr, ho, hg, hat, a', c', hv'⟩ := run_push_bun _ v ks ⟨false, .slice none 0 0, []⟩ w.heap.size hc1.krow (by rw [Lib.cell_of_heap hq]; rfl) (by rw [Lib.cell_of_heap hq]; rfl) rfl (by rw [hc.rep.keys]; exact hn)
  obtain ⟨va, vc, hv⟩ := hc.vform
  have hkl := hc.rep.keys
  have c0 := hc.c0
  subst hv hv'
  rw [hkl] at hr ho hat
  have hbb := (hg.block b (lt_heap hc1.blk) (fun e => hc.ap.bv e.symm)).trans hc1.blk
  have e0 : w2.cell? ⟨b, 0, none⟩ = some (.slice va V.good.length vc) := by rw [Lib.cell_of_heap hbb]; rfl
  have f0 : w2.frozen? ⟨b, 0, none⟩ = false := Lib.frozen_of_heap hbb 0
  have HC := Lib.hid hc
  have HC1 := Lib.hid hc1
  have HCH := Lib.hid hch
  have HO := Lib.hid ho
  have HG := Lib.hid hg
  have HA := Lib.hid hat
  have HB := Lib.hid hbb
  have HR := Lib.hid hr
  clear hc hc1 hch ho hg hat hbb h hb1 hq hkl hr
  go_enter Try.func17, Try.ntmps17
  go_wp2_with (at_builtin; refine Hid.out ?_)
  refine Lib.hid ?_
  refine Lib.wpList_append_run _ rfl _ _ _ _ rfl _ _ rfl rfl _ _ HR.out ?_
  go_wp2
  go_ret
  have hg := HG.out
  have hc := HC.out
  have ho := HO.out
  have hz : w.heap.size ≤ w2.heap.size := by have := hg.size; simp at this; omega
  have old : ∀ x, x < w.heap.size → x ≠ b → (Value.slice va V.good.length vc).ownBlock ≠ some x → (w2.setCell ⟨b, 0, none⟩ (.slice a' (V.good.length + 1) c')).heap[x]? = w.heap[x]? := fun x hx h1 h2 => by
    rw [set_other h1, hg.block x (by simp; omega) (fun e => h2 e.symm)]
    exact Below.heap_alloc w _ x hx
  have hnew : (Value.slice a' (V.good.length + 1) c').ownBlock = (Value.slice va V.good.length vc).ownBlock ∨ ∀ x, (Value.slice a' (V.good.length + 1) c').ownBlock = some x → w.heap.size ≤ x := HA.out.imp_right fun e x hx => by
    have := e.symm.trans hx; simp at this; omega
  have hap := (hc.ap.keys (fun x hx => hc.lt x hx) hnew).push (q := ⟨false, .slice none 0 0, []⟩) (fun x e => by cases e)
  have hlen : (ks ++ [(⟨false, .slice none 0 0, []⟩ : Bun)]).length = V.good.length + 1 := by rw [List.length_append, hc.rep.keys]; rfl
  refine ⟨rfl, HCH.out _ _ (.slice a' (V.good.length + 1) c') u (ks ++ [⟨false, .slice none 0 0, []⟩]) ps hg.os hg.tape hg.output (by rw [set_size]; exact hz) (fun x hx hn => old x hx (fun e => hn (.inl e)) (fun e => hn (.v e))) ⟨set_heap HB.out _, ?_, ?_, ?_, hap, hc.rep.key⟩ ?_⟩
  · exact ownsRow_block ho fun x hx => set_other (fun e => hap.bv (by rw [hx]; exact congrArg some e))
  · exact ownsRow_block hc.prow fun x hx => old x (hc.lt x (.u hx)) (fun e => hc.ap.bu (e ▸ hx)) (fun e => hc.ap.vu x e hx)
  · intro p hp
    rcases List.mem_append.1 hp with q | q
    · exact ownsRow_block (hc.trow p q) fun x hx => old x (hc.lt x (.t q hx)) (fun e => hc.ap.bt p q (e ▸ hx)) (fun e => hc.ap.vt p q x hx e)
    · simp at q; subst q; exact World.ownsRow_nil _ _ _ _
  · rintro x (rfl | hx | hx | ⟨p, hp, hx⟩)
    · exact .inl (.inl rfl)
    · rcases hnew with q | q
      · exact .inl (.v (q.symm.trans hx))
      · exact .inr (q x hx)
    · exact .inl (.u hx)
    · rcases List.mem_append.1 hp with q | q
      · exact .inl (.t q hx)
      · simp at q; subst q; cases hx
end
end Go.Proofs.Ytkicdfoncopklaa
