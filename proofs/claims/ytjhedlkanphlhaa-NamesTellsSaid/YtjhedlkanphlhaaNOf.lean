/- Package names: New, Of, Len, Text. -/
import Derived.Test.YtjhedlkanphlhaaNHeap
namespace Go.Proofs.Ytjhedlkanphlhaa
open Go.RowKit Go.Maps Go.ChangeMaps Go.MapKept
open Np
attribute [local go_sem ↓] Go.wp_at_zero Go.wp_at_succ

theorem isText_any (s : ByteArray) (w : World) : Calls Try.prog 24 #[.string s] w fun e w' => e = .returned (.bool (decide (s.size ≤ 65536))) ∧ w = w' := by
  go_enter Try.func24, Try.ntmps24
  go_wp2
  go_ret
  exact ⟨ret_bool (a := decide ((s.size : Int) ≤ 65536)) (by rw [decide_eq_decide]; omega), rfl⟩
theorem clone_any (s : ByteArray) (hs : s.size ≤ 281474976710656) (w : World) :
    Calls Try.prog 26 #[.string s] w fun e w' => e = .returned (.string s) ∧ Below w.heap.size w w' := by
  go_enter Try.func26, Try.ntmps26
  go_wp2_with (go_at_call 29; refine (Try.stringslite_Clone s _ hs).mono ?_; rintro e w' ⟨rfl, hb⟩)
  go_ret
  exact ⟨rfl, hb⟩

section
variable {w0 w : World} {os : List Ob} {i b : Nat} {T : List ByteArray}
/-- A call on the list at place i: its result, and the list behind it. -/
def NPost (w0 : World) (os : List Ob) (i b : Nat) (r : Value) (T' : List ByteArray) (e : Ending) (w' : World) : Prop := e = .returned r ∧ OMem w0 w' (os.set i (.names b T'))

set_option maxRecDepth 100000 in
theorem of_out (h : OMem w0 w os) (hi : os[i]? = some (.names b T)) (s : ByteArray) (hs : 65536 < s.size) :
    Calls Try.prog 14 #[.pointer (some ⟨b, 0, none⟩), .string s] w (NPost w0 os i b (.int .i64 (Np.of T s).1) (Np.of T s).2) := by
  have HI := Lib.hid (isText_any s)
  have hd : decide (s.size ≤ 65536) = false := decide_eq_false (by omega)
  rw [hd] at HI
  go_enter Try.func14, Try.ntmps14
  go_wp2_with (go_at_call 24; refine (HI.out _).mono ?_; rintro e w1 ⟨rfl, rfl⟩)
  go_ret
  unfold NPost
  rw [of_refused hs, set_noop hi]
  exact ⟨rfl, h⟩

set_option maxRecDepth 100000 in
theorem of_in (h : OMem w0 w os) (hi : os[i]? = some (.names b T)) (s : ByteArray) (hs : s.size ≤ 65536) (hm : s ∈ T) :
    Calls Try.prog 14 #[.pointer (some ⟨b, 0, none⟩), .string s] w (NPost w0 os i b (.int .i64 (Np.of T s).1) (Np.of T s).2) := by
  obtain ⟨v, mb, hc⟩ := h.names hi
  have c1 := hc.c1
  have HI := Lib.hid (isText_any s)
  have hd : decide (s.size ≤ 65536) = true := decide_eq_true hs
  rw [hd] at HI
  have hl := hc.map.look_ok lawT Try.underlying49 (zeroI w) (keyT hs)
  rw [idxMap_at, if_pos hm] at hl
  simp only [Option.getD_some, Option.isSome_some] at hl
  clear hd
  go_enter Try.func14, Try.ntmps14
  go_wp2_with (go_at_call 24; refine (HI.out _).mono ?_; rintro e w1 ⟨rfl, rfl⟩)
  go_ret
  unfold NPost
  rw [of_known hs hm, set_noop hi]
  exact ⟨rfl, h⟩

set_option maxHeartbeats 1000000 in
set_option maxRecDepth 100000 in
theorem of_fresh (h : OMem w0 w os) (hi : os[i]? = some (.names b T)) (s : ByteArray) (hs : s.size ≤ 65536) (hm : s ∉ T) (hn : T.length ≤ 100000) :
    Calls Try.prog 14 #[.pointer (some ⟨b, 0, none⟩), .string s] w (NPost w0 os i b (.int .i64 (Np.of T s).1) (Np.of T s).2) := by
  obtain ⟨i0, hi0, hz0, hz1, hz2⟩ := info_parts string_info
  obtain ⟨v, mb, hc⟩ := h.names hi
  have c0 := hc.c0
  have c1 := hc.c1
  obtain ⟨va, vc, hv⟩ := own_form hc.row
  subst hv
  have HI := Lib.hid (isText_any s)
  have hd : decide (s.size ≤ 65536) = true := decide_eq_true hs
  rw [hd] at HI
  have hl := hc.map.look_ok lawT Try.underlying49 (zeroI w) (keyT hs)
  rw [idxMap_at, if_neg hm] at hl
  simp only [Option.getD_none, Option.isSome_none] at hl
  have HC := Lib.hid hc
  have H := Lib.hid h
  have HM := Lib.hid hm
  clear hd hc h hm
  go_enter Try.func14, Try.ntmps14
  go_wp2_with (go_at_call 24; refine (HI.out _).mono ?_; rintro e w1 ⟨rfl, rfl⟩)
  go_at_call 26
  refine (clone_any s (by omega) _).mono ?_
  rintro e w1 ⟨rfl, hb1⟩
  refine Hid.out ?_
  refine Lib.hid ?_
  have hc1 := HC.out.fresh hb1
  have d0 := hc1.c0
  have d1 := hc1.c1
  have hown := hc1.row
  have H1 := Lib.hid (H.out.fresh hb1)
  have HC1 := Lib.hid hc1
  clear hb1 hc1 c0 c1 hl HC H
  go_wp2_with (at_builtin; refine Hid.out ?_)
  refine Lib.hid ?_
  refine wpList_append_own_at _ rfl _ _ 22 rfl 0 9 i0 (.string ⟨#[]⟩) 1 16 Try.underlying22 hi0 hz0 hz1 hz2 rfl (by decide) _ _ _ rfl (hown.alloc _) ⟨w1.heap.size, 0, none⟩ 1 1 [.string s] rfl rfl (cell_one_new _ _ _) ?p2 ?p3 ?p4 (Nat.zero_le _) ?_
  case p2 => intro y hy; simp at hy; subst hy; rfl
  case p3 => unfold maxLen; omega
  case p4 => omega
  intro v' w2 hown2 hgrow hnil hat
  obtain ⟨ua, uc, rfl⟩ := own_form hown2
  clear hnil
  have hgrow := (show (w1.alloc (.cells #[.string s] 9)).grownBy w2 (Value.slice va T.length vc).ownBlock from hgrow)
  have hat := (show (Value.slice ua (T.length + 1) uc).ownBlock = (Value.slice va T.length vc).ownBlock ∨ (Value.slice ua (T.length + 1) uc).ownBlock = some (w1.alloc (.cells #[.string s] 9)).heap.size from hat)
  have hc2 := HC1.out.fresh (show Below w1.heap.size w1 (w1.alloc (.cells #[.string s] 9)) from (Below.refl _ _).alloc (Nat.le_refl _) _)
  have hb2 := (hgrow.block b (lt_heap hc2.blk) (fun e => hc2.br e.symm)).trans hc2.blk
  have hm2 := hc2.map.block (hgrow.block mb hc2.map.lt (fun e => hc2.mr e.symm))
  have hm3 := hm2.block (w' := w2.setCell ⟨b, 0, none⟩ (.slice ua (T.length + 1) uc)) (set_other (Ne.symm hc2.bm))
  obtain ⟨w4, hup, hm4, hg4⟩ := hm3.store (val := .int .i64 (T.length : Int)) lawT Try.underlying49 (by unfold maxLen; omega) (keyT hs) (by rw [idxMap_at, if_neg HM.out])
  have e0 : w2.cell? ⟨b, 0, none⟩ = some (.slice va T.length vc) := by rw [Lib.cell_of_heap hb2]; rfl
  have e1 : w2.cell? ⟨b, 1, none⟩ = some (.map (some mb)) := by rw [Lib.cell_of_heap hb2]; rfl
  have f0 : w2.frozen? ⟨b, 0, none⟩ = false := Lib.frozen_of_heap hb2 0
  have HB := Lib.hid hb2
  have HO := Lib.hid hown2
  have HG := Lib.hid hgrow
  have HA := Lib.hid hat
  have HM4 := Lib.hid hm4
  have HG4 := Lib.hid hg4
  clear hown2 hgrow hat hc2 hb2 hm2 hm3 hm4 hg4 hown d0 d1
  go_wp2
  go_ret
  unfold NPost
  rw [of_new hs HM.out]
  refine ⟨rfl, ?_⟩
  have hC := HC1.out
  have g := HG.out
  have g4 := HG4.out
  have hz : w1.heap.size ≤ w2.heap.size := by have := g.size; simp at this; omega
  have hz4 := g4.size
  rw [set_size] at hz4
  have hold : ∀ x, x < w1.heap.size → x ≠ b → x ≠ mb → (Value.slice va T.length vc).ownBlock ≠ some x → w4.heap[x]? = w1.heap[x]? := fun x hx h1 h2 h3 => by
    rw [g4.block x (by rw [set_size]; omega) (fun e => h2 (by injection e)), set_other h1, g.block x (by simp; omega) (fun e => h3 e.symm)]
    exact Below.heap_alloc w1 _ x hx
  have hne : ∀ k, (Value.slice ua (T.length + 1) uc).ownBlock = some k → k ≠ b ∧ k ≠ mb := fun k hk => by
    rcases HA.out with q | q
    · exact ⟨fun e => hC.br (by rw [← e, ← hk, q]), fun e => hC.mr (by rw [← e, ← hk, q])⟩
    · have h1 := q.symm.trans hk
      simp at h1
      have h2 := lt_heap hC.blk
      have h3 := hC.map.lt
      exact ⟨by omega, by omega⟩
  refine H1.out.named hi hC (v' := .slice ua (T.length + 1) uc) (g4.os.trans g.os) (g4.tape.trans g.tape) (g4.output.trans g.output) (Nat.le_trans hz hz4) hold ?_ ?_ ?_ ?_
  · rw [g4.block b (by rw [set_size]; exact lt_heap HB.out) (fun e => hC.bm (by injection e))]
    exact set_heap HB.out _
  · have ho : w2.ownsRow 0 9 1 (.slice ua (T.length + 1) uc) (T ++ [s]).length (strVs (T ++ [s])) := by simpa [strVs] using HO.out
    refine ownsRow_block ho fun k hk => ?_
    rw [g4.block k (by rw [set_size]; exact (ho.lt k hk).2) (fun e => (hne k hk).2 (by injection e)), set_other (hne k hk).1]
  · exact HM4.out.congr (fun kl => idxMap_snoc HM.out kl) (by simp)
  · rcases HA.out with q | q
    · exact .inl q
    · exact .inr fun k hk => by have h1 := q.symm.trans hk; simp at h1; omega
theorem n_of (h : OMem w0 w os) (hi : os[i]? = some (.names b T)) (s : ByteArray) (hn : T.length ≤ 100000) :
    Calls Try.prog 14 #[.pointer (some ⟨b, 0, none⟩), .string s] w (NPost w0 os i b (.int .i64 (Np.of T s).1) (Np.of T s).2) := by
  by_cases hs : s.size ≤ 65536
  · by_cases hm : s ∈ T
    · exact of_in h hi s hs hm
    · exact of_fresh h hi s hs hm hn
  · exact of_out h hi s (by omega)

set_option maxRecDepth 100000 in
theorem n_len (h : OMem w0 w os) (hi : os[i]? = some (.names b T)) :
    Calls Try.prog 18 #[.pointer (some ⟨b, 0, none⟩)] w fun e w' => e = .returned (.int .i64 (T.length : Int)) ∧ w = w' := by
  obtain ⟨v, mb, hc⟩ := h.names hi
  have c0 := hc.c0
  obtain ⟨va, vc, rfl⟩ := own_form hc.row
  clear h hc
  go_enter Try.func18, Try.ntmps18
  go_wp2
  go_ret
  exact ⟨rfl, rfl⟩
set_option maxHeartbeats 1000000 in
set_option maxRecDepth 100000 in
theorem n_text (h : OMem w0 w os) (hi : os[i]? = some (.names b T)) (n : Int) (hn : I64 n) (ht : AllText T) :
    Calls Try.prog 16 #[.pointer (some ⟨b, 0, none⟩), .int .i64 n] w fun e w' => e = .returned (.tuple #[.string (Np.text T n).1, .bool (Np.text T n).2]) ∧ Below w.heap.size w w' := by
  obtain ⟨v, mb, hc⟩ := h.names hi
  have c0 := hc.c0
  obtain ⟨va, vc, hvc, hcell⟩ := (texts_own hc.row).form
  subst hvc
  have HC := Lib.hid hcell
  clear h hc hcell
  by_cases h0 : n < 0
  · rw [text_none (.inl h0)]
    go_enter Try.func16, Try.ntmps16
    go_wp2
    go_ret2
    exact ⟨rfl, Below.refl _ _⟩
  · obtain ⟨m, rfl⟩ : ∃ m : Nat, n = (m : Int) := ⟨n.toNat, by omega⟩
    by_cases hm : m < T.length
    · rw [text_some hm]
      obtain ⟨g, off, rfl, hcell⟩ := HC.out m hm
      have hT := ht _ (List.getElem_mem hm)
      go_enter Try.func16, Try.ntmps16
      go_wp2_with (go_at_call 26; refine (clone_any _ (by omega) _).mono ?_; rintro e w' ⟨rfl, hb⟩)
      go_ret2
      exact ⟨rfl, hb⟩
    · rw [text_none (.inr (by omega))]
      go_enter Try.func16, Try.ntmps16
      go_wp2
      go_ret2
      exact ⟨rfl, Below.refl _ _⟩
end
end Go.Proofs.Ytjhedlkanphlhaa
