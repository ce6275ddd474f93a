/- The reference of layer 4. -/
import Derived.Test.YtjhedlkanphlhaaNTools
import Derived.Test.YtjhedlkanphlhaaOrd2
import Derived.Deep.Upon
namespace Go.Proofs.Ytjhedlkanphlhaa
open Go.RowKit Go.Maps Go.ChangeMaps Go.MapKept
open Np
attribute [local go_sem ↓] Go.wp_at_zero Go.wp_at_succ

section
variable {w0 w : World} {os : List Ob} {i b : Nat} {T : List ByteArray}
set_option maxRecDepth 100000 in
theorem r_new (h : OMem w0 w os) : Calls Try.prog 13 #[] w fun e w' => ∃ b, e = .returned (.pointer (some ⟨b, 0, none⟩)) ∧ OMem w0 w' (os ++ [.ref b []]) := by
  go_enter Try.func13, Try.ntmps13
  go_wp2
  go_ret
  exact ⟨_, rfl, h.pushRef (v := .slice none 0 0) ((Below.refl _ _).alloc (Nat.le_refl _) _) (MapKept.heap_alloc _ _).1 (World.ownsRow_nil _ _ _ _) (Nat.le_refl _) (fun k hk => by cases hk) (fun e => by cases e)⟩
theorem pos_eq_of {l : List ByteArray} {s : ByteArray} {k : Nat} (hk : k < l.length) (h : s ∉ l.take k) (he : l[k] = s) : s ∈ l ∧ pos l s = k := by
  have hm : s ∈ l := by rw [← he]; exact List.getElem_mem hk
  refine ⟨hm, ?_⟩
  have h1 : l = l.take k ++ (s :: l.drop (k + 1)) := by
    rw [← he, List.getElem_cons_drop hk, List.take_append_drop]
  have h2 : s ∈ l.take k ++ [s] := by simp
  have h3 : l = (l.take k ++ [s]) ++ l.drop (k + 1) := by rw [List.append_assoc]; exact h1
  rw [h3, pos_app h2, pos_snoc h, List.length_take]
  omega
/-- The place, or -1. -/
def rat (T : List ByteArray) (s : ByteArray) : Int := if s ∈ T then (pos T s : Int) else -1
set_option maxHeartbeats 1000000 in
set_option maxRecDepth 100000 in
theorem r_at (h : OMem w0 w os) (hi : os[i]? = some (.ref b T)) (s : ByteArray) (hn : T.length ≤ 100000) : Calls Try.prog 25 #[.pointer (some ⟨b, 0, none⟩), .string s] w fun e w' => e = .returned (.int .i64 (rat T s)) ∧ w = w' := by
  obtain ⟨v, hc⟩ := h.ref hi
  have c0 := hc.c0
  obtain ⟨a, cap, hva, hcell⟩ := (texts_own hc.row).form
  subst hva
  have HC := Lib.hid hcell
  clear h hc hcell
  go_enter Try.func25, Try.ntmps25
  go_wp2
  go_loopw [5] (fun i wr => ∃ k : Nat, k ≤ T.length ∧ i = .int .i64 k ∧ s ∉ T.take k ∧ w = wr) (fun i _ => T.length - (intOf i).toNat)
  case atStart => exact ⟨0, Nat.zero_le _, rfl, by simp, rfl⟩
  case round =>
    obtain ⟨k, hk, rfl, hs, rfl⟩ := hrel
    have HS := Lib.hid hs
    clear hs
    by_cases hlt : k < T.length
    · obtain ⟨g, off, rfl, hg⟩ := HC.out k hlt
      by_cases he : T[k] = s
      · have HP := Lib.hid (pos_eq_of hlt HS.out he)
        rw [he] at hg
        clear he
        go_wp2
        go_ret
        exact ⟨ret_int (by unfold rat; rw [if_pos HP.out.1, HP.out.2]), rfl⟩
      · have hq := str_ne he
        have HN := Lib.hid (show s ∉ T.take (k + 1) by
          rw [List.take_succ_eq_append_getElem hlt]
          intro hm
          rcases List.mem_append.1 hm with q | q
          · exact HS.out q
          · simp at q; exact he q.symm)
        clear he
        go_wp2
        go_roundw
        case rel => exact ⟨k + 1, by omega, by go_num, HN.out, by trivial⟩
        case measure => simp [intOf]; omega
    · obtain rfl : k = T.length := by omega
      have hs := HS.out
      rw [List.take_length] at hs
      have HR := Lib.hid (show rat T s = -1 by unfold rat; rw [if_neg hs])
      clear hs HS
      go_wp2
      go_ret
      exact ⟨ret_int HR.out.symm, rfl⟩
set_option maxRecDepth 100000 in
theorem r_len (h : OMem w0 w os) (hi : os[i]? = some (.ref b T)) :
    Calls Try.prog 19 #[.pointer (some ⟨b, 0, none⟩)] w fun e w' => e = .returned (.int .i64 (T.length : Int)) ∧ w = w' := by
  obtain ⟨v, hc⟩ := h.ref hi
  have c0 := hc.c0
  obtain ⟨va, vc, rfl⟩ := own_form hc.row
  clear h hc
  go_enter Try.func19, Try.ntmps19
  go_wp2
  go_ret
  exact ⟨rfl, rfl⟩
set_option maxHeartbeats 1000000 in
set_option maxRecDepth 100000 in
theorem r_text (h : OMem w0 w os) (hi : os[i]? = some (.ref b T)) (n : Int) :
    Calls Try.prog 17 #[.pointer (some ⟨b, 0, none⟩), .int .i64 n] w fun e w' => e = .returned (.tuple #[.string (Np.text T n).1, .bool (Np.text T n).2]) ∧ w = w' := by
  obtain ⟨v, hc⟩ := h.ref hi
  have c0 := hc.c0
  obtain ⟨va, vc, hvc, hcell⟩ := (texts_own hc.row).form
  subst hvc
  have HC := Lib.hid hcell
  clear h hc hcell
  by_cases h0 : n < 0
  · rw [text_none (.inl h0)]
    go_enter Try.func17, Try.ntmps17
    go_wp2
    go_ret2
    exact ⟨rfl, rfl⟩
  · obtain ⟨m, rfl⟩ : ∃ m : Nat, n = (m : Int) := ⟨n.toNat, by omega⟩
    by_cases hm : m < T.length
    · rw [text_some hm]
      obtain ⟨g, off, rfl, hcell⟩ := HC.out m hm
      go_enter Try.func17, Try.ntmps17
      go_wp2
      go_ret2
      exact ⟨rfl, rfl⟩
    · rw [text_none (.inr (by omega))]
      go_enter Try.func17, Try.ntmps17
      go_wp2
      go_ret2
      exact ⟨rfl, rfl⟩

/-! ### Of -/
def RPost (w0 : World) (os : List Ob) (i b : Nat) (r : Value) (T' : List ByteArray) (e : Ending) (w' : World) : Prop := e = .returned r ∧ OMem w0 w' (os.set i (.ref b T'))
/-- Behind the append and the store of its result. -/
theorem OMem.refPush (h : OMem w0 w os) (hi : os[i]? = some (.ref b T)) {v : Value} (hc : RfC w b T v) (s : ByteArray) {q : Nat} {w1 : World} (hb : Below w.heap.size w w1) (hq : w1.cell? ⟨q, 0, none⟩ = some (.string s)) (hn : T.length ≤ 100000) :
    ∃ a c w2, (Builtin.append_ #[22, 22] 22 #[v, .slice (some ⟨q, 0, none⟩) 1 1]).run Try.prog w1 = .ok (.slice a (T.length + 1) c) w2 ∧ w2.cell? ⟨b, 0, none⟩ = some v ∧ w2.frozen? ⟨b, 0, none⟩ = false ∧
      w2.heap[b]? = some (.cells #[v] 48 (0, 0)) ∧ OMem w0 (w2.setCell ⟨b, 0, none⟩ (.slice a (T.length + 1) c)) (os.set i (.ref b (T ++ [s]))) := by
  have hc1 := hc.fresh hb
  obtain ⟨v', w2, r1, r2, r3, r4, a, c, hv'⟩ := run_push_str v T s w1 q hc1.row hq hn
  subst hv'
  have el : (T ++ [s]).length = T.length + 1 := by simp
  rw [el] at r1 r2 r4
  have hb2 := (r3.block b (lt_heap hc1.blk) (fun e => hc1.br e.symm)).trans hc1.blk
  have hne : ∀ k, (Value.slice a (T.length + 1) c).ownBlock = some k → k ≠ b := fun k hk => by
    rcases r4 with q | q
    · exact fun e => hc1.br (by rw [← e, ← hk, q])
    · have h1 := q.symm.trans hk
      have h2 := lt_heap hc1.blk
      cases h1
      omega
  have hz := hb.size
  have hz2 := r3.size
  refine ⟨a, c, w2, r1, by rw [Lib.cell_of_heap hb2]; rfl, Lib.frozen_of_heap hb2 0, hb2, h.refd hi hc (v' := .slice a (T.length + 1) c) (r3.os.trans hb.os) (r3.tape.trans hb.tape) (r3.output.trans hb.output) (by rw [set_size]; omega) ?_ ?_ ?_ ?_⟩
  · intro x hx h1 h2
    rw [set_other h1, r3.block x (by omega) (fun e => h2 e.symm)]
    exact hb.block x hx
  · exact set_heap hb2 _
  · have ho : w2.ownsRow 0 9 1 (.slice a (T.length + 1) c) (T ++ [s]).length (strVs (T ++ [s])) := by simpa [strVs] using r2
    exact ownsRow_block ho fun k hk => set_other (hne k hk)
  · rcases r4 with q | q
    · exact .inl q
    · exact .inr fun k hk => by have h1 := q.symm.trans hk; cases h1; exact hz
set_option maxHeartbeats 1000000 in
set_option maxRecDepth 100000 in
theorem r_of (h : OMem w0 w os) (hi : os[i]? = some (.ref b T)) (s : ByteArray) (hn : T.length ≤ 100000) :
    Calls Try.prog 15 #[.pointer (some ⟨b, 0, none⟩), .string s] w (RPost w0 os i b (.int .i64 (Np.of T s).1) (Np.of T s).2) := by
  by_cases hs : s.size ≤ 65536
  · have HA := Lib.hid (r_at h hi s hn)
    have hgt : ¬ ((65536 : Int) < (s.size : Int)) := by omega
    by_cases hm : s ∈ T
    · have hr : rat T s = (pos T s : Int) := by unfold rat; rw [if_pos hm]
      rw [hr] at HA
      have HO := Lib.hid (of_known hs hm)
      clear hm hr
      go_enter Try.func15, Try.ntmps15
      go_wp2_with (go_at_call 25; refine (HA.out).mono ?_; rintro e w1 ⟨rfl, rfl⟩; refine Hid.out ?_)
      refine Lib.hid ?_
      have hz0 : ¬ ((pos T s : Int) < 0) := by omega
      go_wp2
      go_ret
      unfold RPost
      rw [HO.out, set_noop hi]
      exact ⟨rfl, h⟩
    · have hr : rat T s = -1 := by unfold rat; rw [if_neg hm]
      rw [hr] at HA
      have HO := Lib.hid (of_new hs hm)
      obtain ⟨v, hc⟩ := h.ref hi
      have c0 := hc.c0
      obtain ⟨a, c, w2, r1, d0, f0, hb2, hm2⟩ := h.refPush hi hc s (q := w.heap.size) (w1 := w.alloc (.cells #[.string s] 9)) ((Below.refl _ _).alloc (Nat.le_refl _) _) (by rw [Lib.cell_of_heap (MapKept.heap_alloc w _).1]; rfl) hn
      have e0 := set_heap hb2 (o := 0) (.slice a (T.length + 1) c)
      have e1 : (w2.setCell ⟨b, 0, none⟩ (.slice a (T.length + 1) c)).cell? ⟨b, 0, none⟩ = some (.slice a (T.length + 1) c) := by rw [Lib.cell_of_heap e0]; rfl
      have HP := Lib.hid r1
      have HM := Lib.hid hm2
      have HI := Lib.hid hi
      clear hm hr r1 hm2 hb2 e0 hc h hi
      go_enter Try.func15, Try.ntmps15
      go_wp2_with (go_at_call 25; refine (HA.out).mono ?_; rintro e w1 ⟨rfl, rfl⟩; refine Hid.out ?_)
      refine Lib.hid ?_
      go_wp2_with (at_builtin; refine Lib.wpList_append_run _ rfl _ _ _ _ rfl _ _ rfl rfl _ _ HP.out ?_)
      go_ret
      unfold RPost
      rw [HO.out]
      exact ⟨ret_int (by simp), HM.out⟩
  · have HO := Lib.hid (of_refused (T := T) (s := s) (by omega))
    have hgt : (65536 : Int) < (s.size : Int) := by omega
    go_enter Try.func15, Try.ntmps15
    go_wp2
    go_ret
    unfold RPost
    rw [HO.out, set_noop hi]
    exact ⟨rfl, h⟩
end
end Go.Proofs.Ytjhedlkanphlhaa
