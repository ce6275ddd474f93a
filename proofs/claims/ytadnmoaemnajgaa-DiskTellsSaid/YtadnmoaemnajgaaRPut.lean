/- The reference's Put. -/
import Derived.Test.YtadnmoaemnajgaaRGet
import Derived.Test.YtadnmoaemnajgaaReadsW
namespace Go.Proofs.Ytadnmoaemnajgaa
open Go.RowKit Go.Maps Go.ChangeMaps Go.MapKept
open Dp
attribute [local go_sem ↓] Go.wp_at_zero Go.wp_at_succ

section
variable {P : Program} {ops : Array Oper} {rest : List Oper} {o : Oper} {a : Act} {w : World} {Q : Exit → Act → World → Prop}
theorem wpList_append_run (hgd : o.guard = none) (s x : Operand) (t tn : TypeId) (ho : o.op = .call { callee := .builtin .append, args := #[s, x], argTypes := #[t, tn] }) (vs vx : Value) (hs : a.eval s = vs) (hx : a.eval x = vx)
    (v' : Value) (w' : World) (hr : (Builtin.append_ #[t, tn] o.type #[vs, vx]).run P w = .ok v' w') (h : wpList P ops Q rest (a.put o.dst v') w') : wpList P ops Q (o :: rest) a w :=
  wpList_plain hgd fun _ hK => Lib.wp_append_run w s x t tn ho vs vx hs hx v' w' hr (hK _ _ h)
end

/-- The bytes l, at the beginning of block g, which may be written. -/
def BRow (w : World) (g cap : Nat) (l : List UInt8) : Prop :=
  ∃ cur fz, w.heap[g]? = some (.cells cur 5 fz) ∧ (fz = (0, 0) ∨ cur.size ≤ fz.1) ∧ l.length ≤ cap ∧ cap ≤ maxLen ∧ cur.size = cap ∧ cur.toList.take l.length = byteVs l
section
variable {w : World} {g cap : Nat} {l : List UInt8}
theorem BRow.lt (h : BRow w g cap l) : g < w.heap.size := by obtain ⟨_, _, h, _⟩ := h; exact lt_heap h
theorem BRow.le (h : BRow w g cap l) : l.length ≤ cap := by obtain ⟨_, _, _, _, h, _⟩ := h; exact h
theorem BRow.block {w' : World} (h : BRow w g cap l) (hb : w'.heap[g]? = w.heap[g]?) : BRow w' g cap l := by obtain ⟨cur, fz, h1, h2⟩ := h; exact ⟨cur, fz, hb.trans h1, h2⟩
theorem BRow.cell (h : BRow w g cap l) {j : Nat} {b : UInt8} (hj : l[j]? = some b) : w.cell? ⟨g, j, none⟩ = some (.int .u8 (b.toNat : Int)) := by
  obtain ⟨cur, fz, h1, _, h3, _, h5, h6⟩ := h
  obtain ⟨hlt, rfl⟩ := List.getElem?_eq_some_iff.1 hj
  have e : (cur.toList.take l.length)[j]? = (byteVs l)[j]? := by rw [h6]
  rw [List.getElem?_take_of_lt hlt] at e
  rw [Lib.cell_of_heap h1, ← Array.getElem?_toList, e]
  simp [byteVs, hlt]
theorem brow_fz {cur : Array Value} {t : TypeId} {fz : Nat × Nat} (h1 : w.heap[g]? = some (.cells cur t fz)) (h2 : fz = (0, 0) ∨ cur.size ≤ fz.1) {j : Nat} (hj : j < cur.size) : w.frozen? ⟨g, j, none⟩ = false := by
  obtain ⟨lo, hi⟩ := fz
  rcases h2 with h2 | h2
  · simp only [Prod.mk.injEq] at h2
    simp [World.frozen?, h1, h2]
  · simp only at h2
    simp [World.frozen?, h1]
    omega
theorem BRow.fz (h : BRow w g cap l) {j : Nat} (hj : j < l.length) : w.frozen? ⟨g, j, none⟩ = false := by
  obtain ⟨cur, fz, h1, h2, h3, _, h5, _⟩ := h
  exact brow_fz h1 h2 (by omega)
theorem BRow.set (h : BRow w g cap l) {j : Nat} (b : UInt8) : BRow (w.setCell ⟨g, j, none⟩ (.int .u8 (b.toNat : Int))) g cap (l.set j b) := by
  obtain ⟨cur, fz, h1, h2, h3, h4, h5, h6⟩ := h
  refine ⟨cur.setIfInBounds j (.int .u8 (b.toNat : Int)), fz, ?_, ?_, by simpa using h3, h4, by simpa using h5, ?_⟩
  · simp [World.setCell, Array.getElem?_modify, h1]
  · simpa using h2
  · rw [Array.toList_setIfInBounds, List.length_set, List.take_set, h6]
    simp [byteVs, List.map_set]

theorem u8c : Try.prog.underlying 58 = some (.slice 5) := Try.underlying58
/-- append of one byte. -/
theorem BRow.push (h : BRow w g cap l) (hl : l.length < 16777216) (b : UInt8) {a : Nat} (hc : w.cell? ⟨a, 0, none⟩ = some (.int .u8 (b.toNat : Int))) (ty : TypeId) :
    ∃ g' cap' w', (Builtin.append_ #[58, 58] ty #[.slice (some ⟨g, 0, none⟩) l.length cap, .slice (some ⟨a, 0, none⟩) 1 1]).run Try.prog w = .ok (.slice (some ⟨g', 0, none⟩) (l.length + 1) cap') w' ∧ BRow w' g' cap' (l ++ [b]) ∧ w.grownBy w' (some g) ∧ (g' = g ∨ g' = w.heap.size) := by
  obtain ⟨i0, hi, hz0, hz1, hz2⟩ := info_parts byte_info
  have hh := h
  obtain ⟨cur, fz, h1, h2, h3, h4, h5, h6⟩ := h
  have hbl : (byteVs l).length = l.length := byteVs_length l
  have hsn : byteVs (l ++ [b]) = byteVs l ++ [.int .u8 (b.toNat : Int)] := by simp [byteVs]
  have hnew : ∀ j v, [Value.int .u8 (b.toNat : Int)][j]? = some v → w.cell? ((⟨a, 0, none⟩ : Addr).add j) = some v := fun j v hj => by
    cases j with
    | zero => simp at hj; subst hj; rw [Lib.add_plain]; exact hc
    | succ j => simp at hj
  by_cases hroom : l.length + 1 ≤ cap
  · have hf := run_firstCells_some (P := Try.prog) w 1 1 ⟨a, 0, none⟩ 1 1 [.int .u8 (b.toNat : Int)] rfl hnew
    have hcell : w.cell? ⟨g, l.length, none⟩ = some (cur[l.length]'(by omega)) := by rw [Lib.cell_of_heap h1]; exact Array.getElem?_eq_getElem _
    have hfro := brow_fz h1 h2 (j := l.length) (by omega)
    have hst : (storeCells ⟨g, l.length, none⟩ [.int .u8 (b.toNat : Int)]).run Try.prog w = .ok () (w.setCell ⟨g, l.length, none⟩ (.int .u8 (b.toNat : Int))) := by
      have hs := run_store Try.prog w ⟨g, l.length, none⟩ (.int .u8 (b.toNat : Int)) .plain rfl
      rw [hcell] at hs
      simp only [hfro] at hs
      simp [storeCells, Lib.add_plain, hs]
    refine ⟨g, cap, w.setCell ⟨g, l.length, none⟩ (.int .u8 (b.toNat : Int)), ?_, ⟨cur.setIfInBounds l.length (.int .u8 (b.toNat : Int)), fz, by simp [World.setCell, Array.getElem?_modify, h1], by simpa using h2, by simpa using hroom, h4, by simpa using h5, ?_⟩, ⟨rfl, rfl, rfl, by rw [set_size]; exact Nat.le_refl _, fun k _ hk => set_other (fun e => hk (by rw [e]))⟩, .inl rfl⟩
    · simp [Builtin.append_, run_underlying u8c, sizeOf, typeInfo, hi, hz1, Builtin.lenOf, hroom, hf, Addr.add_lit, hst]
    · rw [Array.toList_setIfInBounds, List.length_append, hsn]
      apply List.ext_getElem?
      intro k
      rw [List.getElem?_take, List.getElem?_set, List.getElem?_append, hbl]
      by_cases hk : k < l.length
      · rw [if_pos (by simp; omega), if_neg (by omega), if_pos hk, ← h6, List.getElem?_take_of_lt hk]
      · by_cases hk2 : k = l.length
        · subst hk2; simp; omega
        · rw [if_neg (by simp; omega), if_neg hk]
          rw [List.getElem?_eq_none]; simp; omega
  · have hcap : cap = l.length := by omega
    have hr := run_append_grow (P := Try.prog) w 58 ty 5 i0 (.int .u8 0) u8c hi hz0 ⟨g, 0, none⟩ l.length cap (byteVs l) (by rw [hbl, hz1, Nat.mul_one]) (fun j v hj => by
      obtain ⟨hjl, rfl⟩ := List.getElem?_eq_some_iff.1 hj
      have hjl2 : j < l.length := by rw [← hbl]; exact hjl
      rw [Lib.add_plain, Nat.zero_add, hh.cell (List.getElem?_eq_getElem hjl2)]
      simp [byteVs]) ⟨a, 0, none⟩ 1 1 [.int .u8 (b.toNat : Int)] (by rw [hz1]; rfl) hnew (by omega) (by omega) (growslice_fits (by omega) (by rw [hz2]; omega))
    have hge := grownCap_ge w (l.length + 1) cap 5
    have hcm : grownCap w (l.length + 1) cap 5 ≤ maxLen := grownCap_le_maxLen w (l.length + 1) cap 5 (by unfold maxLen; omega)
    refine ⟨_, _, _, hr, ⟨_, _, heap_alloc_new w.drew _, .inl rfl, by simpa using hge, hcm, ?_, ?_⟩, ⟨rfl, rfl, rfl, by simp, fun k hk _ => Lib.alloc_old w.drew _ k hk⟩, .inr rfl⟩
    · simp only [Array.size_append, List.size_toArray, hbl, size_zeroCells]
      simp [Value.cells]; omega
    · rw [hsn]
      simp only [Array.toList_append]
      have : (l ++ [b]).length = (byteVs l ++ [Value.int .u8 (b.toNat : Int)]).length := by simp [hbl]
      rw [this]
      exact List.take_left
/-- []byte(s). -/
theorem conv_brow (w : World) (s : List UInt8) (hs : s.length ≤ 16777216) : ∃ wc cap, (convert 9 58 (.string (bs s))).run Try.prog w = .ok (.slice (some ⟨w.heap.size, 0, none⟩) s.length cap) wc ∧ BRow wc w.heap.size cap s ∧ Below w.heap.size w wc := by
  have hr := run_bytes_of_string w 9 58 5 (bs s) Try.underlying9 Try.underlying58 Try.underlying5
  have hge := grownCap_ge w s.length 0 5
  have hcm : grownCap w s.length 0 5 ≤ maxLen := grownCap_le_maxLen w s.length 0 5 (by unfold maxLen; omega)
  rw [bs_size] at hr
  have hsz : (bytesRow (bs s) (grownCap w s.length 0 5)).size = grownCap w s.length 0 5 := by
    have := bs_size s
    simp only [bytesRow, Array.size_append, Array.size_map, Array.size_replicate, this]
    have h2 : (bs s).data.size = s.length := this
    omega
  refine ⟨_, _, hr, ⟨_, _, heap_alloc_new w.drew _, .inr (Nat.le_refl _), hge, hcm, hsz, ?_⟩, ((Below.refl _ _).drew).alloc (Nat.le_refl _) _⟩
  have e1 : (bytesRow (bs s) (grownCap w s.length 0 5)).toList = byteVs s ++ List.replicate (grownCap w s.length 0 5 - (bs s).size) (.int .u8 0) := by simp [bytesRow, bs, byteVs]
  rw [e1, ← byteVs_length s]
  exact List.take_left
theorem brow_string (h : BRow w g cap l) (c : Nat) : (convert 58 9 (.slice (some ⟨g, 0, none⟩) l.length c)).run Try.prog w = .ok (.string (bs l)) w :=
  run_convert_bytes_back w 58 9 5 ⟨g, 0, none⟩ c l Try.underlying58 Try.underlying5 Try.underlying9 (fun j hj => by
    rw [Lib.add_plain, Nat.zero_add]; exact h.cell (List.getElem?_eq_getElem hj))
end

/-! ### The loops, plain -/
theorem rep_snoc (k : Nat) : List.replicate (k + 1) (0 : UInt8) = List.replicate k 0 ++ [0] := List.replicate_succ'
/-- After so many bytes. -/
def putK (s' : List UInt8) (a : Nat) (t : List UInt8) (i : Nat) : List UInt8 := s'.take a ++ t.take i ++ s'.drop (a + i)
theorem putK_length {s' : List UInt8} {a : Nat} {t : List UInt8} {i : Nat} (h : a + t.length ≤ s'.length) (hi : i ≤ t.length) : (putK s' a t i).length = s'.length := by
  simp [putK]; omega
theorem putK_zero (s' : List UInt8) (a : Nat) (t : List UInt8) : putK s' a t 0 = s' := by simp [putK]
theorem putK_get {s' : List UInt8} {a : Nat} {t : List UInt8} {i : Nat} (h : a + t.length ≤ s'.length) (hi : i ≤ t.length) (k : Nat) : (putK s' a t i)[k]? = if k < a then s'[k]? else if k < a + i then t[k - a]? else s'[k]? := by
  have l1 : (s'.take a).length = a := by simp; omega
  have l2 : (s'.take a ++ t.take i).length = a + i := by simp; omega
  unfold putK
  by_cases h1 : k < a
  · rw [if_pos h1, List.getElem?_append_left (by omega), List.getElem?_append_left (by omega), List.getElem?_take_of_lt h1]
  · rw [if_neg h1]
    by_cases h2 : k < a + i
    · rw [if_pos h2, List.getElem?_append_left (by omega), List.getElem?_append_right (by omega), l1, List.getElem?_take_of_lt (by omega)]
    · rw [if_neg h2, List.getElem?_append_right (by omega), l2, List.getElem?_drop]
      congr 1; omega
theorem putK_step {s' : List UInt8} {a : Nat} {t : List UInt8} {i : Nat} {b : UInt8} (h : a + t.length ≤ s'.length) (hb : t[i]? = some b) : (putK s' a t i).set (a + i) b = putK s' a t (i + 1) := by
  have hi := (List.getElem?_eq_some_iff.1 hb).1
  apply List.ext_getElem?
  intro k
  rw [List.getElem?_set, putK_get h (by omega), putK_get h (by omega), putK_length h (by omega)]
  by_cases hk : a + i = k
  · subst hk
    rw [if_pos rfl, if_pos (by omega), if_neg (by omega), if_pos (by omega), Nat.add_sub_cancel_left, hb]
  · rw [if_neg hk]
    by_cases h1 : k < a
    · rw [if_pos h1, if_pos h1]
    · rw [if_neg h1, if_neg h1]
      by_cases h2 : k < a + i
      · rw [if_pos h2, if_pos (by omega)]
      · rw [if_neg h2, if_neg (by omega)]
theorem putK_end (s : List UInt8) (a : Nat) (t : List UInt8) : putK (s ++ List.replicate (a + t.length - s.length) 0) a t t.length = putL s a t := by
  unfold putK putL
  simp

def lenOf : Value → Nat | .slice _ n _ => n | _ => 0

set_option maxHeartbeats 2000000 in
set_option maxRecDepth 100000 in
theorem rput_some (s : List UInt8) (a : Nat) (t : List UInt8) (ht : 0 < t.length) (hs : s.length ≤ 16777216) (ha : a + t.length ≤ 16777216) (w : World) :
    Calls Try.prog 57 #[.string (bs s), .int .i64 (a : Int), .string (bs t)] w fun e w' => e = .returned (.string (bs (putL s a t))) ∧ Below w.heap.size w w' := by
  have hzs := bs_size s
  have hzt := bs_size t
  have hne : (bs t).toList.isEmpty = false := by rw [bs_toList]; cases t with | nil => simp at ht | cons x t => rfl
  obtain ⟨wc, cap0, hconv, hbr, hbel⟩ := conv_brow w s hs
  have HBR := Lib.hid hbr
  have HBE := Lib.hid hbel
  clear hbr hbel
  go_enter Try.func57, Try.ntmps57
  go_wp2
  obtain ⟨K, hK⟩ : ∃ K, K = a + t.length - s.length := ⟨_, rfl⟩
  go_loopw [7] (fun v wr => ∃ (j g cap : Nat), j ≤ K ∧ v = .slice (some ⟨g, 0, none⟩) (s.length + j) cap ∧ w.heap.size ≤ g ∧ Hid (BRow wr g cap (s ++ List.replicate j 0)) ∧ Hid (Below w.heap.size w wr)) (fun v _ => a + t.length - lenOf v)
  case atStart => exact ⟨0, w.heap.size, cap0, Nat.zero_le _, rfl, Nat.le_refl _, Lib.hid (by simpa using HBR.out), HBE⟩
  case round =>
    obtain ⟨j, g, cap, hj, rfl, hg, HB, HE⟩ := hrel
    have hlen : (s ++ List.replicate j 0).length = s.length + j := by simp
    by_cases hlt : s.length + j < a + t.length
    · have hb2 : Below wr.heap.size wr (wr.alloc (.cells #[.int .u8 0] 5)) := below_alloc wr _
      have hbr2 : BRow (wr.alloc (.cells #[.int .u8 0] 5)) g cap (s ++ List.replicate j 0) := HB.out.block (hb2.block g HB.out.lt)
      obtain ⟨g', cap', w', hr, h2, h3, h4⟩ := hbr2.push (by omega) 0 (a := wr.heap.size) (alloc_new_cell wr _ _ 0) 58
      rw [hlen] at hr
      have hr2 : (Builtin.append_ #[58, 58] 58 #[.slice (some ⟨g, 0, none⟩) (s.length + j) cap, .slice (some ⟨wr.heap.size, 0, none⟩) 1 1]).run Try.prog (wr.alloc (.cells #[.int .u8 0] 5)) = .ok (.slice (some ⟨g', 0, none⟩) (s.length + j + 1) cap') w' := hr
      have HRR := Lib.hid hr2
      have hwl : w.heap.size ≤ wr.heap.size := HE.out.size
      have H2 := Lib.hid (show BRow w' g' cap' (s ++ List.replicate (j + 1) 0) by rw [rep_snoc, ← List.append_assoc]; exact h2)
      have H3 := Lib.hid (show Below w.heap.size w w' from by
        have hbw := HE.out.trans (hb2.mono hwl)
        have hsz := hbw.size
        exact ⟨h3.os.trans hbw.os, h3.tape.trans hbw.tape, h3.output.trans hbw.output, Nat.le_trans hsz h3.size, fun k hk => (h3.block k (by omega) (fun e => by cases e; omega)).trans (hbw.block k hk)⟩)
      have hg2 : w.heap.size ≤ g' := by rcases h4 with h | h <;> (try simp at h) <;> omega
      clear hbr2 hr hr2 h2 h3 h4 hb2
      go_wp2_with (at_builtin; refine wpList_append_run rfl _ _ _ _ rfl _ _ rfl rfl _ _ HRR.out ?_)
      go_wp2
      go_roundw
      case rel => exact ⟨j + 1, g', cap', by omega, rfl, hg2, H2, H3⟩
      case measure => simp [lenOf]; omega
    · obtain rfl : j = K := by omega
      have hsl : a + t.length ≤ s.length + j := by omega
      have hs' : (s ++ List.replicate j 0).length = s.length + j := hlen
      have HPE := Lib.hid (show putK (s ++ List.replicate j 0) a t t.length = putL s a t by rw [hK]; exact putK_end s a t)
      have hsm : s.length + j ≤ 16777216 := by omega
      clear hK hj hlen hconv HBR HBE
      generalize s ++ List.replicate j 0 = s' at HB hs' HPE
      have HS' := Lib.hid hs'
      clear hs'
      generalize s.length + j = n at *
      have hgl : w.heap.size ≤ wr.heap.size := HE.out.size
      have HGG := Lib.hid hg
      have H0 := Lib.hid (show BRow wr g cap (putK s' a t 0) by rw [putK_zero]; exact HB.out)
      go_wp2
      clear hlt
      go_loopw [8] (fun v w2 => ∃ i : Nat, i ≤ t.length ∧ v = .int .i64 (i : Int) ∧ Hid (BRow w2 g cap (putK s' a t i)) ∧ Hid (Below w.heap.size w w2)) (fun v _ => t.length - (intOf v).toNat)
      case atStart => exact ⟨0, Nat.zero_le _, rfl, H0, HE⟩
      case round =>
        obtain ⟨i, hi, rfl, HB2, HE2⟩ := hrel
        have hpl : (putK s' a t i).length = n := by rw [putK_length (by rw [HS'.out]; exact hsl) hi]; exact HS'.out
        by_cases hlt : i < t.length
        · have hks : i < (bs t).size := by omega
          obtain ⟨b, hb, hb2⟩ : ∃ b, (bs t)[i]'hks = b ∧ t[i]? = some b := ⟨_, bs_get _ _ hks _ (List.getElem?_eq_getElem hlt), List.getElem?_eq_getElem hlt⟩
          have hin : (a : Int) + (i : Int) < (n : Int) := by omega
          obtain ⟨b0, hb0⟩ : ∃ b0, (putK s' a t i)[a + i]? = some b0 := ⟨_, List.getElem?_eq_getElem (by omega)⟩
          have c0 := HB2.out.cell hb0
          have f0 := HB2.out.fz (j := a + i) (by omega)
          have H3 := Lib.hid (show BRow _ g cap (putK s' a t (i + 1)) by
            have := HB2.out.set (j := a + i) b
            rwa [putK_step (by rw [HS'.out]; exact hsl) hb2] at this)
          have H4 := Lib.hid (HE2.out.setCell (p := ⟨g, a + i, none⟩) HGG.out (.int .u8 (b.toNat : Int)))
          clear hb2 hpl hb0
          go_wp2
          go_roundw
          case rel => exact ⟨i + 1, by omega, by go_num, H3, H4⟩
          case measure => simp [intOf]; omega
        · obtain rfl : i = t.length := by omega
          have hcv : ∀ c, (convert 58 9 (.slice (some ⟨g, 0, none⟩) n c)).run Try.prog wr = .ok (.string (bs (putL s a t))) wr := fun c => by
            have := brow_string HB2.out c
            rwa [hpl, HPE.out] at this
          clear hpl
          go_wp2
          go_ret
          exact ⟨rfl, HE2.out⟩
theorem rput_any (s : List UInt8) (a : Nat) (t : List UInt8) (hs : s.length ≤ 16777216) (ha : a + t.length ≤ 16777216) (w : World) :
    Calls Try.prog 57 #[.string (bs s), .int .i64 (a : Int), .string (bs t)] w fun e w' => e = .returned (.string (bs (putN s a t))) ∧ Below w.heap.size w w' := by
  unfold putN
  by_cases h : t = []
  · subst h
    rw [if_pos rfl]
    have hb0 : bs [] = ⟨#[]⟩ := rfl
    rw [hb0]
    clear hb0
    go_enter Try.func57, Try.ntmps57
    go_wp2
    go_ret
    exact ⟨rfl, Below.refl _ _⟩
  · rw [if_neg h]
    exact rput_some s a t (by cases t with | nil => exact absurd rfl h | cons x t => simp) hs ha w
end Go.Proofs.Ytadnmoaemnajgaa
