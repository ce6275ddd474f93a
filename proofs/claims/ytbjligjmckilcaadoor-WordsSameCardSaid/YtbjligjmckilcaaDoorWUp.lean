/- Capital letters: the statements' own upper, erased. -/
import Derived.Test.YtbjligjmckilcaaDoorWSmall
namespace Go.Proofs.YtbjligjmckilcaaDoor
open Go.RowKit Go.Maps Go.ChangeMaps Go.MapKept
open Wd
attribute [local go_sem ↓] Go.wp_at_zero Go.wp_at_succ
/-- The bytes l, at the beginning of block g, which may be written. -/
def BRow (w : World) (g cap : Nat) (l : S) : Prop :=
  ∃ cur fz, w.heap[g]? = some (.cells cur 5 fz) ∧ (fz = (0, 0) ∨ cur.size ≤ fz.1) ∧ l.length ≤ cap ∧ cap ≤ maxLen ∧ cur.size = cap ∧ cur.toList.take l.length = byVs l
section
variable {w : World} {g cap : Nat} {l : S}
theorem BRow.lt (h : BRow w g cap l) : g < w.heap.size := by obtain ⟨_, _, h, _⟩ := h; exact lt_heap h
theorem BRow.le (h : BRow w g cap l) : l.length ≤ cap := by obtain ⟨_, _, _, _, h, _⟩ := h; exact h
theorem BRow.block {w' : World} (h : BRow w g cap l) (hb : w'.heap[g]? = w.heap[g]?) : BRow w' g cap l := by obtain ⟨cur, fz, h1, h2⟩ := h; exact ⟨cur, fz, hb.trans h1, h2⟩
theorem BRow.cell (h : BRow w g cap l) {j : Nat} {b : UInt8} (hj : l[j]? = some b) : w.cell? ⟨g, j, none⟩ = some (.int .u8 (b.toNat : Int)) := by
  obtain ⟨cur, fz, h1, _, h3, _, h5, h6⟩ := h
  obtain ⟨hlt, rfl⟩ := List.getElem?_eq_some_iff.1 hj
  have e : (cur.toList.take l.length)[j]? = (byVs l)[j]? := by rw [h6]
  rw [List.getElem?_take_of_lt hlt] at e
  rw [Lib.cell_of_heap h1, ← Array.getElem?_toList, e]
  simp [byVs, hlt]
theorem brow_fz {cur : Array Value} {t : TypeId} {fz : Nat × Nat} (h1 : w.heap[g]? = some (.cells cur t fz)) (h2 : fz = (0, 0) ∨ cur.size ≤ fz.1) {j : Nat} (hj : j < cur.size) : w.frozen? ⟨g, j, none⟩ = false := by
  obtain ⟨lo, hi⟩ := fz
  rcases h2 with h2 | h2
  · simp only [Prod.mk.injEq] at h2
    simp [World.frozen?, h1, h2]
  · simp only at h2
    simp [World.frozen?, h1]
    omega
theorem BRow.fz (h : BRow w g cap l) {j : Nat} (hj : j < l.length) : w.frozen? ⟨g, j, none⟩ = false := by
  obtain ⟨cur, fz, h1, h2, h3, _, h5, _⟩ := h
  exact brow_fz h1 h2 (by omega)
theorem BRow.set (h : BRow w g cap l) {j : Nat} (b : UInt8) : BRow (w.setCell ⟨g, j, none⟩ (.int .u8 (b.toNat : Int))) g cap (l.set j b) := by
  obtain ⟨cur, fz, h1, h2, h3, h4, h5, h6⟩ := h
  refine ⟨cur.setIfInBounds j (.int .u8 (b.toNat : Int)), fz, ?_, ?_, by simpa using h3, h4, by simpa using h5, ?_⟩
  · simp [World.setCell, Array.getElem?_modify, h1]
  · simpa using h2
  · rw [Array.toList_setIfInBounds, List.length_set, List.take_set, h6]
    simp [byVs, List.map_set]

/-- []byte(s). -/
theorem conv_brow (w : World) (s : S) (hs : s.length ≤ 16777216) : ∃ wc cap, (convert 9 41 (.string (bs s))).run Tryd.prog w = .ok (.slice (some ⟨w.heap.size, 0, none⟩) s.length cap) wc ∧ BRow wc w.heap.size cap s ∧ Below w.heap.size w wc := by
  have hr := run_bytes_of_string w 9 41 5 (bs s) Tryd.underlying9 Tryd.underlying41 Tryd.underlying5
  have hge := grownCap_ge w s.length 0 5
  have hcm : grownCap w s.length 0 5 ≤ maxLen := grownCap_le_maxLen w s.length 0 5 (by unfold maxLen; omega)
  rw [bs_size] at hr
  have hsz : (bytesRow (bs s) (grownCap w s.length 0 5)).size = grownCap w s.length 0 5 := by
    have := bs_size s
    simp only [bytesRow, Array.size_append, Array.size_map, Array.size_replicate, this]
    have h2 : (bs s).data.size = s.length := this
    omega
  refine ⟨_, _, hr, ⟨_, _, (MapKept.heap_alloc w.drew _).1, .inr (Nat.le_refl _), hge, hcm, hsz, ?_⟩, ((Below.refl _ _).drew).alloc (Nat.le_refl _) _⟩
  have e1 : (bytesRow (bs s) (grownCap w s.length 0 5)).toList = byVs s ++ List.replicate (grownCap w s.length 0 5 - (bs s).size) (.int .u8 0) := by simp [bytesRow, bs, byVs]
  rw [e1, ← byVs_length s]
  exact List.take_left
theorem brow_string (h : BRow w g cap l) (c : Nat) : (convert 41 9 (.slice (some ⟨g, 0, none⟩) l.length c)).run Tryd.prog w = .ok (.string (bs l)) w :=
  run_convert_bytes_back w 41 9 5 ⟨g, 0, none⟩ c l Tryd.underlying41 Tryd.underlying5 Tryd.underlying9 (fun j hj => by
    rw [Lib.add_plain, Nat.zero_add]; exact h.cell (List.getElem?_eq_getElem hj))
end

def upk (s : S) (k : Nat) : S := (s.take k).map up ++ s.drop k
theorem upk_len (s : S) {k : Nat} (h : k ≤ s.length) : (upk s k).length = s.length := by unfold upk; simp; omega
theorem upk_zero (s : S) : upk s 0 = s := by simp [upk]
theorem upk_all (s : S) : upk s s.length = s.map up := by simp [upk]
theorem upk_at {s : S} {k : Nat} {c : UInt8} (h : s[k]? = some c) : (upk s k)[k]? = some c := by
  have hk := (List.getElem?_eq_some_iff.1 h).1
  have e : ((s.take k).map up).length = k := by simp; omega
  unfold upk
  rw [List.getElem?_append_right (by omega), e, Nat.sub_self, List.getElem?_drop, Nat.add_zero, h]
theorem upk_next {s : S} {k : Nat} {c : UInt8} (h : s[k]? = some c) : (upk s k).set k (up c) = upk s (k + 1) := by
  have hk := (List.getElem?_eq_some_iff.1 h).1
  have e : ((s.take k).map up).length = k := by simp; omega
  unfold upk
  rw [List.set_append_right _ _ (by omega), e, Nat.sub_self, List.take_add_one, h, List.map_append, List.append_assoc]
  congr 1
  rw [List.drop_eq_getElem_cons hk, (List.getElem?_eq_some_iff.1 h).2]; rfl
section
variable {w : World}
set_option maxHeartbeats 4000000 in
set_option maxRecDepth 100000 in
theorem w_upper {s : S} (hs : s.length ≤ 1000) : Calls Tryd.prog 22 #[.string (bs s)] w fun e w' => e = .returned (.string (bs (s.map up))) ∧ Below w.heap.size w w' := by
  obtain ⟨wc, cap, hr, hb, hB⟩ := conv_brow w s (by omega)
  have R := Lib.hid hb
  have B := Lib.hid hB
  clear hb hB
  go_enter Tryd.func22, Tryd.ntmps22
  go_wp2
  clear hr
  go_loopw [4] (fun i wr => ∃ k : Nat, k ≤ s.length ∧ i = .int .i64 k ∧ Hid (BRow wr w.heap.size cap (upk s k)) ∧ Hid (Below w.heap.size w wr)) (fun i _ => s.length - (intOf i).toNat)
  case atStart => exact ⟨0, Nat.zero_le _, rfl, by rw [upk_zero]; exact R, B⟩
  case round =>
    obtain ⟨k, hk, rfl, HR, HB⟩ := hrel
    have hcap := HR.out.le
    rw [upk_len s hk] at hcap
    by_cases hlt : k < s.length
    · obtain ⟨c, hc⟩ : ∃ c, s[k]? = some c := ⟨_, List.getElem?_eq_getElem hlt⟩
      have c0 := HR.out.cell (upk_at hc)
      have f0 := HR.out.fz (j := k) (by rw [upk_len s hk]; exact hlt)
      have hn := upk_next hc
      have hcl := c.toNat_lt
      by_cases hup : 97 ≤ c.toNat ∧ c.toNat ≤ 122
      · have e : ((up c).toNat : Int) = (c.toNat : Int) - 32 := by rw [up_toNat]; unfold upN; rw [if_pos hup]; omega
        have R2 := Lib.hid (show BRow (wr.setCell ⟨w.heap.size, k, none⟩ (.int .u8 ((c.toNat : Int) - 32))) w.heap.size cap (upk s (k + 1)) by
          rw [← hn, ← e]; exact HR.out.set (up c))
        have B2 := Lib.hid (show Below w.heap.size w (wr.setCell ⟨w.heap.size, k, none⟩ (.int .u8 ((c.toNat : Int) - 32))) from ⟨HB.out.os, HB.out.tape, HB.out.output, by rw [set_size]; exact HB.out.size, fun x hx => by rw [set_other (by simp; omega)]; exact HB.out.block x hx⟩)
        have p1 : (97 : Int) ≤ (c.toNat : Int) := by omega
        have p2 : (c.toNat : Int) ≤ 122 := by omega
        clear hn e hc
        go_wp2
        go_roundw
        case rel => exact ⟨k + 1, by omega, by go_num, R2, B2⟩
        case measure => simp [intOf]; omega
      · have e : up c = c := byte_eq (by rw [up_toNat]; unfold upN; rw [if_neg hup])
        have R2 := Lib.hid (show BRow wr w.heap.size cap (upk s (k + 1)) by
          rw [← hn, e]
          have : (upk s k).set k c = upk s k := by
            have q := List.getElem?_eq_some_iff.1 (upk_at hc)
            obtain ⟨q1, q2⟩ := q
            rw [← q2]; exact List.set_getElem_self q1
          rw [this]; exact HR.out)
        clear hn e hc
        by_cases p1 : c.toNat < 97
        · have p1' : ¬ (97 : Int) ≤ (c.toNat : Int) := by omega
          go_wp2
          go_roundw
          case rel => exact ⟨k + 1, by omega, by go_num, R2, HB⟩
          case measure => simp [intOf]; omega
        · have p1' : (97 : Int) ≤ (c.toNat : Int) := by omega
          have p2' : ¬ (c.toNat : Int) ≤ 122 := by omega
          go_wp2
          go_roundw
          case rel => exact ⟨k + 1, by omega, by go_num, R2, HB⟩
          case measure => simp [intOf]; omega
    · obtain rfl : k = s.length := by omega
      have hcv := brow_string HR.out cap
      rw [upk_len s (Nat.le_refl _), upk_all] at hcv
      go_wp2
      go_ret
      exact ⟨rfl, HB.out⟩
end
end Go.Proofs.YtbjligjmckilcaaDoor
