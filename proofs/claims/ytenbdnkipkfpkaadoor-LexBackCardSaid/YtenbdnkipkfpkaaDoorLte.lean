/- Package lex: Text. -/
import Derived.Test.YtenbdnkipkfpkaaDoorLfi
namespace Go.Proofs.YtenbdnkipkfpkaaDoor
open Go.RowKit Go.Maps Go.ChangeMaps Go.MapKept
open Lx
attribute [local go_sem ↓] Go.wp_at_zero Go.wp_at_succ
def sepOf (W : List S) : S := if W = [] then [] else [32]
theorem glue_sep (W : List S) (t : S) : glue (W ++ [t]) = glue W ++ sepOf W ++ t := by
  rw [glue_snoc]
  unfold sepOf
  by_cases h : W = []
  · subst h; rw [if_pos rfl, if_pos rfl]; simp [glue]
  · rw [if_neg h, if_neg h]; simp
theorem sep_snoc (W : List S) (t : S) : sepOf (W ++ [t]) = [32] := by unfold sepOf; rw [if_neg (by simp)]
theorem sep_len (W : List S) : (sepOf W).length ≤ 1 := by unfold sepOf; split <;> simp
section
variable {w : World}
set_option maxHeartbeats 4000000 in
set_option maxRecDepth 100000 in
theorem p_text {v : Value} {l : List Tk} (hv : TkAt w v l) (hl : (textOf l).length ≤ 1000000) (hll : l.length ≤ 100000) :
    Calls Tryd.prog 18 #[v] w (Reads w (.string (bs (textOf l)))) := by
  have HV := Lib.hid hv
  have HL := Lib.hid hl
  obtain ⟨a, cap, rfl, -⟩ := hv
  have H0 := Lib.hid (Lib.fresh_isBuilder 50 5 w)
  have HB0 := Lib.hid ((Below.refl w.heap.size w).alloc (Nat.le_refl _) (.cells #[.pointer none, .slice none 0 0] 50))
  clear hl
  unfold Reads
  go_enter Tryd.func18, Tryd.ntmps18
  go_wp2
  go_loopw [4, 9] (fun o i wr => ∃ k : Nat, k ≤ l.length ∧ i = .int .i64 k ∧ o = .string (bs (sepOf (wds l k))) ∧ Hid (Lib.IsBuilder 50 5 w.heap.size w.heap.size (Lib.byteCells (glue (wds l k))) wr ∧ Below w.heap.size w wr)) (fun _ i _ => l.length - (intOf i).toNat)
  case atStart => exact ⟨0, Nat.zero_le _, rfl, rfl, Lib.hid ⟨H0.out, HB0.out⟩⟩
  case round =>
    obtain ⟨k, hk, rfl, rfl, HO⟩ := hrel
    by_cases hlt : k < l.length
    · obtain ⟨t, ht⟩ : ∃ t, l[k]? = some t := ⟨_, List.getElem?_eq_getElem hlt⟩
      obtain ⟨b1, off1, cap1, h1, _, hc⟩ := (HV.out.keep HO.out.2).form (by omega)
      cases h1
      obtain ⟨c0, c1, c2, c3⟩ := hc k t ht
      have hn := wds_next ht
      have g1 := glue_le l hk
      have g2 := glue_le l (show k + 1 ≤ l.length by omega)
      have g3 := HL.out
      clear hc ht
      by_cases h3 : t.kind = 3
      · rw [if_pos h3, List.append_nil] at hn
        have HN := Lib.hid hn
        have HA := Lib.hid (show Below wr.heap.size wr (wr.alloc (.cells #[.int .i64 3, .string (bs t.text), .int .i64 t.n, .int .i64 t.pos] 25)) from (Below.refl _ _).alloc (Nat.le_refl _) _)
        rw [h3] at c0
        clear hn h3
        go_wp2
        go_roundw
        case rel => exact ⟨k + 1, by omega, by go_num, by rw [HN.out], Lib.hid ⟨by rw [HN.out]; exact builder_old HO.out.1 HA.out, HO.out.2.trans (HA.out.mono HO.out.2.size)⟩⟩
        case measure => simp [intOf]; omega
      · rw [if_neg h3] at hn
        have hk3 : (t.kind == 3) = false := beq_eq_false_iff_ne.2 h3
        obtain ⟨W, hW⟩ : ∃ W, wds l k = W := ⟨_, rfl⟩
        rw [hW] at hn g1 HO ⊢
        have hg := glue_sep W t.text
        have hs := sep_snoc W t.text
        have hsl := sep_len W
        rw [← hn] at hg hs
        have HG := Lib.hid hg
        have HS := Lib.hid hs
        have hgl : (glue (wds l (k + 1))).length = (glue W).length + (sepOf W).length + t.text.length := by rw [hg, List.length_append, List.length_append]
        generalize sepOf W = sp at HG hsl hgl ⊢
        have HA := Lib.hid (show Below wr.heap.size wr (wr.alloc (.cells #[.int .i64 t.kind, .string (bs t.text), .int .i64 t.n, .int .i64 t.pos] 25)) from (Below.refl _ _).alloc (Nat.le_refl _) _)
        have HC := Lib.hid (show (wr.alloc (.cells #[.int .i64 t.kind, .string (bs t.text), .int .i64 t.n, .int .i64 t.pos] 25)).heap[wr.heap.size]? = some _ from (MapKept.heap_alloc wr _).1)
        have HZ := Lib.hid (show wr.heap.size < (wr.alloc (.cells #[.int .i64 t.kind, .string (bs t.text), .int .i64 t.n, .int .i64 t.pos] 25)).heap.size by simp)
        have hx1 : (Lib.byteCells (glue W)).length + (bs sp).size ≤ 140737488355328 := by rw [Lib.byteCells_length, bs_size]; omega
        have hx2 : (Lib.byteCells (glue W ++ sp)).length + (bs t.text).size ≤ 140737488355328 := by rw [Lib.byteCells_length, bs_size]; simp; omega
        have HX1 := Lib.hid hx1
        have HX2 := Lib.hid hx2
        clear hn hg hs hW hx1 hx2 h3 g1 g2 g3 hgl
        go_wp2_with (go_at_call 32; refine (str_keep w.heap.size w.heap.size (Lib.byteCells (glue W)) (bs sp) wr _ HO.out.1 HA.out HX1.out HO.out.2.size).mono ?_; rintro e w4 ⟨rfl, h4, b4, k4⟩; refine Hid.out ?_)
        refine Lib.hid ?_
        have k5 := (k4 wr.heap.size (Nat.le_refl _) HZ.out).trans HC.out
        have d1 : w4.cell? ⟨wr.heap.size, 1, none⟩ = some (.string (bs t.text)) := by rw [Lib.cell_of_heap k5]; rfl
        rw [cells_app] at h4
        have H4 := Lib.hid h4
        have B4 := Lib.hid ((HO.out.2.trans (HA.out.mono HO.out.2.size)).trans b4)
        clear h4 b4 k4 k5 c0 c1 c2 c3
        go_wp2_with (go_at_call 32; refine (str_any w.heap.size w.heap.size (Lib.byteCells (glue W ++ sp)) (bs t.text) _ H4.out HX2.out B4.out.size).mono ?_; rintro e w5 ⟨rfl, h5, b5⟩; refine Hid.out ?_)
        refine Lib.hid ?_
        rw [cells_app, ← HG.out] at h5
        have H5 := Lib.hid h5
        have B5 := Lib.hid (B4.out.trans b5)
        clear h5 b5 d1
        go_wp2
        go_roundw
        case rel => exact ⟨k + 1, by omega, by go_num, by rw [HS.out]; rfl, Lib.hid ⟨H5.out, B5.out⟩⟩
        case measure => simp [intOf]; omega
    · obtain rfl : l.length = k := by omega
      have HR := Lib.hid (wds_all l)
      go_wp2_with (go_at_call 33; refine (string_any w.heap.size w.heap.size _ _ HO.out.1 HO.out.2.size).mono ?_; rintro e w2 ⟨rfl, b2⟩; refine Hid.out ?_)
      refine Lib.hid ?_
      have B2 := Lib.hid (HO.out.2.trans b2)
      clear b2
      go_wp2
      go_ret
      exact ⟨ret_string (by rw [HR.out]), B2.out⟩
end
end Go.Proofs.YtenbdnkipkfpkaaDoor
