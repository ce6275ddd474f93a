/- The reference's Arm, New. -/
import Derived.Test.YtadnmoaemnajgaaROps4
namespace Go.Proofs.Ytadnmoaemnajgaa
open Go.RowKit Go.Maps Go.ChangeMaps Go.MapKept
open Dp
attribute [local go_sem ↓] Go.wp_at_zero Go.wp_at_succ
def Rf.arm (R : Rf) (n : Int) (ks : List Int) : Rf := { R with armed := n.toNat, keep := ks }
section
variable {w : World} {lab : Nat → Nat} {id r : Nat} {R : Rf} {L : RLoc}
theorem RIn.newKeep {w1 : World} (h : RIn w lab id r R L) (hb : Below w.heap.size w w1) {R' : Rf} {v : Value} (hv : ∀ k, v.ownBlock = some k → w.heap.size ≤ k) (ok : R'.Ok) (hf : R'.files = R.files) (hq : R'.queue = R.queue) (hl : R'.lost = R.lost) (hd : R'.down = R.down) (ha : R'.armed = R.armed)
    (o : w1.ownsRow 0 3 1 v R'.keep.length (intVs R'.keep)) :
    ∃ lab', RG (w1.setCell ⟨r, 5, none⟩ v) lab' id r R' ∧ Chg id lab lab' w (w1.setCell ⟨r, 5, none⟩ v) := by
  have h1 := h.fresh hb
  obtain ⟨h2, k2⟩ := h1.setRow (i := 5) (R' := R') (L' := { L with kv := v }) (c := id + 3) (h.chg0 hb) (.inr (.inr rfl)) (grown_refl w1 v.ownBlock) (fun k hk' => .inr ⟨h.lo k (hv k hk'), hv k hk'⟩) (fun k hk' => .inl hk') (fun k hk' => (o.lt k hk').2) (Hp.refl _) ok hl hd ha rfl (.inl ⟨by omega, rfl, hf⟩) (.inl ⟨by omega, rfl, hq⟩) (.inr ⟨rfl, rfl, o⟩)
  exact ⟨_, ⟨_, h2⟩, k2⟩
set_option maxHeartbeats 1500000 in
set_option maxRecDepth 100000 in
theorem rarm_any (h : RIn w lab id r R L) (n : Int) (hn : I64 n) (v : Value) (ks : List Int) (hk : KeepR w lab id R L v ks) (hks : ∀ z ∈ ks, I64 z) (hl : ks.length ≤ 1000000) :
    Calls Try.prog 35 #[.pointer (some ⟨r, 0, none⟩), .int .i64 n, v] w (RPost lab id r (.tuple #[]) (R.arm n ks) w) := by
  have c4 := h.c 4
  have f4 := h.fz 4
  simp only [List.getElem?_toArray, List.getElem?_cons_zero, List.getElem?_cons_succ] at c4
  have n2 := hn.2
  obtain ⟨h1, k1⟩ := h.setField (i := 4) (v := .int .i64 (n.toNat : Int)) (R' := { R with armed := n.toNat }) (Hp.refl _) (h.ok.armed' (by omega)) rfl rfl rfl (by simp)
  rw [show ((n.toNat : Nat) : Int) = max n 0 by omega] at h1 k1
  have hsrc := hk.src h1 rfl rfl k1
  have HOK := Lib.hid (show (R.arm n ks).Ok from ⟨h.ok.nums, h.ok.file, h.ok.queue, h.ok.few, h.ok.lost, by show ((n.toNat : Nat) : Int) ≤ _; omega, hks, hl⟩)
  have H1 := Lib.hid h1
  have K1 := Lib.hid k1
  clear h h1 k1 hk hks hn n2
  generalize hw1 : w.setCell ⟨r, 4, none⟩ (.int .i64 (max n 0)) = w1 at H1 K1 hsrc
  have c5 := H1.out.c 5
  have f5 := H1.out.fz 5
  simp only [List.getElem?_toArray, List.getElem?_cons_zero, List.getElem?_cons_succ] at c5
  obtain ⟨ka, kc, hkv⟩ := own_form H1.out.keep
  rw [hkv] at c5
  obtain ⟨i0, hi, hz0, hz1, hz2⟩ := info_parts int_info
  obtain ⟨hln, hsr⟩ := hsrc
  have HLN := Lib.hid hln
  clear hkv hln
  rcases hsr with ⟨rfl, h0⟩ | ⟨ad, cap, rfl, hc, ho⟩
  · obtain rfl : ks = [] := List.eq_nil_of_length_eq_zero h0
    subst hw1
    have hA := below_alloc (w.setCell ⟨r, 4, none⟩ (.int .i64 (max n 0))) (.cells #[] 3)
    have h2 := H1.out.fresh hA
    have e5 := h2.c 5
    have g5 := h2.fz 5
    simp only [List.getElem?_toArray, List.getElem?_cons_zero, List.getElem?_cons_succ] at e5
    have HNW := Lib.hid (H1.out.newKeep (R' := R.arm n []) (v := .slice (some ⟨(w.setCell ⟨r, 4, none⟩ (.int .i64 (max n 0))).heap.size, 0, none⟩) 0 0) hA (fun k hk => by cases hk; exact Nat.le_refl _) HOK.out rfl rfl rfl rfl rfl (World.ownsRow_made _ #[] 0 (Nat.zero_le _) (by unfold maxLen; omega) (by simp)))
    rw [show (w.setCell ⟨r, 4, none⟩ (.int .i64 (max n 0))).heap.size = w.heap.size from set_size _ _ _] at HNW
    clear hi hz0 hz1 hz2 hA h2 c5 f5
    go_enter Try.func35, Try.ntmps35
    go_wp2
    go_end0
    obtain ⟨lab', g, k⟩ := HNW.out
    exact ⟨rfl, lab', g, K1.out.trans k⟩
  · have HC := Lib.hid hc
    have HO := Lib.hid ho
    subst hw1
    clear hc ho
    obtain ⟨wb, hwb⟩ : ∃ wb, wb = w.setCell ⟨r, 4, none⟩ (.int .i64 (max n 0)) := ⟨_, rfl⟩
    have hbs : wb.heap.size = w.heap.size := by rw [hwb]; exact set_size _ _ _
    rw [← hwb] at H1 K1 HC c5 f5
    have hA := below_alloc wb (.cells #[] 3)
    obtain ⟨v', w', r1, r2, r3, _, r5⟩ := run_append_own_at (P := Try.prog) (wb.alloc (.cells #[] 3)) 0 31 31 3 i0 (.int .i64 0) 1 8 Try.underlying31 hi hz0 hz1 hz2 rfl (by decide) _ 0 [] (World.ownsRow_made wb #[] 0 (Nat.zero_le _) (by unfold maxLen; omega) (by simp)) ad ks.length cap (intVs ks) HLN.out (fun j u hj => (World.grownBy_alloc _ _ none).cell (HC.out j u hj) (by simp)) HO.out (by unfold maxLen; omega) (by omega) (Nat.zero_le _)
    rw [Nat.zero_add, List.nil_append] at r2
    have HRR := Lib.hid r1
    have hb2 := grown_below hA r3 (fun k hk => by cases hk; exact Nat.le_refl _)
    have h2 := H1.out.fresh hb2
    have e5 := h2.c 5
    have g5 := h2.fz 5
    simp only [List.getElem?_toArray, List.getElem?_cons_zero, List.getElem?_cons_succ] at e5
    have HNW := Lib.hid (H1.out.newKeep (R' := R.arm n ks) (v := v') hb2 (fun k hk => by
      rcases r5 with h | h
      · have h9 := h.symm.trans hk; cases h9; exact Nat.le_refl _
      · have h9 := h.symm.trans hk; simp only [World.size_alloc, Option.some.injEq] at h9; omega) HOK.out rfl rfl rfl rfl rfl r2)
    obtain ⟨oa, oc, hov⟩ := own_form r2
    subst hov
    rw [hbs] at HRR
    rw [hwb] at HRR
    clear hi hz0 hz1 hz2 hA h2 c5 f5 r1 r2 r3 r5 hb2 hbs
    go_enter Try.func35, Try.ntmps35
    go_wp2_with (at_builtin; refine wpList_append_run rfl _ _ _ _ rfl _ _ rfl rfl _ _ HRR.out ?_)
    go_end0
    obtain ⟨lab', g, k⟩ := HNW.out
    exact ⟨rfl, lab', g, (by rw [hwb] at K1; exact K1.out.trans (by rw [← hwb]; exact k))⟩
end
end Go.Proofs.Ytadnmoaemnajgaa
