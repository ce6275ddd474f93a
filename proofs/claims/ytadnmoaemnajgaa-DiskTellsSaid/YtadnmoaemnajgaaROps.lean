/- The reference's Lose, Start, comes. -/
import Derived.Test.YtadnmoaemnajgaaRCrash
namespace Go.Proofs.Ytadnmoaemnajgaa
open Go.RowKit Go.Maps Go.ChangeMaps Go.MapKept
open Dp
attribute [local go_sem ↓] Go.wp_at_zero Go.wp_at_succ

/-- Each pending sector has a byte of its file. -/
def Rf.In (R : Rf) : Prop := ∀ p ∈ R.queue, 64 * p.2 < (R.now p.1).length
theorem rin_add {R : Rf} (h : R.In) (f a : Nat) (s : List UInt8) : (R.add f a s).In := by
  unfold Rf.add
  split
  · exact h
  · rename_i hs
    have hs0 : 0 < s.length := by cases s with | nil => exact absurd rfl hs | cons x t => simp
    intro p hp
    have hnow : ∀ g : Int, ({ R.putF f a s with queue := addSecs R.queue f (a / 64) (K0 a s.length) } : Rf).now g = (R.putF f a s).now g := fun _ => rfl
    rw [hnow]
    unfold Rf.putF
    rw [now_set]
    have hpn : putN (R.now f) a s = putL (R.now f) a s := by unfold putN; rw [if_neg hs]
    rcases addSecs_mem _ (show p ∈ addSecs R.queue f (a / 64) _ from hp) with h1 | ⟨h1, h2⟩
    · have := h p h1
      split
      · rename_i he
        simp only at he
        rw [hpn, putL_length]
        rw [he] at this
        omega
      · exact this
    · rw [if_pos (by simp only; omega)]
      simp only
      rw [hpn, putL_length]
      unfold K0 at h2
      omega
theorem keep_add (R : Rf) (f a : Nat) (s : List UInt8) : (R.add f a s).keep = R.keep := by unfold Rf.add; split <;> rfl
def Rf.comes (R : Rf) (f a : Int) (s : List UInt8) : Rf :=
  if R.down = true ∨ R.armed = 0 then R
  else if 1 < R.armed then { R with armed := R.armed - 1 }
  else (if isFile f = true ∧ fitsB a s = true then ({ R with armed := 0 } : Rf).add f.toNat a.toNat s else { R with armed := 0 }).crash R.keep
theorem Rf.Ok.armed' {R : Rf} (h : R.Ok) {n : Nat} (hn : (n : Int) ≤ 9223372036854775807) : ({ R with armed := n } : Rf).Ok := ⟨h.nums, h.file, h.queue, h.few, h.lost, hn, h.keep, h.size⟩
theorem Rf.Ok.lost' {R : Rf} (h : R.Ok) {n : Nat} (hn : (n : Int) ≤ 9223372036854775807) : ({ R with lost := n } : Rf).Ok := ⟨h.nums, h.file, h.queue, h.few, hn, h.armed, h.keep, h.size⟩
section
variable {w : World} {lab : Nat → Nat} {id r : Nat} {R : Rf} {L : RLoc}
set_option maxRecDepth 100000 in
theorem rstart_any (h : RIn w lab id r R L) : Calls Try.prog 37 #[.pointer (some ⟨r, 0, none⟩)] w (RPost lab id r (.tuple #[]) { R with down := false } w) := by
  have c3 := h.c 3
  have f3 := h.fz 3
  simp only [List.getElem?_toArray, List.getElem?_cons_zero, List.getElem?_cons_succ] at c3
  obtain ⟨h1, k1⟩ := h.setField (i := 3) (v := .bool false) (R' := { R with down := false }) (Hp.refl _) ⟨h.ok.nums, h.ok.file, h.ok.queue, h.ok.few, h.ok.lost, h.ok.armed, h.ok.keep, h.ok.size⟩ rfl rfl rfl (by simp)
  have H := Lib.hid (show RPost lab id r (.tuple #[]) { R with down := false } w (.returned (.tuple #[])) _ from ⟨rfl, lab, ⟨L, h1⟩, k1⟩)
  clear h h1 k1
  go_enter Try.func37, Try.ntmps37
  go_wp2
  go_end0
  exact H.out
set_option maxRecDepth 100000 in
theorem rlose_any (h : RIn w lab id r R L) (n : Int) (hn : I64 n) : Calls Try.prog 34 #[.pointer (some ⟨r, 0, none⟩), .int .i64 n] w (RPost lab id r (.tuple #[]) { R with lost := n.toNat } w) := by
  have c2 := h.c 2
  have f2 := h.fz 2
  simp only [List.getElem?_toArray, List.getElem?_cons_zero, List.getElem?_cons_succ] at c2
  have n2 := hn.2
  obtain ⟨h1, k1⟩ := h.setField (i := 2) (v := .int .i64 (n.toNat : Int)) (R' := { R with lost := n.toNat }) (Hp.refl _) (h.ok.lost' (by omega)) rfl rfl rfl (by simp)
  rw [show ((n.toNat : Nat) : Int) = max n 0 by omega] at h1 k1
  have H := Lib.hid (show RPost lab id r (.tuple #[]) { R with lost := n.toNat } w (.returned (.tuple #[])) _ from ⟨rfl, lab, ⟨L, h1⟩, k1⟩)
  clear h h1 k1 hn n2
  go_enter Try.func34, Try.ntmps34
  go_wp2
  go_end0
  exact H.out
set_option maxHeartbeats 1500000 in
set_option maxRecDepth 100000 in
theorem rcomes_any (h : RIn w lab id r R L) (hin : R.In) (f a : Int) (s : List UInt8) (hf : I64 f) (ha : I64 a) (hs : s.length ≤ 140737488355327) :
    Calls Try.prog 49 #[.pointer (some ⟨r, 0, none⟩), .int .i64 f, .int .i64 a, .string (bs s)] w (RPost lab id r (.tuple #[]) (R.comes f a s) w) := by
  have c3 := h.c 3
  have c4 := h.c 4
  have f4 := h.fz 4
  simp only [List.getElem?_toArray, List.getElem?_cons_zero, List.getElem?_cons_succ] at c3 c4
  have HN := Lib.hid (show RPost lab id r (.tuple #[]) R w (.returned (.tuple #[])) w from ⟨rfl, lab, ⟨L, h⟩, Chg.refl h.lo⟩)
  unfold Rf.comes
  by_cases hd : R.down = true
  · rw [if_pos (.inl hd)]
    rw [hd] at c3
    clear h hin hf ha
    go_enter Try.func49, Try.ntmps49
    go_wp2
    refine bodyPost_ret (results_none rfl _ _ _) rfl ?_
    exact HN.out
  have hd' : R.down = false := by simpa using hd
  rw [hd'] at c3
  by_cases h0 : R.armed = 0
  · rw [if_pos (.inr h0)]
    rw [h0] at c4
    clear h hin hf ha hd
    go_enter Try.func49, Try.ntmps49
    go_wp2
    refine bodyPost_ret (results_none rfl _ _ _) rfl ?_
    exact HN.out
  rw [if_neg (by simp [hd', h0])]
  have harm := h.ok.armed
  obtain ⟨n, hn⟩ : ∃ n, R.armed = n + 1 := ⟨R.armed - 1, by omega⟩
  obtain ⟨h1, k1⟩ := h.setField (i := 4) (v := .int .i64 (n : Int)) (R' := { R with armed := n }) (Hp.refl _) (h.ok.armed' (by omega)) rfl rfl rfl (by simp)
  have hsub : IntKind.i64.wrap (((n : Int) + 1) - 1) = (n : Int) := by rw [IntKind.wrap_i64]; omega
  rw [hn, show ((n + 1 : Nat) : Int) = (n : Int) + 1 by omega] at c4
  by_cases h2 : 1 < R.armed
  · rw [if_pos h2]
    have hnp : (0 : Int) < (n : Int) := by omega
    have hnb : (n : Int) ≤ 9223372036854775807 := by omega
    have hw64 : wrap64 (n : Int) = (n : Int) := by unfold wrap64; omega
    have HF := Lib.hid (show RPost lab id r (.tuple #[]) { R with armed := R.armed - 1 } w (.returned (.tuple #[])) _ from ⟨rfl, lab, ⟨L, by rw [show R.armed - 1 = n by omega]; exact h1⟩, k1⟩)
    clear h hin hf ha hd h0 h1 k1 harm hn h2
    go_enter Try.func49, Try.ntmps49
    go_wp2
    refine bodyPost_ret (results_none rfl _ _ _) rfl ?_
    exact HF.out
  · rw [if_neg h2]
    obtain rfl : n = 0 := by omega
    have HI1 := Lib.hid (show ({ R with armed := 0 } : Rf).In from hin)
    simp only [Int.natCast_zero, Int.zero_add] at c4 h1 k1
    have H1 := Lib.hid h1
    have K1 := Lib.hid k1
    have HFA := Lib.hid (And.intro hf ha)
    clear h hin hf ha hd h0 h1 k1 harm hn h2 hsub
    by_cases hfile : isFile f = true
    · have hfb : 0 ≤ f ∧ f < 16 := by simpa [isFile] using hfile
      obtain ⟨hf0, hf1⟩ := hfb
      have hf2 : f ≤ 15 := by omega
      have HFT := Lib.hid (fun w => fits_any a s HFA.out.2 hs w)
      by_cases hfits : fitsB a s = true
      · rw [if_pos ⟨hfile, hfits⟩]
        have hfb : 0 ≤ a ∧ a + s.length ≤ 16777216 := by simpa [fitsB] using hfits
        have HAD := Lib.hid (radd_any H1.out f.toNat a.toNat s (by omega) (by omega))
        have HI2 := Lib.hid (rin_add HI1.out f.toNat a.toNat s)
        rw [show ((f.toNat : Nat) : Int) = f by omega, show ((a.toNat : Nat) : Int) = a by omega] at HAD
        rw [hfits] at HFT
        have hkk := keep_add ({ R with armed := 0 } : Rf) f.toNat a.toNat s
        obtain ⟨R2, hR2⟩ : ∃ R2, R2 = ({ R with armed := 0 } : Rf).add f.toNat a.toNat s := ⟨_, rfl⟩
        rw [← hR2] at HAD HI2 hkk ⊢
        have HKK := Lib.hid hkk
        clear hfile hfits hfb hR2 hkk
        go_enter Try.func49, Try.ntmps49
        go_wp2_with (first | (go_at_call 52; refine (HFT.out _).mono ?_; rintro e w2 ⟨rfl, rfl⟩) | (go_at_call 53; refine HAD.out.mono ?_; rintro e w2 ⟨rfl, lab2, ⟨L2, h2⟩, k2⟩; refine Hid.out ?_))
        refine Lib.hid ?_
        have c5 := h2.c 5
        simp only [List.getElem?_toArray, List.getElem?_cons_zero, List.getElem?_cons_succ] at c5
        obtain ⟨ka, kc, hkv⟩ := own_form h2.keep
        rw [HKK.out] at hkv
        have hks := KeepR.self h2
        have hsz := h2.ok.size
        rw [HKK.out] at hks hsz
        have HCR := Lib.hid (rcrash_any h2 L2.kv _ hks (by omega) HI2.out)
        clear hks hsz
        rw [hkv] at c5 HCR
        have K2 := Lib.hid (K1.out.trans k2)
        clear h2 k2 hkv
        go_wp2_with (go_at_call 36; refine HCR.out.mono ?_; rintro e w3 ⟨rfl, lab3, g3, k3⟩; refine Hid.out ?_)
        refine Lib.hid ?_
        have HF := Lib.hid (show RPost lab id r (.tuple #[]) _ w (.returned (.tuple #[])) w3 from ⟨rfl, lab3, g3, K2.out.trans k3⟩)
        clear g3 k3 HCR c5
        go_wp2
        go_end0
        exact HF.out
      · rw [if_neg (fun e => hfits e.2)]
        have hfits' : fitsB a s = false := by simpa using hfits
        rw [hfits'] at HFT
        clear hfile hfits hfits'
        obtain ⟨w2, hw2⟩ : ∃ w2, w2 = w.setCell ⟨r, 4, none⟩ (.int .i64 0) := ⟨_, rfl⟩
        have h2 := H1.out
        rw [← hw2] at h2
        have c5 := h2.c 5
        simp only [List.getElem?_toArray, List.getElem?_cons_zero, List.getElem?_cons_succ] at c5
        obtain ⟨ka, kc, hkv⟩ := own_form h2.keep
        have HCR := Lib.hid (rcrash_any h2 L.kv R.keep (KeepR.self h2) (by have h9 : R.keep.length ≤ 1000000 := h2.ok.size; omega) HI1.out)
        rw [hkv] at c5 HCR
        rw [hw2] at c5 HCR
        clear h2 hkv hw2 w2
        go_enter Try.func49, Try.ntmps49
        go_wp2_with (first | (go_at_call 52; refine (HFT.out _).mono ?_; rintro e w2 ⟨rfl, rfl⟩) | (go_at_call 36; refine HCR.out.mono ?_; rintro e w3 ⟨rfl, lab3, g3, k3⟩; refine Hid.out ?_))
        refine Lib.hid ?_
        have HF := Lib.hid (show RPost lab id r (.tuple #[]) _ w (.returned (.tuple #[])) w3 from ⟨rfl, lab3, g3, K1.out.trans k3⟩)
        clear g3 k3 HCR
        go_wp2
        go_end0
        exact HF.out
    · rw [if_neg (fun e => hfile e.1)]
      have HFT := Lib.hid (fun w => fits_any a s HFA.out.2 hs w)
      have hfb : f < 0 ∨ 15 < f := by simp only [isFile, decide_eq_true_eq] at hfile; omega
      clear hfile
      by_cases hf0 : f < 0
      · clear hfb
        obtain ⟨w2, hw2⟩ : ∃ w2, w2 = w.setCell ⟨r, 4, none⟩ (.int .i64 0) := ⟨_, rfl⟩
        have h2 := H1.out
        rw [← hw2] at h2
        have c5 := h2.c 5
        simp only [List.getElem?_toArray, List.getElem?_cons_zero, List.getElem?_cons_succ] at c5
        obtain ⟨ka, kc, hkv⟩ := own_form h2.keep
        have HCR := Lib.hid (rcrash_any h2 L.kv R.keep (KeepR.self h2) (by have h9 : R.keep.length ≤ 1000000 := h2.ok.size; omega) HI1.out)
        rw [hkv] at c5 HCR
        rw [hw2] at c5 HCR
        clear h2 hkv hw2 w2
        go_enter Try.func49, Try.ntmps49
        go_wp2_with (first | (go_at_call 52; refine (HFT.out _).mono ?_; rintro e w2 ⟨rfl, rfl⟩) | (go_at_call 36; refine HCR.out.mono ?_; rintro e w3 ⟨rfl, lab3, g3, k3⟩; refine Hid.out ?_))
        refine Lib.hid ?_
        have HF := Lib.hid (show RPost lab id r (.tuple #[]) _ w (.returned (.tuple #[])) w3 from ⟨rfl, lab3, g3, K1.out.trans k3⟩)
        clear g3 k3 HCR
        go_wp2
        go_end0
        exact HF.out
      · have hf1 : 15 < f := by omega
        have hf2 : 0 ≤ f := by omega
        clear hfb
        obtain ⟨w2, hw2⟩ : ∃ w2, w2 = w.setCell ⟨r, 4, none⟩ (.int .i64 0) := ⟨_, rfl⟩
        have h2 := H1.out
        rw [← hw2] at h2
        have c5 := h2.c 5
        simp only [List.getElem?_toArray, List.getElem?_cons_zero, List.getElem?_cons_succ] at c5
        obtain ⟨ka, kc, hkv⟩ := own_form h2.keep
        have HCR := Lib.hid (rcrash_any h2 L.kv R.keep (KeepR.self h2) (by have h9 : R.keep.length ≤ 1000000 := h2.ok.size; omega) HI1.out)
        rw [hkv] at c5 HCR
        rw [hw2] at c5 HCR
        clear h2 hkv hw2 w2
        go_enter Try.func49, Try.ntmps49
        go_wp2_with (first | (go_at_call 52; refine (HFT.out _).mono ?_; rintro e w2 ⟨rfl, rfl⟩) | (go_at_call 36; refine HCR.out.mono ?_; rintro e w3 ⟨rfl, lab3, g3, k3⟩; refine Hid.out ?_))
        refine Lib.hid ?_
        have HF := Lib.hid (show RPost lab id r (.tuple #[]) _ w (.returned (.tuple #[])) w3 from ⟨rfl, lab3, g3, K1.out.trans k3⟩)
        clear g3 k3 HCR
        go_wp2
        go_end0
        exact HF.out
end
end Go.Proofs.Ytadnmoaemnajgaa
