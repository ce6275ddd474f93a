/- A disk on which a crash is scheduled, and the same without: plain facts. -/
import Derived.Test.YtadnmoaemnajgaaPlain
namespace Go.Proofs.Ytadnmoaemnajgaa
open Dp

/-- The disk C, with a crash scheduled. -/
def Dp.Dk.tw (C : Dk) (m : Nat) (ks : List Int) : Dk := { C with calls := m, keep := ks }
theorem hardens_tw (C : Dk) (m : Nat) (ks : List Int) (ps : List (Nat × Nat)) : hardens (C.tw m ks) ps = (hardens C ps).tw m ks := by
  induction ps generalizing C with
  | nil => rfl
  | cons p ps ih => exact ih (C.harden p)
theorem settle_tw (C : Dk) (m : Nat) (ks : List Int) (f : Nat) : (C.tw m ks).settle f = (C.settle f).tw m ks := by
  show ({ hardens (C.tw m ks) (keepsF f C.pend) with pend := dropsF f C.pend } : Dk) = _
  rw [hardens_tw]; rfl
theorem trunc_tw (C : Dk) (m : Nat) (ks : List Int) (f : Int) (n : Nat) : (C.tw m ks).trunc f n = (C.trunc f n).tw m ks := by
  unfold Dk.trunc
  rw [settle_tw]; rfl
theorem wr_tw (C : Dk) (m : Nat) (ks : List Int) (f a : Int) (s : List UInt8) : (C.tw m ks).wr f a s = ((C.wr f a s).1, (C.wr f a s).2.tw m ks) := by
  unfold Dk.wr
  split
  · rfl
  · split
    · rfl
    · split <;> rfl
theorem crash_tw (C : Dk) (m : Nat) (ks l : List Int) (hd : C.down = false) : ((C.tw m ks).crash l).now = (C.crash l).now ∧ ((C.tw m ks).crash l).down = true ∧ (C.crash l).down = true := by
  unfold Dk.crash
  rw [hd, show (C.tw m ks).down = false from hd]
  have h : hardens (C.tw m ks) (survive l 0 (C.tw m ks).pend) = (hardens C (survive l 0 C.pend)).tw m ks := hardens_tw _ _ _ _
  simp only [h]
  exact ⟨rfl, rfl, rfl⟩
theorem strike_tw (C : Dk) (m : Nat) (ks : List Int) (hm : 2 ≤ m) : (C.tw m ks).strike = (false, C.tw (m - 1) ks) := by
  unfold Dk.strike
  rw [if_neg (show ¬ (C.tw m ks).calls = 0 by show ¬ m = 0; omega), if_neg (show ¬ (C.tw m ks).calls = 1 by show ¬ m = 1; omega)]
  rfl
theorem strike_hit (C : Dk) (ks : List Int) : (C.tw 1 ks).strike = (true, (C.tw 0 ks).crash ks) := by
  unfold Dk.strike
  rw [if_neg (show ¬ (C.tw 1 ks).calls = 0 from Nat.one_ne_zero), if_pos (show (C.tw 1 ks).calls = 1 from rfl)]
  rfl

/-- The acts that the statement performs: without Arm, Crash and Start. -/
theorem act_low {D : Dk} {x : Act1} (h : x.K % 8 < 2) (_ : 0 ≤ x.K % 8) : Dk.act D x = D.write x.F x.N x.S := by
  unfold Dk.act
  rw [if_neg (by omega), if_neg (by omega), if_neg (by omega), if_neg (by omega), if_neg (by omega), if_neg (by omega)]
theorem act_two {D : Dk} {x : Act1} (h : x.K % 8 = 2) : Dk.act D x = D.sync x.F := by unfold Dk.act; rw [if_pos h]
theorem act_three {D : Dk} {x : Act1} (h : x.K % 8 = 3) : Dk.act D x = D.truncate x.F x.N := by unfold Dk.act; rw [if_neg (by omega), if_pos h]
theorem act_four {D : Dk} {x : Act1} (h : x.K % 8 = 4) : Dk.act D x = (0, D.lose (x.N % 4)) := by unfold Dk.act; rw [if_neg (by omega), if_neg (by omega), if_pos h]

/-- Up, and nothing is scheduled. -/
structure Calm (C : Dk) : Prop where
  down : C.down = false
  calls : C.calls = 0
theorem calm_act {C : Dk} (h : Calm C) {x : Act1} (hx : x.K % 8 < 5) : Calm (Dk.act C x).2 := by
  have h0 : 0 ≤ x.K % 8 := by omega
  by_cases h1 : x.K % 8 < 2
  · rw [act_low h1 h0, write_up h.calls h.down]
    exact ⟨by rw [wr_down]; exact h.down, by rw [wr_calls]; exact h.calls⟩
  · by_cases h2 : x.K % 8 = 2
    · rw [act_two h2]
      unfold Dk.sync
      rw [h.down, if_neg (by simp)]
      simp only [strike_none h.calls]
      rw [if_neg (by simp)]
      split
      · exact h
      · split
        · exact ⟨h.down, h.calls⟩
        · exact ⟨by show (C.settle _).down = false; rw [settle_down]; exact h.down, by show (C.settle _).calls = 0; rw [settle_calls]; exact h.calls⟩
    · by_cases h3 : x.K % 8 = 3
      · rw [act_three h3]
        unfold Dk.truncate
        rw [h.down, if_neg (by simp)]
        simp only [strike_none h.calls]
        rw [if_neg (by simp)]
        split
        · exact h
        · exact ⟨by show (C.settle _).down = false; rw [settle_down]; exact h.down, by show (C.settle _).calls = 0; rw [settle_calls]; exact h.calls⟩
      · rw [act_four (by omega)]
        exact ⟨h.down, h.calls⟩

theorem sync_of {D E : Dk} (hd : D.down = false) (hs : D.strike = (false, E)) (f : Int) : D.sync f = if isFile f = false then (eArg, E) else if 0 < E.lost then (eLost, { E with lost := E.lost - 1 }) else (eOK, E.settle f.toNat) := by
  unfold Dk.sync
  rw [hd, hs, if_neg (by simp)]
  simp only
  rw [if_neg (by simp)]
theorem truncate_of {D E : Dk} (hd : D.down = false) (hs : D.strike = (false, E)) (f n : Int) : D.truncate f n = if isFile f = false ∨ n < 0 ∨ (E.size f : Int) < n then (eArg, E) else (eOK, E.trunc f n.toNat) := by
  unfold Dk.truncate
  rw [hd, hs, if_neg (by simp)]
  simp only
  rw [if_neg (by simp)]
/-- Before the crash, both do the same. -/
theorem twin_go {C : Dk} (h : Calm C) {x : Act1} (hx : x.K % 8 < 4) {m : Nat} (hm : 2 ≤ m) (ks : List Int) : Dk.act (C.tw m ks) x = ((Dk.act C x).1, (Dk.act C x).2.tw (m - 1) ks) := by
  have h0 : 0 ≤ x.K % 8 := by omega
  have hd : (C.tw m ks).down = false := h.down
  by_cases h1 : x.K % 8 < 2
  · rw [act_low h1 h0, act_low h1 h0, write_up h.calls h.down]
    unfold Dk.write
    rw [hd, if_neg (by simp)]
    simp only [wr_tw, strike_tw _ _ _ hm]
    rw [if_neg (by simp)]
  · by_cases h2 : x.K % 8 = 2
    · rw [act_two h2, act_two h2, sync_of hd (strike_tw C m ks hm), sync_of h.down (strike_none h.calls)]
      by_cases hf : isFile x.F = false
      · rw [if_pos hf, if_pos hf]
      · rw [if_neg hf, if_neg hf]
        by_cases hl : 0 < C.lost
        · rw [if_pos (show 0 < (C.tw (m - 1) ks).lost from hl), if_pos hl]; rfl
        · rw [if_neg (show ¬ 0 < (C.tw (m - 1) ks).lost from hl), if_neg hl, settle_tw]
    · rw [act_three (by omega), act_three (by omega), truncate_of hd (strike_tw C m ks hm), truncate_of h.down (strike_none h.calls)]
      by_cases hf : isFile x.F = false ∨ x.N < 0 ∨ (C.size x.F : Int) < x.N
      · rw [if_pos (show isFile x.F = false ∨ x.N < 0 ∨ ((C.tw (m - 1) ks).size x.F : Int) < x.N from hf), if_pos hf]
      · rw [if_neg (show ¬ (isFile x.F = false ∨ x.N < 0 ∨ ((C.tw (m - 1) ks).size x.F : Int) < x.N) from hf), if_neg hf, trunc_tw]
theorem twin_lose {C : Dk} {x : Act1} (hx : x.K % 8 = 4) (m : Nat) (ks : List Int) : Dk.act (C.tw m ks) x = ((Dk.act C x).1, (Dk.act C x).2.tw m ks) := by
  rw [act_four hx, act_four hx]; rfl
/-- At the crash. -/
theorem twin_hit {C : Dk} (h : Calm C) {x : Act1} (hx : x.K % 8 < 4) (ks : List Int) :
    (Dk.act (C.tw 1 ks) x).1 = 8 ∧ (Dk.act (C.tw 1 ks) x).2.down = true ∧ (Dk.act (C.tw 1 ks) x).2.now = ((if x.K % 8 < 2 then (Dk.act C x).2 else C).crash ks).now ∧ ((if x.K % 8 < 2 then (Dk.act C x).2 else C).crash ks).down = true := by
  have h0 : 0 ≤ x.K % 8 := by omega
  have hd : (C.tw 1 ks).down = false := h.down
  by_cases h1 : x.K % 8 < 2
  · rw [if_pos h1, act_low h1 h0, act_low h1 h0, write_up h.calls h.down]
    have hc := crash_tw (C.wr x.F x.N x.S).2 0 ks ks (by rw [wr_down]; exact h.down)
    unfold Dk.write
    rw [hd, if_neg (by simp)]
    simp only [wr_tw, strike_hit]
    rw [if_pos trivial]
    exact ⟨rfl, hc.2.1, hc.1, hc.2.2⟩
  · rw [if_neg h1]
    have hc := crash_tw C 0 ks ks h.down
    by_cases h2 : x.K % 8 = 2
    · rw [act_two h2]
      unfold Dk.sync
      rw [hd, if_neg (by simp)]
      simp only [strike_hit]
      rw [if_pos trivial]
      exact ⟨rfl, hc.2.1, hc.1, hc.2.2⟩
    · rw [act_three (by omega)]
      unfold Dk.truncate
      rw [hd, if_neg (by simp)]
      simp only [strike_hit]
      rw [if_pos trivial]
      exact ⟨rfl, hc.2.1, hc.1, hc.2.2⟩
/-- Behind the crash. -/
theorem down_act {D : Dk} (hd : D.down = true) {x : Act1} (hx : x.K % 8 < 5) : (Dk.act D x).2.down = true ∧ (Dk.act D x).2.now = D.now ∧ (x.K % 8 < 4 → (Dk.act D x).1 = 8) := by
  have h0 : 0 ≤ x.K % 8 := by omega
  by_cases h1 : x.K % 8 < 2
  · rw [act_low h1 h0]; unfold Dk.write; rw [if_pos hd]; exact ⟨hd, rfl, fun _ => rfl⟩
  · by_cases h2 : x.K % 8 = 2
    · rw [act_two h2]; unfold Dk.sync; rw [if_pos hd]; exact ⟨hd, rfl, fun _ => rfl⟩
    · by_cases h3 : x.K % 8 = 3
      · rw [act_three h3]; unfold Dk.truncate; rw [if_pos hd]; exact ⟨hd, rfl, fun _ => rfl⟩
      · rw [act_four (by omega)]; exact ⟨hd, rfl, fun h => by omega⟩
end Go.Proofs.Ytadnmoaemnajgaa
