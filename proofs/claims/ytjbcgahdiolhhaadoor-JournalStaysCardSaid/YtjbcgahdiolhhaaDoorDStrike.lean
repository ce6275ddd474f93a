/- strike: a call is counted. -/
import Derived.Test.YtjbcgahdiolhhaaDoorDCrash
namespace Go.Proofs.YtjbcgahdiolhhaaDoor.D2
open Go.RowKit Go.Maps Go.ChangeMaps Go.MapKept
open Dp
attribute [local go_sem ↓] Go.wp_at_zero Go.wp_at_succ

/-- What a call on the disk with one result leaves. -/
def ResPost (lab : Nat → Nat) (id b : Nat) (r : Value) (D' : Dk) (w : World) (e : Ending) (w' : World) : Prop :=
  e = .returned r ∧ ∃ lab' L', DiskIn w' lab' id b D' D'.pend L' ∧ Chg id lab lab' w w'

section
variable {w : World} {lab : Nat → Nat} {id b : Nat} {D : Dk} {L : Loc}
theorem KeepOk.self {mk : List (Nat × Nat)} (h : DiskIn w lab id b D mk L) : KeepOk w lab id D L L.kv D.keep := ⟨SrcIs.of_own h.keep (oneCell_ints _), .inl ⟨rfl, rfl⟩⟩

set_option maxHeartbeats 1000000 in
set_option maxRecDepth 100000 in
theorem strike_any (h : DiskIn w lab id b D D.pend L) (hin : D.In) : Calls Tryd.prog 43 #[.pointer (some ⟨b, 0, none⟩)] w (ResPost lab id b (.bool D.strike.1) D.strike.2 w) := by
  have c5 := h.c 5
  have f5 := h.fz 5
  simp only [List.getElem?_toArray, List.getElem?_cons_zero, List.getElem?_cons_succ] at c5
  have h64 := h.ok.calls
  rcases Nat.eq_zero_or_pos D.calls with h0 | h0
  · have hs : D.strike = (false, D) := by simp [Dk.strike, h0]
    rw [hs]
    rw [h0] at c5
    have H := Lib.hid h
    clear h hs h0 h64
    go_enter Tryd.func43, Tryd.ntmps43
    go_wp2
    go_ret
    exact ⟨rfl, lab, L, H.out, Chg.refl H.out.lo⟩
  obtain ⟨c, hc⟩ : ∃ c : Nat, D.calls = c + 1 := ⟨D.calls - 1, by omega⟩
  rw [hc] at c5
  rw [show ((c + 1 : Nat) : Int) = (c : Int) + 1 by omega] at c5
  obtain ⟨h2, k2⟩ := h.setField (D' := { D with calls := c }) (i := 5) (v := .int .i64 (c : Int)) (Hp.refl _) ⟨h.ok.now, h.ok.dur, h.ok.pend, h.ok.few, h.ok.lost, by have : ({ D with calls := c } : Dk).calls = c := rfl; rw [this]; omega, h.ok.keep, h.ok.size⟩ rfl rfl rfl rfl rfl
  have c5' := h2.c 5
  have c6' := h2.c 6
  simp only [List.getElem?_toArray, List.getElem?_cons_zero, List.getElem?_cons_succ] at c5' c6'
  have H2 := Lib.hid h2
  have K2 := Lib.hid k2
  have hcl : (c : Int) + 1 ≤ 9223372036854775807 := by omega
  rcases Nat.eq_zero_or_pos c with h1 | h1
  · subst h1
    have hs : D.strike = (true, ({ D with calls := 0 } : Dk).crash D.keep) := by simp [Dk.strike, hc]
    have hcr := crash_any (D := { D with calls := 0 }) h2 L.kv D.keep (KeepOk.self h2) (by have := h.ok.size; omega) hin
    obtain ⟨ka, kc, hkv⟩ := own_form h.keep
    rw [hkv] at c6' hcr
    rw [hs]
    have c5 : w.cell? ⟨b, 5, none⟩ = some (.int .i64 1) := c5
    have c5' : (w.setCell ⟨b, 5, none⟩ (.int .i64 0)).cell? ⟨b, 5, none⟩ = some (.int .i64 0) := c5'
    have c6' : (w.setCell ⟨b, 5, none⟩ (.int .i64 0)).cell? ⟨b, 6, none⟩ = some (.slice ka D.keep.length kc) := c6'
    have hcr : Calls Tryd.prog 18 #[.pointer (some ⟨b, 0, none⟩), .slice ka D.keep.length kc] (w.setCell ⟨b, 5, none⟩ (.int .i64 0)) (DiskPost lab id b (({ D with calls := 0 } : Dk).crash D.keep) (w.setCell ⟨b, 5, none⟩ (.int .i64 0))) := hcr
    have HC := Lib.hid hcr
    clear h h2 k2 hs hc h0 hin hcr hkv h64
    go_enter Tryd.func43, Tryd.ntmps43
    go_wp2_with (go_at_call 18; refine HC.out.mono ?_; rintro e w3 ⟨rfl, lab3, L3, h3, k3⟩; have H3 := Lib.hid h3; have K3 := Lib.hid k3; clear h3 k3)
    go_ret
    exact ⟨rfl, lab3, L3, H3.out, K2.out.trans K3.out⟩
  · have hs : D.strike = (false, { D with calls := c }) := by
      simp only [Dk.strike, hc]
      rw [if_neg (by omega), if_neg (by omega)]
      rfl
    rw [hs]
    have g1 : (0 : Int) < (c : Int) := by omega
    have g2 : ((c : Int) + 1 == 0) = false := by simp; omega
    have g3 : decide ((0 : Int) < (c : Int)) = true := by simp; omega
    clear h h2 k2 hs hc h0 hin h64
    go_enter Tryd.func43, Tryd.ntmps43
    go_wp2
    go_ret
    exact ⟨rfl, lab, L, H2.out, K2.out⟩
end
end Go.Proofs.YtjbcgahdiolhhaaDoor.D2
