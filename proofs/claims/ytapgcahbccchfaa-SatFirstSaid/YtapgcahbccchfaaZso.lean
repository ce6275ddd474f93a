/- Package sat: Solve, Forced, Follows. -/
import Derived.Test.YtapgcahbccchfaaZde
import Derived.Test.YtapgcahbccchfaaZrf
import Derived.Lib.LazyBuf
namespace Go.Proofs.Ytapgcahbccchfaa
open Go.RowKit Go.Maps Go.ChangeMaps Go.MapKept
open St
attribute [local go_sem ↓] Go.wp_at_zero Go.wp_at_succ

theorem neq_nil (w : World) (a : Option Addr) (n c : Nat) : (binOp .neq 24 (.slice a n c) (.slice none 0 0)).run Try.prog w = .ok (.bool (!a.isNone)) w := run_neq_slice_nil w _ _ a n c Try.underlying24
theorem refute_can {l : List Cl} {n : Int} {cy : List Int} (h : refute l n cy = true) : ¬ St.Can l n := fun ⟨_, hc⟩ => never_both hc h
section
variable {w : World}
theorem p_dec {l : List Cl} {n mb : Nat} (hi : ImpAt w mb (fo l)) (hr : right l (n : Int) = true) (hll : l.length ≤ 2000) :
    Calls Try.prog 32 #[.map (some mb), .int .i64 (n : Int)] w fun e w' => ∃ a b, e = .returned (.tuple #[a, b]) ∧ Below w.heap.size w w' ∧
      ((∃ vs, b = .slice none 0 0 ∧ BoolsAt w' a vs ∧ Fst l (n : Int) vs) ∨ (∃ ad m c cy, a = .slice none 0 0 ∧ b = .slice (some ad) m c ∧ NumsAt w' b cy ∧ refute l (n : Int) cy = true)) := by
  refine (p_decide hi hr hll).mono ?_
  rintro e w' (⟨g, vs, he, h1, h2, h3⟩ | ⟨a, m, c, cy, he, h1, h2, h3⟩)
  · exact ⟨_, _, he, h3, .inl ⟨vs, rfl, h1, h2⟩⟩
  · exact ⟨_, _, he, h3, .inr ⟨a, m, c, cy, rfl, rfl, h1, h2⟩⟩
set_option maxHeartbeats 2000000 in
set_option maxRecDepth 100000 in
theorem p_solve {v : Value} {l : List Cl} {n : Int} (hv : ClAt w v l) (hl : l.length ≤ 2000) :
    Calls Try.prog 17 #[v, .int .i64 n] w (Solves w l n) := by
  have HV := Lib.hid hv
  have HQ := p_right (n := n) hv (by omega)
  obtain ⟨a, cap, hva⟩ := hv.slice
  subst hva
  clear hv
  unfold Solves
  go_enter Try.func17, Try.ntmps17
  cases hr : right l n with
  | false =>
    have HR := Lib.hid hr
    rw [hr] at HQ
    have HQ := Lib.hid HQ
    clear hr
    go_wp2_with (go_at_call 9; refine (HQ.out).mono ?_; rintro e w2 ⟨rfl, b2⟩; refine Hid.out ?_)
    refine Lib.hid ?_
    have HB := Lib.hid b2
    go_wp2
    go_ret3
    exact ⟨_, _, [], [], _, rfl, BoolsAt.nil _, NumsAt.nil _, HB.out, .inl ⟨HR.out, rfl, rfl, rfl⟩⟩
  | true =>
    have hn := (right_iff.1 hr).1
    obtain ⟨m, rfl⟩ : ∃ m : Nat, n = (m : Int) := ⟨n.toNat, by omega⟩
    have HRI := Lib.hid hr
    have hin := Lib.hid (right_iff.1 hr).2.2
    rw [hr] at HQ
    have HQ := Lib.hid HQ
    clear hr
    go_wp2_with (go_at_call 9; refine (HQ.out).mono ?_; rintro e w2 ⟨rfl, b2⟩; refine Hid.out ?_)
    refine Lib.hid ?_
    have HB := Lib.hid b2
    have HI := Lib.hid (p_impl (HV.out.keep b2) hl hn.2 hin.out)
    clear b2 HQ
    go_wp2_with (go_at_call 26; refine (HI.out).mono ?_; rintro e w3 ⟨mb, rfl, him, b3⟩; refine Hid.out ?_)
    refine Lib.hid ?_
    have HB3 := Lib.hid (HB.out.trans (b3.mono HB.out.size))
    have HD := Lib.hid (p_dec (n := m) him HRI.out hl)
    clear b3 HI
    go_wp2_with (go_at_call 32; refine (HD.out).mono ?_; rintro e w4 ⟨da, db, rfl, b4, hdec⟩; refine Hid.out ?_)
    refine Lib.hid ?_
    have HB4 := Lib.hid (HB3.out.trans (b4.mono HB3.out.size))
    have q24 := neq_nil
    rcases hdec with ⟨vs, rfl, hvs, hfst⟩ | ⟨a4, m4, c4, cy, rfl, rfl, hcy, href⟩
    · have HVS := Lib.hid hvs
      have HF := Lib.hid hfst
      clear b4 hvs hfst HD
      go_wp2
      go_ret3
      exact ⟨_, _, vs, [], _, rfl, HVS.out, NumsAt.nil _, HB4.out, .inr (.inl ⟨HF.out, rfl, rfl⟩)⟩
    · have HCY := Lib.hid hcy
      have HF := Lib.hid href
      clear b4 hcy href HD
      go_wp2
      go_ret3
      exact ⟨_, _, [], cy, _, rfl, BoolsAt.nil _, HCY.out, HB4.out, .inr (.inr ⟨HRI.out, refute_can HF.out, rfl, HF.out, rfl⟩)⟩
end
end Go.Proofs.Ytapgcahbccchfaa
