/- The program's Fits. -/
import Derived.Test.YtemokedoeneibaaSAgree
namespace Go.Proofs.Ytemokedoeneibaa
open Go.RowKit Go.Maps Go.ChangeMaps Go.MapKept
open Sp
attribute [local go_sem ↓] Go.wp_at_zero Go.wp_at_succ

/-- One share in a new slice. -/
theorem own_one (w : World) (p : Pt) : (w.alloc (.cells #[.int .i64 p.1, .int .i64 p.2] 39)).ownsRow 0 39 2 (.slice (some ⟨w.heap.size, 0, none⟩) 1 1) 1 (ptVs [p]) :=
  World.ownsRow_lit w #[.int .i64 p.1, .int .i64 p.2] 1 (Nat.zero_le _) (by decide) rfl
theorem below_grown {w w1 w' : World} {row : Option Nat} (hb : Below w.heap.size w w1) (hg : w1.grownBy w' row) (hr : ∀ x, row = some x → w.heap.size ≤ x) : Below w.heap.size w w' :=
  ⟨hg.os.trans hb.os, hg.tape.trans hb.tape, hg.output.trans hb.output, Nat.le_trans hb.size hg.size, fun x hx => by
    have hs := hb.size
    rw [hg.block x (by omega) (fun e => by have := hr x e.symm; omega), hb.block x hx]⟩
section
variable {w : World}
/-- One share, and all of a slice behind it. -/
theorem one_push {w : World} (p : Pt) {u : Value} {l : List Pt} (hu : SharesAt w u l) (hn : l.length ≤ 1000) :
    ∃ a c w', (Builtin.append_ #[22, 22] 22 #[.slice (some ⟨w.heap.size, 0, none⟩) 1 1, u]).run Try.prog (w.alloc (.cells #[.int .i64 p.1, .int .i64 p.2] 39)) = .ok (.slice a (l.length + 1) c) w' ∧ SharesAt w' (.slice a (l.length + 1) c) (p :: l) ∧ Below w.heap.size w w' := by
  have hb := (Below.refl w.heap.size w).alloc (Nat.le_refl _) (.cells #[.int .i64 p.1, .int .i64 p.2] 39)
  obtain ⟨a, c, w', h1, h2, h3, h4⟩ := run_push _ _ u [p] l (own_one w p) (hu.keep hb) (by simp; omega)
  have e : [p].length + l.length = l.length + 1 := by simp; omega
  rw [e] at h1 h2
  exact ⟨a, c, w', h1, SharesAt.of_own h2, below_grown hb h3 fun x hx => Nat.le_of_eq (by simpa [Value.ownBlock] using hx)⟩
set_option maxHeartbeats 1000000 in
set_option maxRecDepth 100000 in
theorem g_fits {v : Value} {l : List Pt} {k s : Int} (hv : SharesAt w v l) (hn : l.length ≤ 90) :
    Calls Try.prog 13 #[v, .int .i64 k, .int .i64 s] w fun e w' => e = .returned (.bool (fitsB l k s)) ∧ Below w.heap.size w w' := by
  have HC := Lib.hid (g_check (k := k) hv (by omega))
  by_cases hw : wrong l k = 0
  · rw [hw] at HC
    have hk := wrong_ok hw
    obtain ⟨k, rfl⟩ : ∃ n : Nat, k = (n : Int) := ⟨k.toNat, by omega⟩
    have hk1 : 1 ≤ k := by omega
    have hk2 : k ≤ 20 := by omega
    have HE := fun w1 => g_elem (w := w1) s
    cases hs : inF s with
    | false =>
      rw [hs] at HE
      have HE := Lib.hid HE
      have HR := Lib.hid (fitsB_sec (l := l) (k := k) hs)
      clear hk hw hs
      go_enter Try.func13, Try.ntmps13
      go_wp2_with (go_at_call 22; refine (HC.out).mono ?_; rintro e w1 ⟨rfl, m1⟩; refine Hid.out ?_)
      refine Lib.hid ?_
      have M1 := Lib.hid m1
      go_wp2_with (go_at_call 18; refine (HE.out _).mono ?_; rintro e w2 ⟨rfl, rfl⟩; refine Hid.out ?_)
      refine Lib.hid ?_
      go_wp2
      go_ret
      exact ⟨ret_bool HR.out.symm, M1.out⟩
    | true =>
      rw [hs] at HE
      have HE := Lib.hid HE
      have HR := Lib.hid (fitsB_eq hw hs)
      have HG := Lib.hid (Good.zero hw (of_decide_eq_true hs))
      have HV := Lib.hid hv
      clear hk hw hs hv
      go_enter Try.func13, Try.ntmps13
      go_wp2_with (go_at_call 22; refine (HC.out).mono ?_; rintro e w1 ⟨rfl, m1⟩; refine Hid.out ?_)
      refine Lib.hid ?_
      have M1 := Lib.hid m1
      obtain ⟨a', c', w2, r1, hsh, hb2⟩ := one_push (0, s) (HV.out.keep m1) (by omega)
      have HP := Lib.hid r1
      have M2 := Lib.hid (M1.out.trans (hb2.mono M1.out.size))
      have HA := Lib.hid (g_agree (k := k) hsh HG.out hk1 hk2 (by simp; omega))
      clear m1 r1 hsh hb2
      go_wp2_with (go_at_call 18; refine (HE.out _).mono ?_; rintro e w3 ⟨rfl, rfl⟩; refine Hid.out ?_)
      refine Lib.hid ?_
      go_wp2_with (at_builtin; refine Hid.out ?_)
      refine Lib.hid ?_
      refine Lib.wpList_append_run _ rfl _ _ _ _ rfl _ _ rfl rfl _ _ HP.out ?_
      go_wp2_with (go_at_call 23; refine (HA.out).mono ?_; rintro e w3 ⟨rfl, m3⟩; refine Hid.out ?_)
      refine Lib.hid ?_
      have M3 := Lib.hid (M2.out.trans (m3.mono M2.out.size))
      clear m3
      go_wp2
      go_ret
      exact ⟨ret_bool (by rw [HR.out]; rfl), M3.out⟩
  · have HR := Lib.hid (fitsB_wrong (s := s) hw)
    obtain ⟨a, cap, rfl, _⟩ := hv
    have hne : (wrong l k == 0) = false := by simpa using hw
    go_enter Try.func13, Try.ntmps13
    go_wp2_with (go_at_call 22; refine (HC.out).mono ?_; rintro e w1 ⟨rfl, m1⟩; refine Hid.out ?_)
    refine Lib.hid ?_
    have M1 := Lib.hid m1
    go_wp2
    go_ret
    exact ⟨ret_bool HR.out.symm, M1.out⟩
end
end Go.Proofs.Ytemokedoeneibaa
