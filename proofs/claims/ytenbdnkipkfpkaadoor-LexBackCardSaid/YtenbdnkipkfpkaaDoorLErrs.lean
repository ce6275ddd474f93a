/- The walk of LexErrors. -/
import Derived.Test.YtenbdnkipkfpkaaDoorLWords
namespace Go.Proofs.YtenbdnkipkfpkaaDoor
open Go.RowKit Go.Maps Go.ChangeMaps Go.MapKept
open Lx
attribute [local go_sem ↓] Go.wp_at_zero Go.wp_at_succ
theorem lex_blanks : ∀ (k : Nat) (p : Int), lex (List.replicate k 32) p = .ok [⟨3, [], 0, p + k⟩]
  | 0, p => by rw [List.replicate_zero, lex_nil]; simp
  | k + 1, p => by
    rw [List.replicate_succ, lex_blank (by decide), lex_blanks k]
    rw [show p + 1 + (k : Int) = p + ((k + 1 : Nat) : Int) by omega]
/-- With blanks behind it. -/
theorem lex_pad {s : S} {k : Nat} (hk : 0 < k) : lex (s ++ List.replicate k 32) 0 = (match lex s 0 with | .error e => .error e | .ok ts => .ok (ts.dropLast ++ [⟨3, [], 0, (s.length : Int) + k⟩])) := by
  obtain ⟨j, rfl⟩ : ∃ j, k = j + 1 := ⟨k - 1, by omega⟩
  rw [List.replicate_succ, lex_join (by decide), lex_blanks]
  cases lex s 0 with
  | error e => rfl
  | ok ts => simp only; rw [show 0 + (s.length : Int) + 1 + (j : Int) = (s.length : Int) + ((j + 1 : Nat) : Int) by omega]
def fills (n : Nat) : Prop := n = 10 ∨ n = 20 ∨ n = 40 ∨ n = 80 ∨ n = 160 ∨ n = 320 ∨ n = 640 ∨ n = 1280 ∨ n = 2560
def fillOf : Value → Nat
  | .string b => 4000 - b.size
  | _ => 0
theorem two_fill (n : Nat) : bs (List.replicate n 32) ++ bs (List.replicate n 32) = bs (List.replicate (2 * n) 32) := by
  rw [bs_append, List.replicate_append_replicate, show n + n = 2 * n by omega]
theorem part_fill {n k : Nat} (h : k ≤ n) : (bs (List.replicate n 32)).extract 0 k = bs (List.replicate k 32) := by
  rw [bs_extract, List.drop_zero, Nat.sub_zero, List.take_replicate, Nat.min_eq_left h]
set_option maxHeartbeats 8000000 in
set_option maxRecDepth 100000 in
theorem errors_walk {E : World → Prop} (A : LApi E) {w : World} {s : S} (hE : E w) :
    Calls Tryd.prog 7 #[.string (bs s)] w fun e w' => e = .returned (.bool true) ∧ Below w.heap.size w w' := by
  have HE := Lib.hid hE
  clear hE
  obtain ⟨x, hx⟩ : ∃ x, s.take 900 = x := ⟨_, rfl⟩
  have HC := fun w1 => @cut_any w1 s
  rw [hx] at HC
  have hxl : x.length ≤ 900 := by rw [← hx, List.length_take]; omega
  have HC := Lib.hid HC
  have zx := bs_size x
  clear hx
  rcases lexRes_cases x (by omega) with ⟨ts, hr, hr2⟩ | ⟨p, er, hr, hr2⟩
  · have HR := Lib.hid hr2
    have HL := Lib.hid hr
    have hne := List.length_pos_iff.2 (lex_ne hr)
    have hl1 := (lex_len hr).1
    have hdl : ts.dropLast.length = ts.length - 1 := List.length_dropLast
    have hdl2 : ∀ z : Tk, (ts.dropLast ++ [z]).length = ts.length := fun z => by rw [List.length_append, hdl, List.length_singleton]; omega
    clear hr hr2 hdl
    go_enter Tryd.func7, Tryd.ntmps7
    go_wp2_with (go_at_call 9; refine (small_any A HE.out).mono ?_; rintro e w1 ⟨rfl, b1⟩; refine Hid.out ?_)
    refine Lib.hid ?_
    have HE := Lib.hid (A.keep HE.out b1)
    have B := Lib.hid b1
    clear b1
    go_wp2_with (go_at_call 10; refine (HC.out _).mono ?_; rintro e w2 ⟨rfl, rfl⟩; refine Hid.out ?_)
    refine Lib.hid ?_
    have H := Lib.hid (A.lex_ok HR.out HE.out (by omega))
    go_wp2_with (go_at_call 11; refine (H.out).mono ?_; rintro e w3 ⟨a3, c3, rfl, h3, b1⟩; refine Hid.out ?_)
    refine Lib.hid ?_
    have HE := Lib.hid (A.keep HE.out b1)
    have B := Lib.hid (B.out.trans (b1.mono B.out.size))
    clear b1 h3
    go_wp2
    go_loopw [8] (fun f wr => ∃ n : Nat, f = .string (bs (List.replicate n 32)) ∧ Hid (fills n) ∧ w3 = wr) (fun f _ => fillOf f)
    case atStart => exact ⟨10, rfl, Lib.hid (by unfold fills; omega), rfl⟩
    case round =>
      obtain ⟨n, rfl, HF, rfl⟩ := hrel
      have hn1 : n ≤ 2560 := by have := HF.out; unfold fills at this; omega
      have zn : (bs (List.replicate n 32)).size = n := by rw [bs_size, List.length_replicate]
      by_cases hlt : n < 2000
      · have hlt' : (n : Int) < 2000 := by omega
        have h2 := two_fill n
        have HF2 := Lib.hid (show fills (2 * n) by have := HF.out; unfold fills at this ⊢; omega)
        go_wp2
        go_roundw
        case rel => exact ⟨2 * n, rfl, HF2, by trivial⟩
        case measure => (have := HF.out; unfold fills at this; simp [fillOf, bs_size]; omega)
      · have hlt' : ¬ (n : Int) < 2000 := by omega
        have hn3 : 2001 ≤ n := by have := HF.out; unfold fills at this; omega
        obtain ⟨k1, hk1⟩ : ∃ k1 : Nat, (2000 : Int) - (x.length : Int) = (k1 : Int) := ⟨2000 - x.length, by omega⟩
        obtain ⟨k2, hk2⟩ : ∃ k2 : Nat, (2001 : Int) - (x.length : Int) = (k2 : Int) := ⟨2001 - x.length, by omega⟩
        have q1 : k1 ≤ n := by omega
        have q2 : k2 ≤ n := by omega
        have f1 := part_fill q1
        have f2 := part_fill q2
        have y1 : (bs (List.replicate k1 32)).size = k1 := by rw [bs_size, List.length_replicate]
        have y2 : (bs (List.replicate k2 32)).size = k2 := by rw [bs_size, List.length_replicate]
        have g1 : bs x ++ bs (List.replicate k1 32) = bs (x ++ List.replicate k1 32) := bs_append _ _
        have g2 : bs x ++ bs (List.replicate k2 32) = bs (x ++ List.replicate k2 32) := bs_append _ _
        have l1 : (x ++ List.replicate k1 32).length = 2000 := by rw [List.length_append, List.length_replicate]; omega
        have l2 : (x ++ List.replicate k2 32).length = 2001 := by rw [List.length_append, List.length_replicate]; omega
        have P1 := lex_pad (s := x) (k := k1) (by omega)
        rw [HL.out] at P1
        have P1 := lexRes_ok (by omega) P1
        have P2 := lexRes_big (s := x ++ List.replicate k2 32) (by omega)
        generalize x ++ List.replicate k1 32 = X1 at *
        generalize x ++ List.replicate k2 32 = X2 at *
        have P2 := Lib.hid P2
        have L1 := Lib.hid l1
        have L2 := Lib.hid l2
        have H := Lib.hid (A.lex_ok P1 HE.out (by omega))
        clear P1 l1 l2
        go_wp2_with (go_at_call 11; refine (H.out).mono ?_; rintro e w4 ⟨a4, c4, rfl, h4, b1⟩; refine Hid.out ?_)
        refine Lib.hid ?_
        clear h4
        have HE := Lib.hid (A.keep HE.out b1)
        have B := Lib.hid (B.out.trans (b1.mono B.out.size))
        have H := Lib.hid (A.lex_err P2.out HE.out (by have := L2.out; omega))
        clear b1
        go_wp2_with (go_at_call 11; refine (H.out).mono ?_; rintro e w5 ⟨a5, c5, rfl, b1⟩; refine Hid.out ?_)
        refine Lib.hid ?_
        have HE := Lib.hid (A.keep HE.out b1)
        have B := Lib.hid (B.out.trans (b1.mono B.out.size))
        clear b1
        go_wp2
        go_ret
        exact ⟨rfl, B.out⟩
  · have HR := Lib.hid hr2
    have HL := Lib.hid hr
    obtain ⟨m, h1, h2, ⟨ts, h3⟩, h4, h5⟩ := lex_error hr
    rw [Int.zero_add] at h1
    subst h1
    have H3 := Lib.hid (lexRes_ok (by rw [List.length_take]; omega) h3)
    have H4 := Lib.hid (lexRes_err (by rw [List.length_drop]; omega) (h4 0))
    have h2' : (m : Int) < (x.length : Int) := by omega
    clear hr hr2 h3 h4
    rcases h5 with rfl | rfl | rfl
    · skip
      go_enter Tryd.func7, Tryd.ntmps7
      go_wp2_with (go_at_call 9; refine (small_any A HE.out).mono ?_; rintro e w1 ⟨rfl, b1⟩; refine Hid.out ?_)
      refine Lib.hid ?_
      have HE := Lib.hid (A.keep HE.out b1)
      have B := Lib.hid b1
      clear b1
      go_wp2_with (go_at_call 10; refine (HC.out _).mono ?_; rintro e w2 ⟨rfl, rfl⟩; refine Hid.out ?_)
      refine Lib.hid ?_
      have H := Lib.hid (A.lex_err HR.out HE.out (by omega))
      go_wp2_with (go_at_call 11; refine (H.out).mono ?_; rintro e w3 ⟨a3, c3, rfl, b1⟩; refine Hid.out ?_)
      refine Lib.hid ?_
      have HE := Lib.hid (A.keep HE.out b1)
      have B := Lib.hid (B.out.trans (b1.mono B.out.size))
      clear b1
      go_wp2
      go_loopw [8] (fun f wr => ∃ n : Nat, f = .string (bs (List.replicate n 32)) ∧ Hid (fills n) ∧ w3 = wr) (fun f _ => fillOf f)
      case atStart => exact ⟨10, rfl, Lib.hid (by unfold fills; omega), rfl⟩
      case round =>
        obtain ⟨n, rfl, HF, rfl⟩ := hrel
        have hn1 : n ≤ 2560 := by have := HF.out; unfold fills at this; omega
        have zn : (bs (List.replicate n 32)).size = n := by rw [bs_size, List.length_replicate]
        by_cases hlt : n < 2000
        · have hlt' : (n : Int) < 2000 := by omega
          have h2 := two_fill n
          have HF2 := Lib.hid (show fills (2 * n) by have := HF.out; unfold fills at this ⊢; omega)
          go_wp2
          go_roundw
          case rel => exact ⟨2 * n, rfl, HF2, by trivial⟩
          case measure => (have := HF.out; unfold fills at this; simp [fillOf, bs_size]; omega)
        · have hlt' : ¬ (n : Int) < 2000 := by omega
          have hn3 : 2001 ≤ n := by have := HF.out; unfold fills at this; omega
          obtain ⟨k1, hk1⟩ : ∃ k1 : Nat, (2000 : Int) - (x.length : Int) = (k1 : Int) := ⟨2000 - x.length, by omega⟩
          obtain ⟨k2, hk2⟩ : ∃ k2 : Nat, (2001 : Int) - (x.length : Int) = (k2 : Int) := ⟨2001 - x.length, by omega⟩
          have q1 : k1 ≤ n := by omega
          have q2 : k2 ≤ n := by omega
          have f1 := part_fill q1
          have f2 := part_fill q2
          have y1 : (bs (List.replicate k1 32)).size = k1 := by rw [bs_size, List.length_replicate]
          have y2 : (bs (List.replicate k2 32)).size = k2 := by rw [bs_size, List.length_replicate]
          have g1 : bs x ++ bs (List.replicate k1 32) = bs (x ++ List.replicate k1 32) := bs_append _ _
          have g2 : bs x ++ bs (List.replicate k2 32) = bs (x ++ List.replicate k2 32) := bs_append _ _
          have l1 : (x ++ List.replicate k1 32).length = 2000 := by rw [List.length_append, List.length_replicate]; omega
          have l2 : (x ++ List.replicate k2 32).length = 2001 := by rw [List.length_append, List.length_replicate]; omega
          have P1 := lex_pad (s := x) (k := k1) (by omega)
          rw [HL.out] at P1
          have P1 := lexRes_err (by omega) P1
          have P2 := lexRes_big (s := x ++ List.replicate k2 32) (by omega)
          generalize x ++ List.replicate k1 32 = X1 at *
          generalize x ++ List.replicate k2 32 = X2 at *
          have P2 := Lib.hid P2
          have L1 := Lib.hid l1
          have L2 := Lib.hid l2
          have H := Lib.hid (A.lex_err P1 HE.out (by omega))
          clear P1 l1 l2
          go_wp2_with (go_at_call 11; refine (H.out).mono ?_; rintro e w4 ⟨a4, c4, rfl, b1⟩; refine Hid.out ?_)
          refine Lib.hid ?_
          have HE := Lib.hid (A.keep HE.out b1)
          have B := Lib.hid (B.out.trans (b1.mono B.out.size))
          have H := Lib.hid (A.lex_err P2.out HE.out (by have := L2.out; omega))
          clear b1
          go_wp2_with (go_at_call 11; refine (H.out).mono ?_; rintro e w5 ⟨a5, c5, rfl, b1⟩; refine Hid.out ?_)
          refine Lib.hid ?_
          have HE := Lib.hid (A.keep HE.out b1)
          have B := Lib.hid (B.out.trans (b1.mono B.out.size))
          clear b1
          have H := Lib.hid (A.lex_ok H3.out HE.out (by rw [List.length_take]; omega))
          have e1 : (bs x).extract 0 m = bs (x.take m) := by rw [bs_extract, List.drop_zero, Nat.sub_zero]
          have e2 : (bs x).extract m x.length = bs (x.drop m) := by rw [bs_extract, List.take_of_length_le (by rw [List.length_drop]; omega)]
          go_wp2_with (go_at_call 11; refine (H.out).mono ?_; rintro e w6 ⟨a6, c6, rfl, h6, b1⟩; refine Hid.out ?_)
          refine Lib.hid ?_
          have HE := Lib.hid (A.keep HE.out b1)
          have B := Lib.hid (B.out.trans (b1.mono B.out.size))
          have H := Lib.hid (A.lex_err H4.out HE.out (by rw [List.length_drop]; omega))
          clear b1 h6
          go_wp2_with (go_at_call 11; refine (H.out).mono ?_; rintro e w7 ⟨a7, c7, rfl, b1⟩; refine Hid.out ?_)
          refine Lib.hid ?_
          have HE := Lib.hid (A.keep HE.out b1)
          have B := Lib.hid (B.out.trans (b1.mono B.out.size))
          clear b1
          go_wp2
          go_ret
          exact ⟨rfl, B.out⟩
    · skip
      go_enter Tryd.func7, Tryd.ntmps7
      go_wp2_with (go_at_call 9; refine (small_any A HE.out).mono ?_; rintro e w1 ⟨rfl, b1⟩; refine Hid.out ?_)
      refine Lib.hid ?_
      have HE := Lib.hid (A.keep HE.out b1)
      have B := Lib.hid b1
      clear b1
      go_wp2_with (go_at_call 10; refine (HC.out _).mono ?_; rintro e w2 ⟨rfl, rfl⟩; refine Hid.out ?_)
      refine Lib.hid ?_
      have H := Lib.hid (A.lex_err HR.out HE.out (by omega))
      go_wp2_with (go_at_call 11; refine (H.out).mono ?_; rintro e w3 ⟨a3, c3, rfl, b1⟩; refine Hid.out ?_)
      refine Lib.hid ?_
      have HE := Lib.hid (A.keep HE.out b1)
      have B := Lib.hid (B.out.trans (b1.mono B.out.size))
      clear b1
      go_wp2
      go_loopw [8] (fun f wr => ∃ n : Nat, f = .string (bs (List.replicate n 32)) ∧ Hid (fills n) ∧ w3 = wr) (fun f _ => fillOf f)
      case atStart => exact ⟨10, rfl, Lib.hid (by unfold fills; omega), rfl⟩
      case round =>
        obtain ⟨n, rfl, HF, rfl⟩ := hrel
        have hn1 : n ≤ 2560 := by have := HF.out; unfold fills at this; omega
        have zn : (bs (List.replicate n 32)).size = n := by rw [bs_size, List.length_replicate]
        by_cases hlt : n < 2000
        · have hlt' : (n : Int) < 2000 := by omega
          have h2 := two_fill n
          have HF2 := Lib.hid (show fills (2 * n) by have := HF.out; unfold fills at this ⊢; omega)
          go_wp2
          go_roundw
          case rel => exact ⟨2 * n, rfl, HF2, by trivial⟩
          case measure => (have := HF.out; unfold fills at this; simp [fillOf, bs_size]; omega)
        · have hlt' : ¬ (n : Int) < 2000 := by omega
          have hn3 : 2001 ≤ n := by have := HF.out; unfold fills at this; omega
          obtain ⟨k1, hk1⟩ : ∃ k1 : Nat, (2000 : Int) - (x.length : Int) = (k1 : Int) := ⟨2000 - x.length, by omega⟩
          obtain ⟨k2, hk2⟩ : ∃ k2 : Nat, (2001 : Int) - (x.length : Int) = (k2 : Int) := ⟨2001 - x.length, by omega⟩
          have q1 : k1 ≤ n := by omega
          have q2 : k2 ≤ n := by omega
          have f1 := part_fill q1
          have f2 := part_fill q2
          have y1 : (bs (List.replicate k1 32)).size = k1 := by rw [bs_size, List.length_replicate]
          have y2 : (bs (List.replicate k2 32)).size = k2 := by rw [bs_size, List.length_replicate]
          have g1 : bs x ++ bs (List.replicate k1 32) = bs (x ++ List.replicate k1 32) := bs_append _ _
          have g2 : bs x ++ bs (List.replicate k2 32) = bs (x ++ List.replicate k2 32) := bs_append _ _
          have l1 : (x ++ List.replicate k1 32).length = 2000 := by rw [List.length_append, List.length_replicate]; omega
          have l2 : (x ++ List.replicate k2 32).length = 2001 := by rw [List.length_append, List.length_replicate]; omega
          have P1 := lex_pad (s := x) (k := k1) (by omega)
          rw [HL.out] at P1
          have P1 := lexRes_err (by omega) P1
          have P2 := lexRes_big (s := x ++ List.replicate k2 32) (by omega)
          generalize x ++ List.replicate k1 32 = X1 at *
          generalize x ++ List.replicate k2 32 = X2 at *
          have P2 := Lib.hid P2
          have L1 := Lib.hid l1
          have L2 := Lib.hid l2
          have H := Lib.hid (A.lex_err P1 HE.out (by omega))
          clear P1 l1 l2
          go_wp2_with (go_at_call 11; refine (H.out).mono ?_; rintro e w4 ⟨a4, c4, rfl, b1⟩; refine Hid.out ?_)
          refine Lib.hid ?_
          have HE := Lib.hid (A.keep HE.out b1)
          have B := Lib.hid (B.out.trans (b1.mono B.out.size))
          have H := Lib.hid (A.lex_err P2.out HE.out (by have := L2.out; omega))
          clear b1
          go_wp2_with (go_at_call 11; refine (H.out).mono ?_; rintro e w5 ⟨a5, c5, rfl, b1⟩; refine Hid.out ?_)
          refine Lib.hid ?_
          have HE := Lib.hid (A.keep HE.out b1)
          have B := Lib.hid (B.out.trans (b1.mono B.out.size))
          clear b1
          have H := Lib.hid (A.lex_ok H3.out HE.out (by rw [List.length_take]; omega))
          have e1 : (bs x).extract 0 m = bs (x.take m) := by rw [bs_extract, List.drop_zero, Nat.sub_zero]
          have e2 : (bs x).extract m x.length = bs (x.drop m) := by rw [bs_extract, List.take_of_length_le (by rw [List.length_drop]; omega)]
          go_wp2_with (go_at_call 11; refine (H.out).mono ?_; rintro e w6 ⟨a6, c6, rfl, h6, b1⟩; refine Hid.out ?_)
          refine Lib.hid ?_
          have HE := Lib.hid (A.keep HE.out b1)
          have B := Lib.hid (B.out.trans (b1.mono B.out.size))
          have H := Lib.hid (A.lex_err H4.out HE.out (by rw [List.length_drop]; omega))
          clear b1 h6
          go_wp2_with (go_at_call 11; refine (H.out).mono ?_; rintro e w7 ⟨a7, c7, rfl, b1⟩; refine Hid.out ?_)
          refine Lib.hid ?_
          have HE := Lib.hid (A.keep HE.out b1)
          have B := Lib.hid (B.out.trans (b1.mono B.out.size))
          clear b1
          go_wp2
          go_ret
          exact ⟨rfl, B.out⟩
    · skip
      go_enter Tryd.func7, Tryd.ntmps7
      go_wp2_with (go_at_call 9; refine (small_any A HE.out).mono ?_; rintro e w1 ⟨rfl, b1⟩; refine Hid.out ?_)
      refine Lib.hid ?_
      have HE := Lib.hid (A.keep HE.out b1)
      have B := Lib.hid b1
      clear b1
      go_wp2_with (go_at_call 10; refine (HC.out _).mono ?_; rintro e w2 ⟨rfl, rfl⟩; refine Hid.out ?_)
      refine Lib.hid ?_
      have H := Lib.hid (A.lex_err HR.out HE.out (by omega))
      go_wp2_with (go_at_call 11; refine (H.out).mono ?_; rintro e w3 ⟨a3, c3, rfl, b1⟩; refine Hid.out ?_)
      refine Lib.hid ?_
      have HE := Lib.hid (A.keep HE.out b1)
      have B := Lib.hid (B.out.trans (b1.mono B.out.size))
      clear b1
      go_wp2
      go_loopw [8] (fun f wr => ∃ n : Nat, f = .string (bs (List.replicate n 32)) ∧ Hid (fills n) ∧ w3 = wr) (fun f _ => fillOf f)
      case atStart => exact ⟨10, rfl, Lib.hid (by unfold fills; omega), rfl⟩
      case round =>
        obtain ⟨n, rfl, HF, rfl⟩ := hrel
        have hn1 : n ≤ 2560 := by have := HF.out; unfold fills at this; omega
        have zn : (bs (List.replicate n 32)).size = n := by rw [bs_size, List.length_replicate]
        by_cases hlt : n < 2000
        · have hlt' : (n : Int) < 2000 := by omega
          have h2 := two_fill n
          have HF2 := Lib.hid (show fills (2 * n) by have := HF.out; unfold fills at this ⊢; omega)
          go_wp2
          go_roundw
          case rel => exact ⟨2 * n, rfl, HF2, by trivial⟩
          case measure => (have := HF.out; unfold fills at this; simp [fillOf, bs_size]; omega)
        · have hlt' : ¬ (n : Int) < 2000 := by omega
          have hn3 : 2001 ≤ n := by have := HF.out; unfold fills at this; omega
          obtain ⟨k1, hk1⟩ : ∃ k1 : Nat, (2000 : Int) - (x.length : Int) = (k1 : Int) := ⟨2000 - x.length, by omega⟩
          obtain ⟨k2, hk2⟩ : ∃ k2 : Nat, (2001 : Int) - (x.length : Int) = (k2 : Int) := ⟨2001 - x.length, by omega⟩
          have q1 : k1 ≤ n := by omega
          have q2 : k2 ≤ n := by omega
          have f1 := part_fill q1
          have f2 := part_fill q2
          have y1 : (bs (List.replicate k1 32)).size = k1 := by rw [bs_size, List.length_replicate]
          have y2 : (bs (List.replicate k2 32)).size = k2 := by rw [bs_size, List.length_replicate]
          have g1 : bs x ++ bs (List.replicate k1 32) = bs (x ++ List.replicate k1 32) := bs_append _ _
          have g2 : bs x ++ bs (List.replicate k2 32) = bs (x ++ List.replicate k2 32) := bs_append _ _
          have l1 : (x ++ List.replicate k1 32).length = 2000 := by rw [List.length_append, List.length_replicate]; omega
          have l2 : (x ++ List.replicate k2 32).length = 2001 := by rw [List.length_append, List.length_replicate]; omega
          have P1 := lex_pad (s := x) (k := k1) (by omega)
          rw [HL.out] at P1
          have P1 := lexRes_err (by omega) P1
          have P2 := lexRes_big (s := x ++ List.replicate k2 32) (by omega)
          generalize x ++ List.replicate k1 32 = X1 at *
          generalize x ++ List.replicate k2 32 = X2 at *
          have P2 := Lib.hid P2
          have L1 := Lib.hid l1
          have L2 := Lib.hid l2
          have H := Lib.hid (A.lex_err P1 HE.out (by omega))
          clear P1 l1 l2
          go_wp2_with (go_at_call 11; refine (H.out).mono ?_; rintro e w4 ⟨a4, c4, rfl, b1⟩; refine Hid.out ?_)
          refine Lib.hid ?_
          have HE := Lib.hid (A.keep HE.out b1)
          have B := Lib.hid (B.out.trans (b1.mono B.out.size))
          have H := Lib.hid (A.lex_err P2.out HE.out (by have := L2.out; omega))
          clear b1
          go_wp2_with (go_at_call 11; refine (H.out).mono ?_; rintro e w5 ⟨a5, c5, rfl, b1⟩; refine Hid.out ?_)
          refine Lib.hid ?_
          have HE := Lib.hid (A.keep HE.out b1)
          have B := Lib.hid (B.out.trans (b1.mono B.out.size))
          clear b1
          have H := Lib.hid (A.lex_ok H3.out HE.out (by rw [List.length_take]; omega))
          have e1 : (bs x).extract 0 m = bs (x.take m) := by rw [bs_extract, List.drop_zero, Nat.sub_zero]
          have e2 : (bs x).extract m x.length = bs (x.drop m) := by rw [bs_extract, List.take_of_length_le (by rw [List.length_drop]; omega)]
          go_wp2_with (go_at_call 11; refine (H.out).mono ?_; rintro e w6 ⟨a6, c6, rfl, h6, b1⟩; refine Hid.out ?_)
          refine Lib.hid ?_
          have HE := Lib.hid (A.keep HE.out b1)
          have B := Lib.hid (B.out.trans (b1.mono B.out.size))
          have H := Lib.hid (A.lex_err H4.out HE.out (by rw [List.length_drop]; omega))
          clear b1 h6
          go_wp2_with (go_at_call 11; refine (H.out).mono ?_; rintro e w7 ⟨a7, c7, rfl, b1⟩; refine Hid.out ?_)
          refine Lib.hid ?_
          have HE := Lib.hid (A.keep HE.out b1)
          have B := Lib.hid (B.out.trans (b1.mono B.out.size))
          clear b1
          go_wp2
          go_ret
          exact ⟨rfl, B.out⟩
end Go.Proofs.YtenbdnkipkfpkaaDoor
