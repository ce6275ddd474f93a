/- The reference of layer 11: token. -/
import Derived.Test.YtenbdnkipkfpkaaDoorLq6
import Derived.Test.YtenbdnkipkfpkaaDoorObj7
namespace Go.Proofs.YtenbdnkipkfpkaaDoor
open Go.RowKit Go.Maps Go.ChangeMaps Go.MapKept
open Lx
attribute [local go_sem ↓] Go.wp_at_zero Go.wp_at_succ
theorem tok_word {c : UInt8} {r : S} {at_ : Int} (h : letter c = true) (h2 : (r.takeWhile alnum).length + 1 ≤ 20) : tokRes (c :: r) at_ = (⟨0, c :: r.takeWhile alnum, 0, at_⟩, 0) := by
  refine tokRes_ok ?_
  rw [tok_cons, if_pos h, if_pos (by simpa using h2)]
theorem tok_long {c : UInt8} {r : S} {at_ : Int} (h : letter c = true) (h2 : ¬ (r.takeWhile alnum).length + 1 ≤ 20) : tokRes (c :: r) at_ = (⟨0, [], 0, 0⟩, 11) := by
  refine tokRes_err ?_
  rw [tok_cons, if_pos h, if_neg (by simpa using h2)]
theorem tok_num {c : UInt8} {r : S} {at_ : Int} (h0 : letter c = false) (h : digit c = true) (h2 : numOk (c :: r.takeWhile digit) = true) : tokRes (c :: r) at_ = (⟨1, c :: r.takeWhile digit, (val (c :: r.takeWhile digit) : Int), at_⟩, 0) := by
  refine tokRes_ok ?_
  rw [tok_cons, if_neg (by simp [h0]), if_pos h, if_pos h2]
theorem tok_bad {c : UInt8} {r : S} {at_ : Int} (h0 : letter c = false) (h : digit c = true) (h2 : numOk (c :: r.takeWhile digit) = false) : tokRes (c :: r) at_ = (⟨0, [], 0, 0⟩, 3) := by
  refine tokRes_err ?_
  rw [tok_cons, if_neg (by simp [h0]), if_pos h, if_neg (by simp [h2])]
theorem tok_sign {r : S} {at_ : Int} : tokRes (59 :: r) at_ = (⟨2, [59], 0, at_⟩, 0) := by
  refine tokRes_ok ?_
  rw [tok_cons, if_neg (by decide), if_neg (by decide), if_pos rfl]
theorem tok_none {c : UInt8} {r : S} {at_ : Int} (h0 : letter c = false) (h : digit c = false) (h2 : c ≠ 59) : tokRes (c :: r) at_ = (⟨0, [], 0, 0⟩, 10) := by
  refine tokRes_err ?_
  rw [tok_cons, if_neg (by simp [h0]), if_neg (by simp [h]), if_neg h2]
theorem ext_tok {s r : S} {c : UInt8} {a n : Nat} {q : UInt8 → Bool} (h : s.drop a = c :: r) (hn : n = (r.takeWhile q).length) : (bs s).extract a (a + 1 + n) = bs (c :: r.takeWhile q) := by
  rw [bs_extract, h, show a + 1 + n - a = n + 1 by omega, List.take_succ_cons, hn, take_tw]
theorem drop_get {s r : S} {c d : UInt8} {a i : Nat} (h : s.drop a = c :: r) (hd : r[i]? = some d) : s[a + 1 + i]? = some d := by
  have : (s.drop a)[i + 1]? = some d := by rw [h]; exact hd
  rw [List.getElem?_drop] at this
  rwa [show a + 1 + i = a + (i + 1) by omega]
theorem get_drop {s r : S} {c : UInt8} {a i : Nat} (h : s.drop a = c :: r) : s[a + 1 + i]? = r[i]? := by
  have : (s.drop a)[i + 1]? = r[i]? := by rw [h]; rfl
  rw [List.getElem?_drop] at this
  rwa [show a + 1 + i = a + (i + 1) by omega]
theorem tok_ret {s : S} {p e : Int} {t : Tk} {v : Value} (h : tokRes s p = (t, e)) (hv : v = tkV t) : Ending.returned (.tuple #[v, .int .i64 e]) = .returned (.tuple #[tkV (tokRes s p).1, .int .i64 (tokRes s p).2]) := by rw [h, hv]
theorem q_letter_of {c : UInt8} {b : Bool} (h : letter c = b) (w : World) : Calls Tryd.prog 31 #[.int .u8 (c.toNat : Int)] w fun e w' => e = .returned (.bool b) ∧ w = w' := by have := q_letter (w := w) (c := c); rwa [h] at this
theorem q_digit_of {c : UInt8} {b : Bool} (h : digit c = b) (w : World) : Calls Tryd.prog 27 #[.int .u8 (c.toNat : Int)] w fun e w' => e = .returned (.bool b) ∧ w = w' := by have := q_digit (w := w) (c := c); rwa [h] at this
section
variable {w : World}
set_option maxHeartbeats 4000000 in
set_option maxRecDepth 100000 in
theorem q_token {s : S} {a : Nat} {c : UInt8} {r : S} (hs : s.length ≤ 100000) (hd : s.drop a = c :: r) :
    Calls Tryd.prog 24 #[.string (bs s), .int .i64 a] w fun e w' => e = .returned (.tuple #[tkV (tokRes (c :: r) a).1, .int .i64 (tokRes (c :: r) a).2]) ∧ Below w.heap.size w w' := by
  have hz := bs_size s
  have M0 := Lib.hid ((OMem.start w).raw (.cells #[.int .i64 0, .string ⟨#[]⟩, .int .i64 0, .int .i64 0] 25 (0, 0)))
  have ha : a < s.length := by
    have := congrArg List.length hd
    simp at this; omega
  have hsl : s.length = a + 1 + r.length := by
    have := congrArg List.length hd
    simp at this; omega
  have hc : s[a]? = some c := by
    have : (s.drop a)[0]? = some c := by rw [hd]; rfl
    rwa [List.getElem?_drop] at this
  obtain ⟨i0, gc⟩ := bs_get hc
  have HD := Lib.hid hd
  clear hd hc
  go_enter Tryd.func24, Tryd.ntmps24
  cases hl : letter c with
  | true =>
    have HL := Lib.hid hl
    have HQ := Lib.hid (q_letter_of hl)
    clear hl
    go_wp2_with (go_at_call 31; refine (HQ.out _).mono ?_; rintro e w2 ⟨rfl, hw⟩; refine Hid.out ?_)
    refine Lib.hid ?_
    have m1 := M0.out
    rw [hw] at m1
    have M1 := Lib.hid (show OMem w w2 [.raw w.heap.size (.cells #[.int .i64 0, .string ⟨#[]⟩, .int .i64 0, .int .i64 0] 25 (0, 0))] from m1)
    clear m1 M0 hw gc HQ
    obtain ⟨t, ht⟩ : ∃ t, r.takeWhile alnum = t := ⟨_, rfl⟩
    have htl : t.length ≤ r.length := by rw [← ht]; exact tw_len r
    have HT := Lib.hid ht
    clear ht
    go_wp2
    go_loopw [6] (fun i wr => ∃ k : Nat, k ≤ t.length ∧ i = .int .i64 (a + 1 + k : Nat) ∧ w2 = wr) (fun i _ => s.length - (intOf i).toNat)
    case atStart => exact ⟨0, Nat.zero_le _, by go_num, rfl⟩
    case round =>
      obtain ⟨k, hk, rfl, rfl⟩ := hrel
      by_cases hlt : k < t.length
      · obtain ⟨d, hd, hq⟩ : ∃ d, r[k]? = some d ∧ alnum d = true := tw_get (by rw [HT.out]; exact hlt)
        obtain ⟨i1, g1⟩ := bs_get (drop_get HD.out hd)
        clear hd
        have hks : a + 1 + k < s.length := by omega
        cases hl : letter d with
        | true =>
          have HQ := Lib.hid (q_letter_of hl)
          clear hl hq
          go_wp2_with (go_at_call 31; refine (HQ.out _).mono ?_; rintro e w3 ⟨rfl, rfl⟩; refine Hid.out ?_)
          refine Lib.hid ?_
          go_wp2
          go_roundw
          case rel => exact ⟨k + 1, by omega, by go_num, by trivial⟩
          case measure => simp [intOf]; omega
        | false =>
          have HG := Lib.hid (q_digit_of (show digit d = true by rw [alnum, hl] at hq; simpa using hq))
          have HQ := Lib.hid (q_letter_of hl)
          clear hl hq
          go_wp2_with (go_at_call 31; refine (HQ.out _).mono ?_; rintro e w3 ⟨rfl, rfl⟩; refine Hid.out ?_)
          refine Lib.hid ?_
          go_wp2_with (go_at_call 27; refine (HG.out _).mono ?_; rintro e w3 ⟨rfl, rfl⟩; refine Hid.out ?_)
          refine Lib.hid ?_
          go_wp2
          go_roundw
          case rel => exact ⟨k + 1, by omega, by go_num, by trivial⟩
          case measure => simp [intOf]; omega
      · obtain rfl : k = t.length := by omega
        clear hk hlt
        as_aux_lemma =>
        by_cases hks : a + 1 + t.length < s.length
        · obtain ⟨d, hd⟩ : ∃ d, r[t.length]? = some d := ⟨_, List.getElem?_eq_getElem (by omega)⟩
          have hq : alnum d = false := tw_end (q := alnum) (r := r) (by rw [HT.out]; exact hd)
          obtain ⟨i1, g1⟩ := bs_get (drop_get HD.out hd)
          have HQ := Lib.hid (q_letter_of (show letter d = false by rw [alnum, Bool.or_eq_false_iff] at hq; exact hq.1))
          have HG := Lib.hid (q_digit_of (show digit d = false by rw [alnum, Bool.or_eq_false_iff] at hq; exact hq.2))
          clear hd hq
          go_wp2_with (go_at_call 31; refine (HQ.out _).mono ?_; rintro e w3 ⟨rfl, rfl⟩; refine Hid.out ?_)
          refine Lib.hid ?_
          go_wp2_with (go_at_call 27; refine (HG.out _).mono ?_; rintro e w3 ⟨rfl, rfl⟩; refine Hid.out ?_)
          refine Lib.hid ?_
          clear HQ HG g1
          by_cases h20 : t.length + 1 ≤ 20
          · have HR := Lib.hid (tok_word (at_ := (a : Int)) HL.out (by rw [HT.out]; exact h20))
            rw [HT.out] at HR
            have hE := ext_tok (q := alnum) HD.out (by rw [HT.out])
            rw [HT.out] at hE
            have h20' : ¬ (20 : Int) < ((a + 1 + t.length : Nat) : Int) - (a : Int) := by omega
            have r2 := M1.out.raw_at (i := 0) rfl
            have g0 : (w2).cell? ⟨w.heap.size, 0, none⟩ = some (.int .i64 0) := by rw [Lib.cell_of_heap r2]; rfl
            have g1 : (w2).cell? ⟨w.heap.size, 1, none⟩ = some (.string ⟨#[]⟩) := by rw [Lib.cell_of_heap r2]; rfl
            have g2 : (w2).cell? ⟨w.heap.size, 2, none⟩ = some (.int .i64 0) := by rw [Lib.cell_of_heap r2]; rfl
            have g3 : (w2).cell? ⟨w.heap.size, 3, none⟩ = some (.int .i64 0) := by rw [Lib.cell_of_heap r2]; rfl
            have z0 : (w2).frozen? ⟨w.heap.size, 0, none⟩ = false := Lib.frozen_of_heap r2 0
            have z1 : (w2).frozen? ⟨w.heap.size, 1, none⟩ = false := Lib.frozen_of_heap r2 1
            have z2 : (w2).frozen? ⟨w.heap.size, 2, none⟩ = false := Lib.frozen_of_heap r2 2
            have z3 : (w2).frozen? ⟨w.heap.size, 3, none⟩ = false := Lib.frozen_of_heap r2 3
            clear r2
            go_wp2
            have m3 := put4 (z := #[.int .i64 0, .string ⟨#[]⟩, .int .i64 0, .int .i64 0]) (a0 := .int .i64 0) (a1 := .string (bs (List.cons c t))) (a2 := .int .i64 0) (a3 := .int .i64 a) M1.out
            have r3 := m3.raw_at (i := 0) rfl
            refine bodyPost_ret (results_cell_tmp (p := 4) (u := 5) rfl _ _ w.heap.size 25 #[.int .i64 0, .string (bs (List.cons c t)), .int .i64 0, .int .i64 a] (0, 0) _ rfl r3 Tryd.underlying25 rfl (by kernel_rfl)) rfl ?_
            exact ⟨tok_ret HR.out rfl, m3.below⟩
          · have HR := Lib.hid (tok_long (at_ := (a : Int)) HL.out (by rw [HT.out]; exact h20))
            have h20' : (20 : Int) < ((a + 1 + t.length : Nat) : Int) - (a : Int) := by omega
            have r2 := M1.out.raw_at (i := 0) rfl
            have g0 : (w2).cell? ⟨w.heap.size, 0, none⟩ = some (.int .i64 0) := by rw [Lib.cell_of_heap r2]; rfl
            have g1 : (w2).cell? ⟨w.heap.size, 1, none⟩ = some (.string ⟨#[]⟩) := by rw [Lib.cell_of_heap r2]; rfl
            have g2 : (w2).cell? ⟨w.heap.size, 2, none⟩ = some (.int .i64 0) := by rw [Lib.cell_of_heap r2]; rfl
            have g3 : (w2).cell? ⟨w.heap.size, 3, none⟩ = some (.int .i64 0) := by rw [Lib.cell_of_heap r2]; rfl
            have z0 : (w2).frozen? ⟨w.heap.size, 0, none⟩ = false := Lib.frozen_of_heap r2 0
            have z1 : (w2).frozen? ⟨w.heap.size, 1, none⟩ = false := Lib.frozen_of_heap r2 1
            have z2 : (w2).frozen? ⟨w.heap.size, 2, none⟩ = false := Lib.frozen_of_heap r2 2
            have z3 : (w2).frozen? ⟨w.heap.size, 3, none⟩ = false := Lib.frozen_of_heap r2 3
            clear r2
            go_wp2
            have m3 := put4 (z := #[.int .i64 0, .string ⟨#[]⟩, .int .i64 0, .int .i64 0]) (a0 := .int .i64 0) (a1 := .string (bs [])) (a2 := .int .i64 0) (a3 := .int .i64 0) M1.out
            have r3 := m3.raw_at (i := 0) rfl
            refine bodyPost_ret (results_cell_tmp (p := 4) (u := 5) rfl _ _ w.heap.size 25 #[.int .i64 0, .string (bs []), .int .i64 0, .int .i64 0] (0, 0) _ rfl r3 Tryd.underlying25 rfl (by kernel_rfl)) rfl ?_
            exact ⟨tok_ret HR.out rfl, m3.below⟩
        · by_cases h20 : t.length + 1 ≤ 20
          · have HR := Lib.hid (tok_word (at_ := (a : Int)) HL.out (by rw [HT.out]; exact h20))
            rw [HT.out] at HR
            have hE := ext_tok (q := alnum) HD.out (by rw [HT.out])
            rw [HT.out] at hE
            have h20' : ¬ (20 : Int) < ((a + 1 + t.length : Nat) : Int) - (a : Int) := by omega
            have r2 := M1.out.raw_at (i := 0) rfl
            have g0 : (w2).cell? ⟨w.heap.size, 0, none⟩ = some (.int .i64 0) := by rw [Lib.cell_of_heap r2]; rfl
            have g1 : (w2).cell? ⟨w.heap.size, 1, none⟩ = some (.string ⟨#[]⟩) := by rw [Lib.cell_of_heap r2]; rfl
            have g2 : (w2).cell? ⟨w.heap.size, 2, none⟩ = some (.int .i64 0) := by rw [Lib.cell_of_heap r2]; rfl
            have g3 : (w2).cell? ⟨w.heap.size, 3, none⟩ = some (.int .i64 0) := by rw [Lib.cell_of_heap r2]; rfl
            have z0 : (w2).frozen? ⟨w.heap.size, 0, none⟩ = false := Lib.frozen_of_heap r2 0
            have z1 : (w2).frozen? ⟨w.heap.size, 1, none⟩ = false := Lib.frozen_of_heap r2 1
            have z2 : (w2).frozen? ⟨w.heap.size, 2, none⟩ = false := Lib.frozen_of_heap r2 2
            have z3 : (w2).frozen? ⟨w.heap.size, 3, none⟩ = false := Lib.frozen_of_heap r2 3
            clear r2
            go_wp2
            have m3 := put4 (z := #[.int .i64 0, .string ⟨#[]⟩, .int .i64 0, .int .i64 0]) (a0 := .int .i64 0) (a1 := .string (bs (List.cons c t))) (a2 := .int .i64 0) (a3 := .int .i64 a) M1.out
            have r3 := m3.raw_at (i := 0) rfl
            refine bodyPost_ret (results_cell_tmp (p := 4) (u := 5) rfl _ _ w.heap.size 25 #[.int .i64 0, .string (bs (List.cons c t)), .int .i64 0, .int .i64 a] (0, 0) _ rfl r3 Tryd.underlying25 rfl (by kernel_rfl)) rfl ?_
            exact ⟨tok_ret HR.out rfl, m3.below⟩
          · have HR := Lib.hid (tok_long (at_ := (a : Int)) HL.out (by rw [HT.out]; exact h20))
            have h20' : (20 : Int) < ((a + 1 + t.length : Nat) : Int) - (a : Int) := by omega
            have r2 := M1.out.raw_at (i := 0) rfl
            have g0 : (w2).cell? ⟨w.heap.size, 0, none⟩ = some (.int .i64 0) := by rw [Lib.cell_of_heap r2]; rfl
            have g1 : (w2).cell? ⟨w.heap.size, 1, none⟩ = some (.string ⟨#[]⟩) := by rw [Lib.cell_of_heap r2]; rfl
            have g2 : (w2).cell? ⟨w.heap.size, 2, none⟩ = some (.int .i64 0) := by rw [Lib.cell_of_heap r2]; rfl
            have g3 : (w2).cell? ⟨w.heap.size, 3, none⟩ = some (.int .i64 0) := by rw [Lib.cell_of_heap r2]; rfl
            have z0 : (w2).frozen? ⟨w.heap.size, 0, none⟩ = false := Lib.frozen_of_heap r2 0
            have z1 : (w2).frozen? ⟨w.heap.size, 1, none⟩ = false := Lib.frozen_of_heap r2 1
            have z2 : (w2).frozen? ⟨w.heap.size, 2, none⟩ = false := Lib.frozen_of_heap r2 2
            have z3 : (w2).frozen? ⟨w.heap.size, 3, none⟩ = false := Lib.frozen_of_heap r2 3
            clear r2
            go_wp2
            have m3 := put4 (z := #[.int .i64 0, .string ⟨#[]⟩, .int .i64 0, .int .i64 0]) (a0 := .int .i64 0) (a1 := .string (bs [])) (a2 := .int .i64 0) (a3 := .int .i64 0) M1.out
            have r3 := m3.raw_at (i := 0) rfl
            refine bodyPost_ret (results_cell_tmp (p := 4) (u := 5) rfl _ _ w.heap.size 25 #[.int .i64 0, .string (bs []), .int .i64 0, .int .i64 0] (0, 0) _ rfl r3 Tryd.underlying25 rfl (by kernel_rfl)) rfl ?_
            exact ⟨tok_ret HR.out rfl, m3.below⟩
  | false =>
    have HL := Lib.hid hl
    have HQ := Lib.hid (q_letter_of hl)
    clear hl
    go_wp2_with (go_at_call 31; refine (HQ.out _).mono ?_; rintro e w2 ⟨rfl, hw⟩; refine Hid.out ?_)
    refine Lib.hid ?_
    have m1 := M0.out
    rw [hw] at m1
    have M1 := Lib.hid (show OMem w w2 [.raw w.heap.size (.cells #[.int .i64 0, .string ⟨#[]⟩, .int .i64 0, .int .i64 0] 25 (0, 0))] from m1)
    clear m1 M0 hw HQ
    cases hg : digit c with
    | true =>
      have HG := Lib.hid hg
      have HQ := Lib.hid (q_digit_of hg)
      clear hg
      go_wp2_with (go_at_call 27; refine (HQ.out _).mono ?_; rintro e w3 ⟨rfl, rfl⟩; refine Hid.out ?_)
      refine Lib.hid ?_
      clear gc HQ
      obtain ⟨t, ht⟩ : ∃ t, r.takeWhile digit = t := ⟨_, rfl⟩
      have htl : t.length ≤ r.length := by rw [← ht]; exact tw_len r
      have HT := Lib.hid ht
      clear ht
      go_wp2
      go_loopw [6] (fun i wr => ∃ k : Nat, k ≤ t.length ∧ i = .int .i64 (a + 1 + k : Nat) ∧ w2 = wr) (fun i _ => s.length - (intOf i).toNat)
      case atStart => exact ⟨0, Nat.zero_le _, by go_num, rfl⟩
      case round =>
        obtain ⟨k, hk, rfl, rfl⟩ := hrel
        by_cases hlt : k < t.length
        · obtain ⟨d, hd, hq⟩ : ∃ d, r[k]? = some d ∧ digit d = true := tw_get (by rw [HT.out]; exact hlt)
          obtain ⟨i1, g1⟩ := bs_get (drop_get HD.out hd)
          clear hd
          have hks : a + 1 + k < s.length := by omega
          have HQ := Lib.hid (q_digit_of hq)
          clear hq
          go_wp2_with (go_at_call 27; refine (HQ.out _).mono ?_; rintro e w3 ⟨rfl, rfl⟩; refine Hid.out ?_)
          refine Lib.hid ?_
          go_wp2
          go_roundw
          case rel => exact ⟨k + 1, by omega, by go_num, by trivial⟩
          case measure => simp [intOf]; omega
        · obtain rfl : k = t.length := by omega
          clear hk hlt
          as_aux_lemma =>
          by_cases hks : a + 1 + t.length < s.length
          · obtain ⟨d, hd⟩ : ∃ d, r[t.length]? = some d := ⟨_, List.getElem?_eq_getElem (by omega)⟩
            have hq : digit d = false := tw_end (q := digit) (r := r) (by rw [HT.out]; exact hd)
            obtain ⟨i1, g1⟩ := bs_get (drop_get HD.out hd)
            have HQ := Lib.hid (q_digit_of hq)
            clear hd hq
            go_wp2_with (go_at_call 27; refine (HQ.out _).mono ?_; rintro e w3 ⟨rfl, rfl⟩; refine Hid.out ?_)
            refine Lib.hid ?_
            clear HQ g1
            have hE := ext_tok (q := digit) HD.out (by rw [HT.out])
            rw [HT.out] at hE
            have HN := q_number (w := w2) (s := List.cons c t) (by simp; omega)
            cases hn : numOk (List.cons c t) with
            | true =>
              have HR := Lib.hid (tok_num (at_ := (a : Int)) HL.out HG.out (by rw [HT.out]; exact hn))
              rw [HT.out] at HR
              rw [numRes_yes hn] at HN
              have HN := Lib.hid HN
              clear hn
              go_wp2_with (go_at_call 14; refine (HN.out).mono ?_; rintro e w3 ⟨rfl, rfl⟩; refine Hid.out ?_)
              refine Lib.hid ?_
              have r2 := M1.out.raw_at (i := 0) rfl
              have g0 : (w2).cell? ⟨w.heap.size, 0, none⟩ = some (.int .i64 0) := by rw [Lib.cell_of_heap r2]; rfl
              have g1 : (w2).cell? ⟨w.heap.size, 1, none⟩ = some (.string ⟨#[]⟩) := by rw [Lib.cell_of_heap r2]; rfl
              have g2 : (w2).cell? ⟨w.heap.size, 2, none⟩ = some (.int .i64 0) := by rw [Lib.cell_of_heap r2]; rfl
              have g3 : (w2).cell? ⟨w.heap.size, 3, none⟩ = some (.int .i64 0) := by rw [Lib.cell_of_heap r2]; rfl
              have z0 : (w2).frozen? ⟨w.heap.size, 0, none⟩ = false := Lib.frozen_of_heap r2 0
              have z1 : (w2).frozen? ⟨w.heap.size, 1, none⟩ = false := Lib.frozen_of_heap r2 1
              have z2 : (w2).frozen? ⟨w.heap.size, 2, none⟩ = false := Lib.frozen_of_heap r2 2
              have z3 : (w2).frozen? ⟨w.heap.size, 3, none⟩ = false := Lib.frozen_of_heap r2 3
              clear r2
              go_wp2
              have m3 := put4 (z := #[.int .i64 0, .string ⟨#[]⟩, .int .i64 0, .int .i64 0]) (a0 := .int .i64 1) (a1 := .string (bs (List.cons c t))) (a2 := .int .i64 (val (List.cons c t) : Nat)) (a3 := .int .i64 a) M1.out
              have r3 := m3.raw_at (i := 0) rfl
              refine bodyPost_ret (results_cell_tmp (p := 4) (u := 5) rfl _ _ w.heap.size 25 #[.int .i64 1, .string (bs (List.cons c t)), .int .i64 (val (List.cons c t) : Nat), .int .i64 a] (0, 0) _ rfl r3 Tryd.underlying25 rfl (by kernel_rfl)) rfl ?_
              exact ⟨tok_ret HR.out rfl, m3.below⟩
            | false =>
              have HR := Lib.hid (tok_bad (at_ := (a : Int)) HL.out HG.out (by rw [HT.out]; exact hn))
              rw [numRes_no hn] at HN
              have HN := Lib.hid HN
              clear hn
              go_wp2_with (go_at_call 14; refine (HN.out).mono ?_; rintro e w3 ⟨rfl, rfl⟩; refine Hid.out ?_)
              refine Lib.hid ?_
              have r2 := M1.out.raw_at (i := 0) rfl
              have g0 : (w2).cell? ⟨w.heap.size, 0, none⟩ = some (.int .i64 0) := by rw [Lib.cell_of_heap r2]; rfl
              have g1 : (w2).cell? ⟨w.heap.size, 1, none⟩ = some (.string ⟨#[]⟩) := by rw [Lib.cell_of_heap r2]; rfl
              have g2 : (w2).cell? ⟨w.heap.size, 2, none⟩ = some (.int .i64 0) := by rw [Lib.cell_of_heap r2]; rfl
              have g3 : (w2).cell? ⟨w.heap.size, 3, none⟩ = some (.int .i64 0) := by rw [Lib.cell_of_heap r2]; rfl
              have z0 : (w2).frozen? ⟨w.heap.size, 0, none⟩ = false := Lib.frozen_of_heap r2 0
              have z1 : (w2).frozen? ⟨w.heap.size, 1, none⟩ = false := Lib.frozen_of_heap r2 1
              have z2 : (w2).frozen? ⟨w.heap.size, 2, none⟩ = false := Lib.frozen_of_heap r2 2
              have z3 : (w2).frozen? ⟨w.heap.size, 3, none⟩ = false := Lib.frozen_of_heap r2 3
              clear r2
              go_wp2
              have m3 := put4 (z := #[.int .i64 0, .string ⟨#[]⟩, .int .i64 0, .int .i64 0]) (a0 := .int .i64 0) (a1 := .string (bs [])) (a2 := .int .i64 0) (a3 := .int .i64 0) M1.out
              have r3 := m3.raw_at (i := 0) rfl
              refine bodyPost_ret (results_cell_tmp (p := 4) (u := 5) rfl _ _ w.heap.size 25 #[.int .i64 0, .string (bs []), .int .i64 0, .int .i64 0] (0, 0) _ rfl r3 Tryd.underlying25 rfl (by kernel_rfl)) rfl ?_
              exact ⟨tok_ret HR.out rfl, m3.below⟩
          · have hE := ext_tok (q := digit) HD.out (by rw [HT.out])
            rw [HT.out] at hE
            have HN := q_number (w := w2) (s := List.cons c t) (by simp; omega)
            cases hn : numOk (List.cons c t) with
            | true =>
              have HR := Lib.hid (tok_num (at_ := (a : Int)) HL.out HG.out (by rw [HT.out]; exact hn))
              rw [HT.out] at HR
              rw [numRes_yes hn] at HN
              have HN := Lib.hid HN
              clear hn
              go_wp2_with (go_at_call 14; refine (HN.out).mono ?_; rintro e w3 ⟨rfl, rfl⟩; refine Hid.out ?_)
              refine Lib.hid ?_
              have r2 := M1.out.raw_at (i := 0) rfl
              have g0 : (w2).cell? ⟨w.heap.size, 0, none⟩ = some (.int .i64 0) := by rw [Lib.cell_of_heap r2]; rfl
              have g1 : (w2).cell? ⟨w.heap.size, 1, none⟩ = some (.string ⟨#[]⟩) := by rw [Lib.cell_of_heap r2]; rfl
              have g2 : (w2).cell? ⟨w.heap.size, 2, none⟩ = some (.int .i64 0) := by rw [Lib.cell_of_heap r2]; rfl
              have g3 : (w2).cell? ⟨w.heap.size, 3, none⟩ = some (.int .i64 0) := by rw [Lib.cell_of_heap r2]; rfl
              have z0 : (w2).frozen? ⟨w.heap.size, 0, none⟩ = false := Lib.frozen_of_heap r2 0
              have z1 : (w2).frozen? ⟨w.heap.size, 1, none⟩ = false := Lib.frozen_of_heap r2 1
              have z2 : (w2).frozen? ⟨w.heap.size, 2, none⟩ = false := Lib.frozen_of_heap r2 2
              have z3 : (w2).frozen? ⟨w.heap.size, 3, none⟩ = false := Lib.frozen_of_heap r2 3
              clear r2
              go_wp2
              have m3 := put4 (z := #[.int .i64 0, .string ⟨#[]⟩, .int .i64 0, .int .i64 0]) (a0 := .int .i64 1) (a1 := .string (bs (List.cons c t))) (a2 := .int .i64 (val (List.cons c t) : Nat)) (a3 := .int .i64 a) M1.out
              have r3 := m3.raw_at (i := 0) rfl
              refine bodyPost_ret (results_cell_tmp (p := 4) (u := 5) rfl _ _ w.heap.size 25 #[.int .i64 1, .string (bs (List.cons c t)), .int .i64 (val (List.cons c t) : Nat), .int .i64 a] (0, 0) _ rfl r3 Tryd.underlying25 rfl (by kernel_rfl)) rfl ?_
              exact ⟨tok_ret HR.out rfl, m3.below⟩
            | false =>
              have HR := Lib.hid (tok_bad (at_ := (a : Int)) HL.out HG.out (by rw [HT.out]; exact hn))
              rw [numRes_no hn] at HN
              have HN := Lib.hid HN
              clear hn
              go_wp2_with (go_at_call 14; refine (HN.out).mono ?_; rintro e w3 ⟨rfl, rfl⟩; refine Hid.out ?_)
              refine Lib.hid ?_
              have r2 := M1.out.raw_at (i := 0) rfl
              have g0 : (w2).cell? ⟨w.heap.size, 0, none⟩ = some (.int .i64 0) := by rw [Lib.cell_of_heap r2]; rfl
              have g1 : (w2).cell? ⟨w.heap.size, 1, none⟩ = some (.string ⟨#[]⟩) := by rw [Lib.cell_of_heap r2]; rfl
              have g2 : (w2).cell? ⟨w.heap.size, 2, none⟩ = some (.int .i64 0) := by rw [Lib.cell_of_heap r2]; rfl
              have g3 : (w2).cell? ⟨w.heap.size, 3, none⟩ = some (.int .i64 0) := by rw [Lib.cell_of_heap r2]; rfl
              have z0 : (w2).frozen? ⟨w.heap.size, 0, none⟩ = false := Lib.frozen_of_heap r2 0
              have z1 : (w2).frozen? ⟨w.heap.size, 1, none⟩ = false := Lib.frozen_of_heap r2 1
              have z2 : (w2).frozen? ⟨w.heap.size, 2, none⟩ = false := Lib.frozen_of_heap r2 2
              have z3 : (w2).frozen? ⟨w.heap.size, 3, none⟩ = false := Lib.frozen_of_heap r2 3
              clear r2
              go_wp2
              have m3 := put4 (z := #[.int .i64 0, .string ⟨#[]⟩, .int .i64 0, .int .i64 0]) (a0 := .int .i64 0) (a1 := .string (bs [])) (a2 := .int .i64 0) (a3 := .int .i64 0) M1.out
              have r3 := m3.raw_at (i := 0) rfl
              refine bodyPost_ret (results_cell_tmp (p := 4) (u := 5) rfl _ _ w.heap.size 25 #[.int .i64 0, .string (bs []), .int .i64 0, .int .i64 0] (0, 0) _ rfl r3 Tryd.underlying25 rfl (by kernel_rfl)) rfl ?_
              exact ⟨tok_ret HR.out rfl, m3.below⟩
    | false =>
      have HG := Lib.hid hg
      have HQ := Lib.hid (q_digit_of hg)
      clear hg
      go_wp2_with (go_at_call 27; refine (HQ.out _).mono ?_; rintro e w3 ⟨rfl, rfl⟩; refine Hid.out ?_)
      refine Lib.hid ?_
      clear HQ
      have e59 : ((c.toNat : Int) == 59) = (c == 59) := beq_n c 59
      by_cases h59 : c = 59
      · subst h59
        have HR := Lib.hid (tok_sign (r := r) (at_ := (a : Int)))
        clear e59
        have r2 := M1.out.raw_at (i := 0) rfl
        have g0 : (w2).cell? ⟨w.heap.size, 0, none⟩ = some (.int .i64 0) := by rw [Lib.cell_of_heap r2]; rfl
        have g1 : (w2).cell? ⟨w.heap.size, 1, none⟩ = some (.string ⟨#[]⟩) := by rw [Lib.cell_of_heap r2]; rfl
        have g2 : (w2).cell? ⟨w.heap.size, 2, none⟩ = some (.int .i64 0) := by rw [Lib.cell_of_heap r2]; rfl
        have g3 : (w2).cell? ⟨w.heap.size, 3, none⟩ = some (.int .i64 0) := by rw [Lib.cell_of_heap r2]; rfl
        have z0 : (w2).frozen? ⟨w.heap.size, 0, none⟩ = false := Lib.frozen_of_heap r2 0
        have z1 : (w2).frozen? ⟨w.heap.size, 1, none⟩ = false := Lib.frozen_of_heap r2 1
        have z2 : (w2).frozen? ⟨w.heap.size, 2, none⟩ = false := Lib.frozen_of_heap r2 2
        have z3 : (w2).frozen? ⟨w.heap.size, 3, none⟩ = false := Lib.frozen_of_heap r2 3
        clear r2
        go_wp2
        have m3 := put4 (z := #[.int .i64 0, .string ⟨#[]⟩, .int .i64 0, .int .i64 0]) (a0 := .int .i64 2) (a1 := .string (bs [59])) (a2 := .int .i64 0) (a3 := .int .i64 a) M1.out
        have r3 := m3.raw_at (i := 0) rfl
        refine bodyPost_ret (results_cell_tmp (p := 4) (u := 5) rfl _ _ w.heap.size 25 #[.int .i64 2, .string (bs [59]), .int .i64 0, .int .i64 a] (0, 0) _ rfl r3 Tryd.underlying25 rfl (by kernel_rfl)) rfl ?_
        exact ⟨tok_ret HR.out rfl, m3.below⟩
      · have HR := Lib.hid (tok_none (r := r) (at_ := (a : Int)) HL.out HG.out h59)
        rw [show (c == 59) = false by simpa using h59] at e59
        clear h59
        have r2 := M1.out.raw_at (i := 0) rfl
        have g0 : (w2).cell? ⟨w.heap.size, 0, none⟩ = some (.int .i64 0) := by rw [Lib.cell_of_heap r2]; rfl
        have g1 : (w2).cell? ⟨w.heap.size, 1, none⟩ = some (.string ⟨#[]⟩) := by rw [Lib.cell_of_heap r2]; rfl
        have g2 : (w2).cell? ⟨w.heap.size, 2, none⟩ = some (.int .i64 0) := by rw [Lib.cell_of_heap r2]; rfl
        have g3 : (w2).cell? ⟨w.heap.size, 3, none⟩ = some (.int .i64 0) := by rw [Lib.cell_of_heap r2]; rfl
        have z0 : (w2).frozen? ⟨w.heap.size, 0, none⟩ = false := Lib.frozen_of_heap r2 0
        have z1 : (w2).frozen? ⟨w.heap.size, 1, none⟩ = false := Lib.frozen_of_heap r2 1
        have z2 : (w2).frozen? ⟨w.heap.size, 2, none⟩ = false := Lib.frozen_of_heap r2 2
        have z3 : (w2).frozen? ⟨w.heap.size, 3, none⟩ = false := Lib.frozen_of_heap r2 3
        clear r2
        go_wp2
        have m3 := put4 (z := #[.int .i64 0, .string ⟨#[]⟩, .int .i64 0, .int .i64 0]) (a0 := .int .i64 0) (a1 := .string (bs [])) (a2 := .int .i64 0) (a3 := .int .i64 0) M1.out
        have r3 := m3.raw_at (i := 0) rfl
        refine bodyPost_ret (results_cell_tmp (p := 4) (u := 5) rfl _ _ w.heap.size 25 #[.int .i64 0, .string (bs []), .int .i64 0, .int .i64 0] (0, 0) _ rfl r3 Tryd.underlying25 rfl (by kernel_rfl)) rfl ?_
        exact ⟨tok_ret HR.out rfl, m3.below⟩
end
end Go.Proofs.YtenbdnkipkfpkaaDoor
