/-
  The reference's reading of an int's decimal form: it says that there is one exactly if there is, and which.
  Conditions: at most 21 bytes.
-/
import Derived.Test.YtplejiaddemjhaaDoorRef
namespace Go.Proofs.YtplejiaddemjhaaDoor
open Go.RowKit Go.Shelf

def bstep (z : Int) (c : UInt8) : Int := wrap64 (wrap64 (10 * z) - ((c.toNat : Int) - 48))
def bfold (l : List UInt8) : Int := l.foldl bstep 0
theorem bfold_snoc (l : List UInt8) (c : UInt8) : bfold (l ++ [c]) = bstep (bfold l) c := by unfold bfold; rw [List.foldl_append]; rfl
theorem bfold_take (l : List UInt8) (j : Nat) (c : UInt8) (h : l[j]? = some c) : bfold (l.take (j + 1)) = bstep (bfold (l.take j)) c := by rw [take_snoc h, bfold_snoc]
theorem w64 (n : Int) : wrap64 n = (n + 9223372036854775808) % 18446744073709551616 - 9223372036854775808 := by unfold wrap64; omega
theorem w64_in (n : Int) : Sp.I64 (wrap64 n) := by rw [w64]; unfold Sp.I64; omega
theorem w64_id {n : Int} (h : Sp.I64 n) : wrap64 n = n := by rw [w64]; unfold Sp.I64 at h; omega
theorem bfold_i64 (l : List UInt8) : Sp.I64 (bfold l) := by
  rcases List.eq_nil_or_concat l with rfl | ⟨m, c, rfl⟩
  · unfold Sp.I64 bfold; simp
  · rw [List.concat_eq_append, bfold_snoc]; exact w64_in _
theorem bfold_dec (u : Nat) (hu : u ≤ 9223372036854775808) : bfold (Lib.decDigits u) = -(u : Int) := by
  induction u using Nat.strongRecOn with
  | _ u ih =>
    by_cases h : u < 10
    · rw [Sp.decDigits_small h]
      show bstep 0 _ = _
      unfold bstep
      rw [Sp.digit_toNat u h, w64, w64]; omega
    · rw [Sp.decDigits_big h, bfold_snoc, ih (u / 10) (by omega) (by omega)]
      unfold bstep
      rw [Sp.digit_toNat _ (by omega), w64, w64]; omega

theorem canon_neg {t : List UInt8} {n : Int} (h : Sp.canon (45 :: t) = some n) : bfold t = n ∧ ∀ c ∈ t, 48 ≤ c.toNat ∧ c.toNat ≤ 57 := by
  obtain ⟨h1, h2, h3⟩ := Sp.canon_some h
  by_cases hn : n < 0
  · rw [itoa_neg n hn] at h1
    simp only [List.cons.injEq, true_and] at h1
    subst h1
    exact ⟨by rw [bfold_dec _ (by omega)]; omega, Sp.digits_range _⟩
  · rw [show n = ((n.toNat : Nat) : Int) by omega, itoa_nat] at h1
    have := Sp.digits_range n.toNat 45 (by rw [h1]; simp)
    simp at this
theorem canon_pos {s : List UInt8} {n : Int} (h : Sp.canon s = some n) (hs : ∀ t, s ≠ 45 :: t) : wrap64 (-bfold s) = n ∧ ∀ c ∈ s, 48 ≤ c.toNat ∧ c.toNat ≤ 57 := by
  obtain ⟨h1, h2, h3⟩ := Sp.canon_some h
  by_cases hn : n < 0
  · rw [itoa_neg n hn] at h1
    exact absurd h1.symm (hs _)
  · rw [show n = ((n.toNat : Nat) : Int) by omega, itoa_nat] at h1
    subst h1
    exact ⟨by rw [bfold_dec _ (by omega), w64_id (by unfold Sp.I64; omega)]; omega, Sp.digits_range _⟩
theorem canon_empty : Sp.canon [] = none := by
  rcases h : Sp.canon [] with _ | n
  · rfl
  · obtain ⟨h1, _⟩ := Sp.canon_some h
    by_cases hn : n < 0
    · rw [itoa_neg n hn] at h1; cases h1
    · rw [show n = ((n.toNat : Nat) : Int) by omega, itoa_nat] at h1; exact absurd h1 (Sp.digits_ne _)

/-- What Back says. -/
def okB (s : List UInt8) : Bool := (Sp.canon s).isSome
def BackSays (s : List UInt8) (v : Int) : Prop := ∀ n, Sp.canon s = some n → v = n
theorem back_no {s : List UInt8} (h : Sp.canon s = none) (v : Int) : BackSays s v := fun n hn => by rw [h] at hn; cases hn
theorem okB_no {s : List UInt8} (h : Sp.canon s = none) : okB s = false := by unfold okB; rw [h]; rfl
theorem ret_back {v : Int} {a b : Bool} (h : a = b) : Ending.returned (.tuple #[.int .i64 v, .bool a]) = .returned (.tuple #[.int .i64 v, .bool b]) := by rw [h]
theorem back_end {s : List UInt8} {v : Int} (hv : Sp.I64 v) (h : BackSays s v) : ((bs (Sp.eInt v)).toList == (bs s ++ (⟨#[59]⟩ : ByteArray)).toList) = okB s := by
  rw [bs_snoc, bs_toList, bs_toList]
  unfold Sp.eInt okB
  cases hc : Sp.canon s with
  | some n =>
    have := h n hc
    subst this
    rw [(Sp.canon_some hc).1]
    simp
  | none =>
    rw [Option.isSome_none, beq_eq_false_iff_ne]
    intro e
    have e1 : Lib.itoa v = s := List.append_cancel_right e
    have := Sp.canon_itoa v hv
    rw [e1, hc] at this
    cases this
theorem bs_get (l : List UInt8) (j : Nat) (h : j < (bs l).size) (c : UInt8) (hc : l[j]? = some c) : (bs l)[j]'h = c := by
  obtain ⟨hl, rfl⟩ := List.getElem?_eq_some_iff.1 hc
  rfl

set_option maxRecDepth 100000 in
set_option maxHeartbeats 1000000 in
theorem back_neg (t : List UInt8) (ht : t.length ≤ 20) (w : World) :
    Calls Tryd.prog 66 #[.string (bs (45 :: t))] w fun x w' => ∃ v, x = .returned (.tuple #[.int .i64 v, .bool (okB (45 :: t))]) ∧ Hid (BackSays (45 :: t) v) ∧ Below w.heap.size w w' := by
  have hz : 0 < (bs (45 :: t)).size := by rw [bs_size]; simp
  have hzz : (bs (45 :: t)).size = t.length + 1 := by rw [bs_size]; simp
  have hd : ((((bs (45 :: t))[0]'hz).toNat : Int) == 45) = true := by rw [bs_zero]; rfl
  have HC := Lib.hid (fun n (h : Sp.canon (45 :: t) = some n) => canon_neg h)
  go_enter Tryd.func66, Tryd.ntmps66
  go_wp2
  go_loop [2, 3, 5, 6] (fun _ _ n i => ∃ j : Nat, 1 ≤ j ∧ j ≤ t.length + 1 ∧ i = .int .i64 j ∧ n = .int .i64 (bfold (t.take (j - 1)))) (fun _ _ _ i => t.length + 1 - (intOf i).toNat)
  case atStart => exact ⟨1, by omega, by omega, rfl, rfl⟩
  case round =>
    obtain ⟨j, h1, hj, rfl, rfl⟩ := hrel
    by_cases hlt : j < t.length + 1
    · have hjs : j < (bs (45 :: t)).size := by omega
      obtain ⟨c, hc, hc2⟩ : ∃ c, (bs (45 :: t))[j]'hjs = c ∧ Hid (t[(j - 1)]? = some c) := by
        have hg : (45 :: t)[j]? = t[(j - 1)]? := by obtain ⟨i, rfl⟩ : ∃ i, j = i + 1 := ⟨j - 1, by omega⟩; rfl
        have ht : t[(j - 1)]? = some (t[(j - 1)]'(by omega)) := List.getElem?_eq_getElem _
        exact ⟨_, bs_get _ _ hjs _ (hg.trans ht), Lib.hid ht⟩
      by_cases hr : 48 ≤ c.toNat ∧ c.toNat ≤ 57
      · have HB := Lib.hid (bfold_take t (j - 1) c hc2.out)
        generalize bfold (t.take (j - 1)) = z at HB
        go_wp2
        go_round
        case rel => exact ⟨j + 1, by omega, by omega, by go_num, by rw [show (j + 1 - 1) = (j - 1) + 1 by omega, HB.out]; rfl⟩
        case measure => simp [intOf]; omega
      · have HN := Lib.hid (show Sp.canon (45 :: t) = none by
          rcases h : Sp.canon (45 :: t) with _ | n
          · rfl
          · exact absurd ((HC.out n h).2 c (List.mem_of_getElem? hc2.out)) hr)
        clear hc2
        generalize bfold (t.take (j - 1)) = z
        go_wp2
        all_goals
          go_ret2
          exact ⟨0, ret_back (okB_no HN.out).symm, Lib.hid (back_no HN.out _), Below.refl _ _⟩
    · have hjl : (j - 1) = t.length := by omega
      have HV := Lib.hid (bfold_i64 t)
      have HW := Lib.hid (w64_in (-bfold t))
      rw [hjl, List.take_length]
      clear hjl
      generalize bfold t = z at HC HV HW
      go_wp2_with (go_at_call 14; refine (qInt_any _ HV.out _).mono ?_; rintro e w1 ⟨rfl, b1⟩)
      go_ret2
      exact ⟨_, ret_back (back_end HV.out (fun n h => (HC.out n h).1)), Lib.hid (fun n h => (HC.out n h).1), b1⟩

set_option maxRecDepth 100000 in
set_option maxHeartbeats 1000000 in
theorem back_pos (c0 : UInt8) (t : List UInt8) (hc0 : c0 ≠ 45) (ht : t.length ≤ 20) (w : World) :
    Calls Tryd.prog 66 #[.string (bs (c0 :: t))] w fun x w' => ∃ v, x = .returned (.tuple #[.int .i64 v, .bool (okB (c0 :: t))]) ∧ Hid (BackSays (c0 :: t) v) ∧ Below w.heap.size w w' := by
  have hz : 0 < (bs (c0 :: t)).size := by rw [bs_size]; simp
  have hzz : (bs (c0 :: t)).size = t.length + 1 := by rw [bs_size]; simp
  have hd : ((((bs (c0 :: t))[0]'hz).toNat : Int) == 45) = false := by
    rw [bs_zero, beq_eq_false_iff_ne]
    intro e
    exact hc0 (UInt8.toNat_inj.1 (by rw [show (45 : UInt8).toNat = 45 from rfl]; omega))
  have HC := Lib.hid (fun n (h : Sp.canon (c0 :: t) = some n) => canon_pos h (fun u hu => hc0 (List.cons.inj hu).1))
  go_enter Tryd.func66, Tryd.ntmps66
  go_wp2
  go_loop [2, 3, 5, 6] (fun _ _ n i => ∃ j : Nat, 0 ≤ j ∧ j ≤ t.length + 1 ∧ i = .int .i64 j ∧ n = .int .i64 (bfold ((c0 :: t).take j))) (fun _ _ _ i => t.length + 1 - (intOf i).toNat)
  case atStart => exact ⟨0, by omega, by omega, rfl, rfl⟩
  case round =>
    obtain ⟨j, h1, hj, rfl, rfl⟩ := hrel
    by_cases hlt : j < t.length + 1
    · have hjs : j < (bs (c0 :: t)).size := by omega
      obtain ⟨c, hc, hc2⟩ : ∃ c, (bs (c0 :: t))[j]'hjs = c ∧ Hid ((c0 :: t)[j]? = some c) := by
        have hg : (c0 :: t)[j]? = (c0 :: t)[j]? := by rfl
        have ht : (c0 :: t)[j]? = some ((c0 :: t)[j]'(by simp; omega)) := List.getElem?_eq_getElem _
        exact ⟨_, bs_get _ _ hjs _ (hg.trans ht), Lib.hid ht⟩
      by_cases hr : 48 ≤ c.toNat ∧ c.toNat ≤ 57
      · have HB := Lib.hid (bfold_take (c0 :: t) j c hc2.out)
        generalize bfold ((c0 :: t).take j) = z at HB
        go_wp2
        go_round
        case rel => exact ⟨j + 1, by omega, by omega, by go_num, by rw [show j + 1 = j + 1 by omega, HB.out]; rfl⟩
        case measure => simp [intOf]; omega
      · have HN := Lib.hid (show Sp.canon (c0 :: t) = none by
          rcases h : Sp.canon (c0 :: t) with _ | n
          · rfl
          · exact absurd ((HC.out n h).2 c (List.mem_of_getElem? hc2.out)) hr)
        clear hc2
        generalize bfold ((c0 :: t).take j) = z
        go_wp2
        all_goals
          go_ret2
          exact ⟨0, ret_back (okB_no HN.out).symm, Lib.hid (back_no HN.out _), Below.refl _ _⟩
    · have hjl : j = (c0 :: t).length := by simp; omega
      have HV := Lib.hid (bfold_i64 (c0 :: t))
      have HW := Lib.hid (w64_in (-bfold (c0 :: t)))
      rw [hjl, List.take_length]
      clear hjl
      generalize bfold (c0 :: t) = z at HC HV HW
      go_wp2_with (go_at_call 14; refine (qInt_any _ HW.out _).mono ?_; rintro e w1 ⟨rfl, b1⟩)
      go_ret2
      exact ⟨_, ret_back (back_end HW.out (fun n h => (HC.out n h).1)), Lib.hid (fun n h => (HC.out n h).1), b1⟩

set_option maxRecDepth 100000 in
theorem back_nil (w : World) :
    Calls Tryd.prog 66 #[.string (bs [])] w fun x w' => ∃ v, x = .returned (.tuple #[.int .i64 v, .bool (okB [])]) ∧ Hid (BackSays [] v) ∧ Below w.heap.size w w' := by
  have hz : (bs []).size = 0 := by rw [bs_size]; rfl
  have HC := Lib.hid (fun n (h : Sp.canon [] = some n) => (show (0 : Int) = n by rw [canon_empty] at h; cases h))
  go_enter Tryd.func66, Tryd.ntmps66
  go_wp2
  go_loop [2, 3, 5, 6] (fun _ _ n i => i = .int .i64 0 ∧ n = .int .i64 0) (fun _ _ _ _ => 0)
  case atStart => exact ⟨rfl, rfl⟩
  case round =>
    obtain ⟨rfl, rfl⟩ := hrel
    go_wp2_with (go_at_call 14; refine (qInt_any _ ⟨by omega, by omega⟩ _).mono ?_; rintro e w1 ⟨rfl, b1⟩)
    go_ret2
    exact ⟨_, ret_back (back_end ⟨by omega, by omega⟩ (fun n h => HC.out n h)), Lib.hid (fun n h => HC.out n h), b1⟩

theorem back_any (s : List UInt8) (hs : s.length ≤ 21) (w : World) :
    Calls Tryd.prog 66 #[.string (bs s)] w fun x w' => ∃ v, x = .returned (.tuple #[.int .i64 v, .bool (okB s)]) ∧ Hid (BackSays s v) ∧ Below w.heap.size w w' := by
  match s, hs with
  | [], _ => exact back_nil w
  | c :: t, hs =>
    simp only [List.length_cons] at hs
    by_cases hc : c = 45
    · subst hc
      exact back_neg t (by omega) w
    · exact back_pos c t hc (by omega) w
end Go.Proofs.YtplejiaddemjhaaDoor
