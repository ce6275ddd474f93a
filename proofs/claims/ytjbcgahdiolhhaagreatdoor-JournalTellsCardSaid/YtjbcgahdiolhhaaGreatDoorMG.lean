/- Several texts in one: JQRef, JQBack, JQRead, JQText, KForm, KRecs, KObj, KJour, KApp, KOpen, KLas, KTellsP. -/
import Derived.Test.YtjbcgahdiolhhaaGreatDoorMA
import Derived.Laws.IdiomStrings
import Derived.Test.YtjbcgahdiolhhaaGreatDoorMD
import Derived.Test.YtjbcgahdiolhhaaGreatDoorMF
import Derived.Deep.RegionHeld3
import Derived.Test.YtjbcgahdiolhhaaGreatDoorMB
import Derived.Deep.Upon
namespace Go.Proofs.YtjbcgahdiolhhaaGreatDoor
open Go.RowKit Go.Shelf

theorem conv1 (d : Nat) (c : UInt8) (hd : c.toNat = 48 + d) (w : World) : (convert 62 9 (.slice (some ⟨w.heap.size, 0, none⟩) 1 1)).run Tryz.prog (w.alloc (.cells #[.int .u8 (48 + (d : Int))] 5)) = .ok (.string (bs [c])) (w.alloc (.cells #[.int .u8 (48 + (d : Int))] 5)) := by
  have h := run_convert_bytes_back (P := Tryz.prog) (w.alloc (.cells #[.int .u8 (48 + (d : Int))] 5)) 62 9 5 ⟨w.heap.size, 0, none⟩ 1 [c] Tryz.underlying62 Tryz.underlying5 Tryz.underlying9 (fun j hj => by
    have hj0 : j = 0 := by simpa using hj
    subst hj0
    rw [Lib.add_plain]
    refine (Lib.cell_of_heap (heap_alloc_new w _) _).trans ?_
    simp only [List.getElem_cons_zero, hd]
    rfl)
  exact h
theorem digit_of (d : Nat) (hd : d < 10) : ∃ c : UInt8, c.toNat = 48 + d ∧ Hid (UInt8.ofNat (48 + d) = c) := ⟨_, by rw [UInt8.toNat_ofNat']; omega, Lib.hid rfl⟩

set_option maxRecDepth 100000 in
theorem digits_0 (m : Nat) (hm : m < 10) (w : World) :
    Calls Tryz.prog 82 #[.int .i64 (-(m : Int))] w fun e w' => e = .returned (.string (bs (Lib.decDigits m))) ∧ Below w.heap.size w w' := by
  have hr : (-(m : Int)).tmod 10 = -(m : Int) := by rw [Int.neg_tmod, Int.tmod_eq_emod_of_nonneg (by omega)]; omega
  obtain ⟨c, h1, HC⟩ := digit_of m hm
  have hc := conv1 m c h1 w
  clear h1
  go_enter Tryz.func82, Tryz.ntmps82
  go_wp2
  go_ret
  exact ⟨by rw [Sp.decDigits_small hm, HC.out]; rfl, (Below.refl _ _).alloc (Nat.le_refl _) _⟩

set_option maxRecDepth 100000 in
theorem digits_any (n : Nat) : ∀ (m : Nat) (w : World), m ≤ n → m ≤ 9223372036854775808 →
    Calls Tryz.prog 82 #[.int .i64 (-(m : Int))] w fun e w' => e = .returned (.string (bs (Lib.decDigits m))) ∧ Below w.heap.size w w' := by
  induction n with
  | zero => exact fun m w h _ => digits_0 m (by omega) w
  | succ n ih =>
    intro m w hm hb
    by_cases h : m < 10
    · exact digits_0 m h w
    · have hr : (-(m : Int)).tmod 10 = -((m % 10 : Nat) : Int) := by rw [Int.neg_tmod, Int.tmod_eq_emod_of_nonneg (by omega)]; omega
      have hq : (-(m : Int)).tdiv 10 = -((m / 10 : Nat) : Int) := by rw [Int.neg_tdiv, Int.tdiv_eq_ediv_of_nonneg (by omega)]; omega
      have hi := ih (m / 10) (w.alloc (.cells #[.int .u8 (48 + ((m % 10 : Nat) : Int))] 5)) (by omega) (by omega)
      have hl : (bs (Lib.decDigits (m / 10))).size ≤ 30 := by
        rw [bs_size]
        have := Lib.itoa_length_le ((m / 10 : Nat) : Int) (by omega) (by omega)
        rw [Lib.itoa, if_neg (by omega)] at this
        simp only [Int.toNat_natCast] at this
        omega
      have hd := Sp.decDigits_big h
      obtain ⟨c, hc1, HC⟩ := digit_of (m % 10) (by omega)
      have hc := conv1 (m % 10) c hc1 w
      rw [HC.out] at hd
      clear hc1 HC
      have hcz : (bs [c]).size = 1 := by rw [bs_size]; rfl
      have hlt : m % 10 < 10 := by omega
      have hqq : m / 10 ≤ 922337203685477580 := by omega
      generalize hdd : m % 10 = d at hr hc hi hd hlt
      generalize hqe : m / 10 = q at hq hi hd hl hqq
      have HD := Lib.hid hd
      have HI := Lib.hid hi
      clear hd hi hdd hqe ih
      go_enter Tryz.func82, Tryz.ntmps82
      go_wp2_with (go_at_call 82; refine HI.out.mono ?_; rintro e w1 ⟨rfl, b1⟩)
      go_ret
      exact ⟨by rw [bs_append, HD.out]; rfl, ((Below.refl _ _).alloc (Nat.le_refl _) _).trans (b1.mono (by simp))⟩
theorem bs_cons (a : List UInt8) (c : UInt8) : (⟨#[c]⟩ : ByteArray) ++ bs a = bs (c :: a) := ByteArray.mk_append_mk [c] a
theorem itoa_nat (n : Nat) : Lib.itoa (n : Int) = Lib.decDigits n := by rw [Lib.itoa, if_neg (by omega), Int.toNat_natCast]
theorem itoa_neg (n : Int) (h : n < 0) : Lib.itoa n = 45 :: Lib.decDigits (-n).toNat := by rw [Lib.itoa, if_pos h, show n.natAbs = (-n).toNat by omega]
theorem dec_len (n : Nat) (h : n ≤ 9223372036854775807) : (Lib.decDigits n).length ≤ 21 := by
  have := Lib.itoa_length_le (n : Int) (by omega) (by omega)
  rwa [itoa_nat] at this

set_option maxRecDepth 100000 in
theorem qInt_any (n : Int) (hn : Sp.I64 n) (w : World) :
    Calls Tryz.prog 83 #[.int .i64 n] w fun e w' => e = .returned (.string (bs (Sp.eInt n))) ∧ Below w.heap.size w w' := by
  have hl : (bs (Lib.itoa n)).size ≤ 21 := by rw [bs_size]; exact Lib.itoa_length_le n hn.1 hn.2
  obtain ⟨hn1, hn2⟩ := hn
  by_cases h : n < 0
  · have hd := digits_any _ (-n).toNat w (Nat.le_refl _) (by omega)
    rw [show -(((-n).toNat : Nat) : Int) = n by omega] at hd
    have hs : (bs (Lib.decDigits (-n).toNat)).size ≤ 21 := by rw [itoa_neg n h, bs_size, List.length_cons] at hl; rw [bs_size]; omega
    have HI := Lib.hid (itoa_neg n h)
    have HD := Lib.hid hd
    clear hd hl
    generalize Lib.decDigits (-n).toNat = D at hs HI HD
    go_enter Tryz.func83, Tryz.ntmps83
    go_wp2_with (go_at_call 82; refine HD.out.mono ?_; rintro e w1 ⟨rfl, b1⟩)
    go_ret
    exact ⟨ret_string (by rw [bs_cons, bs_snoc]; unfold Sp.eInt; rw [HI.out]), b1⟩
  · have hd := digits_any _ n.toNat w (Nat.le_refl _) (by omega)
    rw [show -((n.toNat : Nat) : Int) = -n by omega] at hd
    have hi : Lib.itoa n = Lib.decDigits n.toNat := by rw [Lib.itoa, if_neg h]
    have hs : (bs (Lib.decDigits n.toNat)).size ≤ 21 := by rw [hi] at hl; exact hl
    have HI := Lib.hid hi
    have HD := Lib.hid hd
    clear hd hl hi
    generalize Lib.decDigits n.toNat = D at hs HI HD
    go_enter Tryz.func83, Tryz.ntmps83
    go_wp2_with (go_at_call 82; refine HD.out.mono ?_; rintro e w1 ⟨rfl, b1⟩)
    go_ret
    exact ⟨ret_string (by rw [bs_snoc]; unfold Sp.eInt; rw [HI.out]), b1⟩

theorem qNum_any (n : Int) (hn : Sp.I64 n) (w : World) :
    Calls Tryz.prog 67 #[.int .i64 n] w fun e w' => e = .returned (.string (bs (Sp.eNum n))) ∧ Below w.heap.size w w' := by
  by_cases h : n < 0
  · go_enter Tryz.func67, Tryz.ntmps67
    go_wp2
    go_ret
    exact ⟨ret_string (by unfold Sp.eNum; rw [if_pos h]; rfl), Below.refl _ _⟩
  · go_enter Tryz.func67, Tryz.ntmps67
    go_wp2_with (go_at_call 83; refine (qInt_any n hn _).mono ?_; rintro e w' ⟨rfl, hb⟩)
    go_ret
    exact ⟨ret_string (by unfold Sp.eNum; rw [if_neg (by omega)]), hb⟩

set_option maxRecDepth 100000 in
theorem qText_any (l : List UInt8) (hl : l.length ≤ 100000) (w : World) :
    Calls Tryz.prog 66 #[.string (bs l)] w fun e w' => e = .returned (.string (bs (Sp.eText l))) ∧ Below w.heap.size w w' := by
  have hd := digits_any _ l.length w (Nat.le_refl _) (by omega)
  rw [← bs_size] at hd
  have hs : (bs (Lib.decDigits (bs l).size)).size ≤ 21 := by rw [bs_size, bs_size]; exact dec_len _ (by omega)
  have hl2 : (bs l).size ≤ 100000 := by rw [bs_size]; exact hl
  have HI := Lib.hid (itoa_nat l.length)
  have HS := Lib.hid (bs_size l)
  have HD := Lib.hid hd
  clear hd
  go_enter Tryz.func66, Tryz.ntmps66
  go_wp2_with (go_at_call 82; refine HD.out.mono ?_; rintro e w1 ⟨rfl, b1⟩)
  go_ret
  exact ⟨ret_string (by rw [bs_snoc, bs_append, bs_snoc]; unfold Sp.eText; rw [HI.out, HS.out]; simp), b1⟩

end Go.Proofs.YtjbcgahdiolhhaaGreatDoor
namespace Go.Proofs.YtjbcgahdiolhhaaGreatDoor
open Go.RowKit Go.Shelf

theorem take_snoc {α : Type} {xs : List α} {k : Nat} {x : α} (h : xs[k]? = some x) : xs.take (k + 1) = xs.take k ++ [x] := by
  obtain ⟨hi, rfl⟩ := List.getElem?_eq_some_iff.1 h
  exact List.take_succ_eq_append_getElem hi
def bstep (z : Int) (c : UInt8) : Int := wrap64 (wrap64 (10 * z) - ((c.toNat : Int) - 48))
def bfold (l : List UInt8) : Int := l.foldl bstep 0
theorem bfold_snoc (l : List UInt8) (c : UInt8) : bfold (l ++ [c]) = bstep (bfold l) c := by unfold bfold; rw [List.foldl_append]; rfl
theorem bfold_take (l : List UInt8) (j : Nat) (c : UInt8) (h : l[j]? = some c) : bfold (l.take (j + 1)) = bstep (bfold (l.take j)) c := by rw [take_snoc h, bfold_snoc]
theorem w64 (n : Int) : wrap64 n = (n + 9223372036854775808) % 18446744073709551616 - 9223372036854775808 := by unfold wrap64; omega
theorem w64_in (n : Int) : Sp.I64 (wrap64 n) := by rw [w64]; unfold Sp.I64; omega
theorem w64_id {n : Int} (h : Sp.I64 n) : wrap64 n = n := by rw [w64]; unfold Sp.I64 at h; omega
theorem bfold_i64 (l : List UInt8) : Sp.I64 (bfold l) := by
  rcases List.eq_nil_or_concat l with rfl | ⟨m, c, rfl⟩
  · unfold Sp.I64 bfold; simp
  · rw [List.concat_eq_append, bfold_snoc]; exact w64_in _
theorem bfold_dec (u : Nat) (hu : u ≤ 9223372036854775808) : bfold (Lib.decDigits u) = -(u : Int) := by
  induction u using Nat.strongRecOn with
  | _ u ih =>
    by_cases h : u < 10
    · rw [Sp.decDigits_small h]
      show bstep 0 _ = _
      unfold bstep
      rw [Sp.digit_toNat u h, w64, w64]; omega
    · rw [Sp.decDigits_big h, bfold_snoc, ih (u / 10) (by omega) (by omega)]
      unfold bstep
      rw [Sp.digit_toNat _ (by omega), w64, w64]; omega

theorem canon_neg {t : List UInt8} {n : Int} (h : Sp.canon (45 :: t) = some n) : bfold t = n ∧ ∀ c ∈ t, 48 ≤ c.toNat ∧ c.toNat ≤ 57 := by
  obtain ⟨h1, h2, h3⟩ := Sp.canon_some h
  by_cases hn : n < 0
  · rw [itoa_neg n hn] at h1
    simp only [List.cons.injEq, true_and] at h1
    subst h1
    exact ⟨by rw [bfold_dec _ (by omega)]; omega, Sp.digits_range _⟩
  · rw [show n = ((n.toNat : Nat) : Int) by omega, itoa_nat] at h1
    have := Sp.digits_range n.toNat 45 (by rw [h1]; simp)
    simp at this
theorem canon_pos {s : List UInt8} {n : Int} (h : Sp.canon s = some n) (hs : ∀ t, s ≠ 45 :: t) : wrap64 (-bfold s) = n ∧ ∀ c ∈ s, 48 ≤ c.toNat ∧ c.toNat ≤ 57 := by
  obtain ⟨h1, h2, h3⟩ := Sp.canon_some h
  by_cases hn : n < 0
  · rw [itoa_neg n hn] at h1
    exact absurd h1.symm (hs _)
  · rw [show n = ((n.toNat : Nat) : Int) by omega, itoa_nat] at h1
    subst h1
    exact ⟨by rw [bfold_dec _ (by omega), w64_id (by unfold Sp.I64; omega)]; omega, Sp.digits_range _⟩
theorem canon_empty : Sp.canon [] = none := by
  rcases h : Sp.canon [] with _ | n
  · rfl
  · obtain ⟨h1, _⟩ := Sp.canon_some h
    by_cases hn : n < 0
    · rw [itoa_neg n hn] at h1; cases h1
    · rw [show n = ((n.toNat : Nat) : Int) by omega, itoa_nat] at h1; exact absurd h1 (Sp.digits_ne _)

/-- What Back says. -/
def okB (s : List UInt8) : Bool := (Sp.canon s).isSome
def BackSays (s : List UInt8) (v : Int) : Prop := ∀ n, Sp.canon s = some n → v = n
theorem back_no {s : List UInt8} (h : Sp.canon s = none) (v : Int) : BackSays s v := fun n hn => by rw [h] at hn; cases hn
theorem okB_no {s : List UInt8} (h : Sp.canon s = none) : okB s = false := by unfold okB; rw [h]; rfl
theorem ret_back {v : Int} {a b : Bool} (h : a = b) : Ending.returned (.tuple #[.int .i64 v, .bool a]) = .returned (.tuple #[.int .i64 v, .bool b]) := by rw [h]
theorem back_end {s : List UInt8} {v : Int} (hv : Sp.I64 v) (h : BackSays s v) : ((bs (Sp.eInt v)).toList == (bs s ++ (⟨#[59]⟩ : ByteArray)).toList) = okB s := by
  rw [bs_snoc, bs_toList, bs_toList]
  unfold Sp.eInt okB
  cases hc : Sp.canon s with
  | some n =>
    have := h n hc
    subst this
    rw [(Sp.canon_some hc).1]
    simp
  | none =>
    rw [Option.isSome_none, beq_eq_false_iff_ne]
    intro e
    have e1 : Lib.itoa v = s := List.append_cancel_right e
    have := Sp.canon_itoa v hv
    rw [e1, hc] at this
    cases this
theorem bs_get (l : List UInt8) (j : Nat) (h : j < (bs l).size) (c : UInt8) (hc : l[j]? = some c) : (bs l)[j]'h = c := by
  obtain ⟨hl, rfl⟩ := List.getElem?_eq_some_iff.1 hc
  rfl

set_option maxRecDepth 100000 in
set_option maxHeartbeats 1000000 in
theorem back_neg (t : List UInt8) (ht : t.length ≤ 20) (w : World) :
    Calls Tryz.prog 91 #[.string (bs (45 :: t))] w fun x w' => ∃ v, x = .returned (.tuple #[.int .i64 v, .bool (okB (45 :: t))]) ∧ Hid (BackSays (45 :: t) v) ∧ Below w.heap.size w w' := by
  have hz : 0 < (bs (45 :: t)).size := by rw [bs_size]; simp
  have hzz : (bs (45 :: t)).size = t.length + 1 := by rw [bs_size]; simp
  have hd : ((((bs (45 :: t))[0]'hz).toNat : Int) == 45) = true := by rw [bs_zero]; rfl
  have HC := Lib.hid (fun n (h : Sp.canon (45 :: t) = some n) => canon_neg h)
  go_enter Tryz.func91, Tryz.ntmps91
  go_wp2
  go_loop [2, 3, 5, 6] (fun _ _ n i => ∃ j : Nat, 1 ≤ j ∧ j ≤ t.length + 1 ∧ i = .int .i64 j ∧ n = .int .i64 (bfold (t.take (j - 1)))) (fun _ _ _ i => t.length + 1 - (intOf i).toNat)
  case atStart => exact ⟨1, by omega, by omega, rfl, rfl⟩
  case round =>
    obtain ⟨j, h1, hj, rfl, rfl⟩ := hrel
    by_cases hlt : j < t.length + 1
    · have hjs : j < (bs (45 :: t)).size := by omega
      obtain ⟨c, hc, hc2⟩ : ∃ c, (bs (45 :: t))[j]'hjs = c ∧ Hid (t[(j - 1)]? = some c) := by
        have hg : (45 :: t)[j]? = t[(j - 1)]? := by obtain ⟨i, rfl⟩ : ∃ i, j = i + 1 := ⟨j - 1, by omega⟩; rfl
        have ht : t[(j - 1)]? = some (t[(j - 1)]'(by omega)) := List.getElem?_eq_getElem _
        exact ⟨_, bs_get _ _ hjs _ (hg.trans ht), Lib.hid ht⟩
      by_cases hr : 48 ≤ c.toNat ∧ c.toNat ≤ 57
      · have HB := Lib.hid (bfold_take t (j - 1) c hc2.out)
        generalize bfold (t.take (j - 1)) = z at HB
        go_wp2
        go_round
        case rel => exact ⟨j + 1, by omega, by omega, by go_num, by rw [show (j + 1 - 1) = (j - 1) + 1 by omega, HB.out]; rfl⟩
        case measure => simp [intOf]; omega
      · have HN := Lib.hid (show Sp.canon (45 :: t) = none by
          rcases h : Sp.canon (45 :: t) with _ | n
          · rfl
          · exact absurd ((HC.out n h).2 c (List.mem_of_getElem? hc2.out)) hr)
        clear hc2
        generalize bfold (t.take (j - 1)) = z
        go_wp2
        all_goals
          go_ret2
          exact ⟨0, ret_back (okB_no HN.out).symm, Lib.hid (back_no HN.out _), Below.refl _ _⟩
    · have hjl : (j - 1) = t.length := by omega
      have HV := Lib.hid (bfold_i64 t)
      have HW := Lib.hid (w64_in (-bfold t))
      rw [hjl, List.take_length]
      clear hjl
      generalize bfold t = z at HC HV HW
      go_wp2_with (go_at_call 83; refine (qInt_any _ HV.out _).mono ?_; rintro e w1 ⟨rfl, b1⟩)
      go_ret2
      exact ⟨_, ret_back (back_end HV.out (fun n h => (HC.out n h).1)), Lib.hid (fun n h => (HC.out n h).1), b1⟩

set_option maxRecDepth 100000 in
set_option maxHeartbeats 1000000 in
theorem back_pos (c0 : UInt8) (t : List UInt8) (hc0 : c0 ≠ 45) (ht : t.length ≤ 20) (w : World) :
    Calls Tryz.prog 91 #[.string (bs (c0 :: t))] w fun x w' => ∃ v, x = .returned (.tuple #[.int .i64 v, .bool (okB (c0 :: t))]) ∧ Hid (BackSays (c0 :: t) v) ∧ Below w.heap.size w w' := by
  have hz : 0 < (bs (c0 :: t)).size := by rw [bs_size]; simp
  have hzz : (bs (c0 :: t)).size = t.length + 1 := by rw [bs_size]; simp
  have hd : ((((bs (c0 :: t))[0]'hz).toNat : Int) == 45) = false := by
    rw [bs_zero, beq_eq_false_iff_ne]
    intro e
    exact hc0 (UInt8.toNat_inj.1 (by rw [show (45 : UInt8).toNat = 45 from rfl]; omega))
  have HC := Lib.hid (fun n (h : Sp.canon (c0 :: t) = some n) => canon_pos h (fun u hu => hc0 (List.cons.inj hu).1))
  go_enter Tryz.func91, Tryz.ntmps91
  go_wp2
  go_loop [2, 3, 5, 6] (fun _ _ n i => ∃ j : Nat, 0 ≤ j ∧ j ≤ t.length + 1 ∧ i = .int .i64 j ∧ n = .int .i64 (bfold ((c0 :: t).take j))) (fun _ _ _ i => t.length + 1 - (intOf i).toNat)
  case atStart => exact ⟨0, by omega, by omega, rfl, rfl⟩
  case round =>
    obtain ⟨j, h1, hj, rfl, rfl⟩ := hrel
    by_cases hlt : j < t.length + 1
    · have hjs : j < (bs (c0 :: t)).size := by omega
      obtain ⟨c, hc, hc2⟩ : ∃ c, (bs (c0 :: t))[j]'hjs = c ∧ Hid ((c0 :: t)[j]? = some c) := by
        have hg : (c0 :: t)[j]? = (c0 :: t)[j]? := by rfl
        have ht : (c0 :: t)[j]? = some ((c0 :: t)[j]'(by simp; omega)) := List.getElem?_eq_getElem _
        exact ⟨_, bs_get _ _ hjs _ (hg.trans ht), Lib.hid ht⟩
      by_cases hr : 48 ≤ c.toNat ∧ c.toNat ≤ 57
      · have HB := Lib.hid (bfold_take (c0 :: t) j c hc2.out)
        generalize bfold ((c0 :: t).take j) = z at HB
        go_wp2
        go_round
        case rel => exact ⟨j + 1, by omega, by omega, by go_num, by rw [show j + 1 = j + 1 by omega, HB.out]; rfl⟩
        case measure => simp [intOf]; omega
      · have HN := Lib.hid (show Sp.canon (c0 :: t) = none by
          rcases h : Sp.canon (c0 :: t) with _ | n
          · rfl
          · exact absurd ((HC.out n h).2 c (List.mem_of_getElem? hc2.out)) hr)
        clear hc2
        generalize bfold ((c0 :: t).take j) = z
        go_wp2
        all_goals
          go_ret2
          exact ⟨0, ret_back (okB_no HN.out).symm, Lib.hid (back_no HN.out _), Below.refl _ _⟩
    · have hjl : j = (c0 :: t).length := by simp; omega
      have HV := Lib.hid (bfold_i64 (c0 :: t))
      have HW := Lib.hid (w64_in (-bfold (c0 :: t)))
      rw [hjl, List.take_length]
      clear hjl
      generalize bfold (c0 :: t) = z at HC HV HW
      go_wp2_with (go_at_call 83; refine (qInt_any _ HW.out _).mono ?_; rintro e w1 ⟨rfl, b1⟩)
      go_ret2
      exact ⟨_, ret_back (back_end HW.out (fun n h => (HC.out n h).1)), Lib.hid (fun n h => (HC.out n h).1), b1⟩

set_option maxRecDepth 100000 in
theorem back_nil (w : World) :
    Calls Tryz.prog 91 #[.string (bs [])] w fun x w' => ∃ v, x = .returned (.tuple #[.int .i64 v, .bool (okB [])]) ∧ Hid (BackSays [] v) ∧ Below w.heap.size w w' := by
  have hz : (bs []).size = 0 := by rw [bs_size]; rfl
  have HC := Lib.hid (fun n (h : Sp.canon [] = some n) => (show (0 : Int) = n by rw [canon_empty] at h; cases h))
  go_enter Tryz.func91, Tryz.ntmps91
  go_wp2
  go_loop [2, 3, 5, 6] (fun _ _ n i => i = .int .i64 0 ∧ n = .int .i64 0) (fun _ _ _ _ => 0)
  case atStart => exact ⟨rfl, rfl⟩
  case round =>
    obtain ⟨rfl, rfl⟩ := hrel
    go_wp2_with (go_at_call 83; refine (qInt_any _ ⟨by omega, by omega⟩ _).mono ?_; rintro e w1 ⟨rfl, b1⟩)
    go_ret2
    exact ⟨_, ret_back (back_end ⟨by omega, by omega⟩ (fun n h => HC.out n h)), Lib.hid (fun n h => HC.out n h), b1⟩

theorem back_any (s : List UInt8) (hs : s.length ≤ 21) (w : World) :
    Calls Tryz.prog 91 #[.string (bs s)] w fun x w' => ∃ v, x = .returned (.tuple #[.int .i64 v, .bool (okB s)]) ∧ Hid (BackSays s v) ∧ Below w.heap.size w w' := by
  match s, hs with
  | [], _ => exact back_nil w
  | c :: t, hs =>
    simp only [List.length_cons] at hs
    by_cases hc : c = 45
    · subst hc
      exact back_neg t (by omega) w
    · exact back_pos c t hc (by omega) w
end Go.Proofs.YtjbcgahdiolhhaaGreatDoor
namespace Go.Proofs.YtjbcgahdiolhhaaGreatDoor
open Go.RowKit Go.Shelf

theorem qFail_any (b : Nat) (st : Option (List UInt8)) (w : World) (h : RdAt 97 b st w) :
    Calls Tryz.prog 78 #[.pointer (some ⟨b, 0, none⟩)] w (Left 97 b (.int .i64 0) none w) := by
  have c0 := h.c0
  have c1 := h.c1
  have f0 := h.f 0
  have f1 := h.f 1
  go_enter Tryz.func78, Tryz.ntmps78
  go_wp2
  go_ret
  refine ⟨rfl, ?_, ?_⟩
  · exact h.failed
  · refine gb_set (p := ⟨b, 1, none⟩) ?_ (.inl rfl) _
    exact gb_set (p := ⟨b, 0, none⟩) (gb_refl _ _) (.inl rfl) _

theorem qClose_nil (b : Nat) (c : Int) (st : Option (List UInt8)) (hs : st.getD [] = []) (w : World) (h : RdAt 97 b st w) :
    Calls Tryz.prog 79 #[.pointer (some ⟨b, 0, none⟩), .int .u8 c] w (Left 97 b (.bool false) none w) := by
  have c0 := h.c0
  rw [hs] at c0
  have hl : (bs []).size = 0 := by rw [bs_size]; rfl
  clear hs
  go_enter Tryz.func79, Tryz.ntmps79
  go_wp2_with (go_at_call 78; refine (qFail_any b _ _ h).mono ?_; rintro e w1 ⟨rfl, h1, g1⟩)
  go_ret
  exact ⟨rfl, h1, g1⟩
theorem qClose_no (b : Nat) (c x : UInt8) (t : List UInt8) (hx : x ≠ c) (w : World) (h : RdAt 97 b (some (x :: t)) w) :
    Calls Tryz.prog 79 #[.pointer (some ⟨b, 0, none⟩), .int .u8 c.toNat] w (Left 97 b (.bool false) none w) := by
  have c0 : w.cell? ⟨b, 0, none⟩ = some (.string (bs (x :: t))) := h.c0
  have hz : 0 < (bs (x :: t)).size := by rw [bs_size]; simp
  have hd : ((((bs (x :: t))[0]'hz).toNat : Int) != (c.toNat : Int)) = true := by
    rw [bs_zero, bne_iff_ne]
    intro e
    exact hx (UInt8.toNat_inj.1 (by omega))
  go_enter Tryz.func79, Tryz.ntmps79
  go_wp2_with (go_at_call 78; refine (qFail_any b _ _ h).mono ?_; rintro e w1 ⟨rfl, h1, g1⟩)
  go_ret
  exact ⟨rfl, h1, g1⟩
theorem qClose_yes (b : Nat) (c : UInt8) (t : List UInt8) (w : World) (h : RdAt 97 b (some (c :: t)) w) :
    Calls Tryz.prog 79 #[.pointer (some ⟨b, 0, none⟩), .int .u8 c.toNat] w (Left 97 b (.bool true) (some t) w) := by
  have c0 : w.cell? ⟨b, 0, none⟩ = some (.string (bs (c :: t))) := h.c0
  have f0 := h.f 0
  have hz : 0 < (bs (c :: t)).size := by rw [bs_size]; simp
  have hz2 : 1 ≤ (bs (c :: t)).size := hz
  have hd : ((((bs (c :: t))[0]'hz).toNat : Int) != (c.toNat : Int)) = false := by
    rw [bs_zero]; simp
  have HE := Lib.hid (bs_extract (c :: t) 1 (bs (c :: t)).size)
  go_enter Tryz.func79, Tryz.ntmps79
  go_wp2
  go_ret
  refine ⟨rfl, ?_, gb_set (gb_refl _ _) (.inl rfl) _⟩
  rw [HE.out, bs_size]
  have := RdAt.set (t := t) h
  simpa using this
theorem qClose_any (b : Nat) (c : UInt8) (st : Option (List UInt8)) (w : World) (h : RdAt 97 b st w) :
    Calls Tryz.prog 79 #[.pointer (some ⟨b, 0, none⟩), .int .u8 c.toNat] w (Left 97 b (.bool (rSkip c st).1) (rSkip c st).2 w) := by
  cases st with
  | none => exact qClose_nil b c.toNat none rfl w h
  | some s =>
    cases s with
    | nil => exact qClose_nil b c.toNat (some []) rfl w h
    | cons x t =>
      by_cases hx : x = c
      · subst hx
        have hr : rSkip x (some (x :: t)) = (true, some t) := by simp [rSkip, Sp.skip]
        rw [hr]
        exact qClose_yes b x t w h
      · have hr : rSkip c (some (x :: t)) = (false, none) := by simp [rSkip, Sp.skip, hx]
        rw [hr]
        exact qClose_no b c x t hx w h

theorem notMem_take {s : List UInt8} {e c : UInt8} {k : Nat} (h : e ∉ s.take k) (hk : s[k]? = some c) (hc : c ≠ e) : e ∉ s.take (k + 1) := by
  rw [take_snoc hk]
  simp only [List.mem_append, List.mem_singleton, not_or]
  exact ⟨h, fun x => hc x.symm⟩
theorem pInt_none {s : List UInt8} {e : UInt8} (h : e ∉ s) : rInt e (some s) = (0, none) := by
  have hi : Lib.indexByte s e < 0 := by
    rcases Int.lt_or_le (Lib.indexByte s e) 0 with h' | h'
    · exact h'
    · obtain ⟨o, ho⟩ := Int.eq_ofNat_of_zero_le h'
      exact absurd (List.mem_of_getElem? (Lib.indexByte_some (o := o) ho).1) h
  simp only [rInt, Sp.pInt]; rw [if_pos hi]
theorem pInt_far {s : List UInt8} {e : UInt8} (h : e ∉ s.take 22) : rInt e (some s) = (0, none) := by
  by_cases hi : Lib.indexByte s e < 0
  · simp only [rInt, Sp.pInt]; rw [if_pos hi]
  · obtain ⟨o, ho⟩ := Int.eq_ofNat_of_zero_le (Int.not_lt.1 hi)
    have hge := (Lib.indexByte_some (o := o) ho).1
    have hlt : o < s.length := (List.getElem?_eq_some_iff.1 hge).1
    have ho2 : 22 ≤ o := by
      rcases Nat.lt_or_ge o 22 with h' | h'
      · refine absurd (List.mem_of_getElem? (i := o) ?_) h
        rw [List.getElem?_take_of_lt h']; exact hge
      · exact h'
    have hc : Sp.canon (s.take o) = none := by
      rcases hh : Sp.canon (s.take o) with _ | n
      · rfl
      · obtain ⟨h1, h2, h3⟩ := Sp.canon_some hh
        have h4 := Lib.itoa_length_le n h2 h3
        rw [h1, List.length_take] at h4
        omega
    simp only [rInt, Sp.pInt]
    rw [if_neg hi, ho, Int.toNat_natCast, hc]
    rfl
theorem pInt_at {s : List UInt8} {e : UInt8} {k : Nat} (h : e ∉ s.take k) (hk : s[k]? = some e) : rInt e (some s) = match Sp.canon (s.take k) with | none => (0, none) | some n => (n, some (s.drop (k + 1))) := by
  obtain ⟨hl, he⟩ := List.getElem?_eq_some_iff.1 hk
  have hs : s = s.take k ++ e :: s.drop (k + 1) := by rw [← he, ← List.drop_eq_getElem_cons hl, List.take_append_drop]
  have hi : Lib.indexByte s e = k := by
    have := Sp.index_app (s.take k) (s.drop (k + 1)) e h
    rw [← hs, List.length_take] at this
    rw [this]; congr 1; omega
  simp only [rInt, Sp.pInt]
  rw [if_neg (by omega), hi, Int.toNat_natCast]
  cases Sp.canon (s.take k) <;> rfl

theorem qAhead_none (b : Nat) (e : UInt8) (w : World) (h : RdAt 97 b none w) :
    Calls Tryz.prog 87 #[.pointer (some ⟨b, 0, none⟩), .int .u8 e.toNat] w (Left 97 b (.int .i64 0) none w) := by
  have c0 : w.cell? ⟨b, 0, none⟩ = some (.string (bs [])) := h.c0
  have hl : (bs []).size = 0 := by rw [bs_size]; rfl
  go_enter Tryz.func87, Tryz.ntmps87
  go_wp2
  go_loop [5] (fun n => n = .int .i64 0) (fun _ => 0)
  case atStart => rfl
  case round =>
    subst hrel
    go_wp2_with (go_at_call 78; refine (qFail_any b _ _ h).mono ?_; rintro x w1 ⟨rfl, h1, g1⟩)
    go_ret
    exact ⟨rfl, h1, g1⟩

set_option maxRecDepth 100000 in
set_option maxHeartbeats 2000000 in
theorem qAhead_some (b : Nat) (e : UInt8) (s : List UInt8) (hs : s.length ≤ 100000) (w : World) (h : RdAt 97 b (some s) w) :
    Calls Tryz.prog 87 #[.pointer (some ⟨b, 0, none⟩), .int .u8 e.toNat] w (Left 97 b (.int .i64 (rInt e (some s)).1) (rInt e (some s)).2 w) := by
  have c0 : w.cell? ⟨b, 0, none⟩ = some (.string (bs s)) := h.c0
  have hz : (bs s).size = s.length := bs_size s
  generalize hR : rInt e (some s) = R
  have HR := Lib.hid hR
  clear hR
  go_enter Tryz.func87, Tryz.ntmps87
  go_wp2
  go_loop [5] (fun n => ∃ k : Nat, k ≤ s.length ∧ k ≤ 21 ∧ n = .int .i64 k ∧ Hid (e ∉ s.take k)) (fun n => 22 - (intOf n).toNat)
  case atStart => exact ⟨0, by omega, by omega, rfl, Lib.hid (by simp)⟩
  case round =>
    obtain ⟨k, hk1, hk2, rfl, HN⟩ := hrel
    by_cases hlt : k < s.length
    · have hks : k < (bs s).size := by omega
      obtain ⟨c, hc, hc2⟩ : ∃ c, (bs s)[k]'hks = c ∧ Hid (s[k]? = some c) := by
        have ht : s[k]? = some (s[k]'hlt) := List.getElem?_eq_getElem _
        exact ⟨_, bs_get _ _ hks _ ht, Lib.hid ht⟩
      by_cases hce : c = e
      · subst hce
        have hd : (((c.toNat : Int)) != (c.toNat : Int)) = false := by simp
        have hp := pInt_at HN.out hc2.out
        rw [HR.out] at hp
        have HE := Lib.hid (show (bs s).extract 0 k = bs (s.take k) by rw [bs_extract]; simp)
        have HE2 := Lib.hid (show (bs s).extract (k + 1) s.length = bs (s.drop (k + 1)) by rw [bs_extract, List.take_of_length_le (by simp)])
        have hB := back_any (s.take k) (by rw [List.length_take]; omega)
        cases hcn : Sp.canon (s.take k) with
        | none =>
          rw [hcn] at hp
          subst hp
          rw [okB_no hcn] at hB
          have HB := Lib.hid hB
          clear hB hcn HR
          go_wp2_with (first | (go_at_call 91; rw [HE.out]; refine (HB.out _).mono ?_; rintro x w1 ⟨v, rfl, hv, b1⟩; have h1 := h.fresh b1) | (go_at_call 78; refine (qFail_any b _ _ h1).mono ?_; rintro x w2 ⟨rfl, h2, g2⟩))
          all_goals
            go_ret
            exact ⟨rfl, h2, gb_trans (gb_of_below b1 _) g2⟩
        | some n =>
          rw [hcn] at hp
          subst hp
          rw [show okB (s.take k) = true by unfold okB; rw [hcn]; rfl] at hB
          have HB := Lib.hid hB
          have HC := Lib.hid hcn
          clear hB hcn HR
          go_wp2_with (go_at_call 91; rw [HE.out]; refine (HB.out _).mono ?_; rintro x w1 ⟨v, rfl, hv, b1⟩; have h1 := h.fresh b1; have c1 : w1.cell? ⟨b, 0, none⟩ = some (.string (bs s)) := h1.c0; have f1 := h1.f 0)
          all_goals
            have hvn := hv.out n HC.out
            go_ret
            refine ⟨by rw [hvn]; rfl, ?_, gb_set (p := ⟨b, 0, none⟩) (gb_of_below b1 _) (.inl rfl) _⟩
            rw [HE2.out]
            exact RdAt.set h1
      · have hd : (((c.toNat : Int)) != (e.toNat : Int)) = true := by
          rw [bne_iff_ne]; intro x; exact hce (UInt8.toNat_inj.1 (by omega))
        by_cases h21 : k < 21
        · go_wp2
          go_round
          case rel => exact ⟨k + 1, by omega, by omega, by go_num, Lib.hid (notMem_take HN.out hc2.out hce)⟩
          case measure => simp [intOf]; omega
        · have hk : k = 21 := by omega
          subst hk
          have hp := pInt_far (notMem_take HN.out hc2.out hce)
          rw [HR.out] at hp
          subst hp
          clear HR
          go_wp2_with (go_at_call 78; refine (qFail_any b _ _ h).mono ?_; rintro x w1 ⟨rfl, h1, g1⟩)
          go_ret
          exact ⟨rfl, h1, g1⟩
    · have hkl : k = s.length := by omega
      subst hkl
      have hp := pInt_none (s := s) (e := e) (by have := HN.out; rwa [List.take_length] at this)
      rw [HR.out] at hp
      subst hp
      clear HR HN
      go_wp2_with (go_at_call 78; refine (qFail_any b _ _ h).mono ?_; rintro x w1 ⟨rfl, h1, g1⟩)
      go_ret
      exact ⟨rfl, h1, g1⟩
theorem qAhead_any (b : Nat) (e : UInt8) (st : Option (List UInt8)) (hs : (st.getD []).length ≤ 100000) (w : World) (h : RdAt 97 b st w) :
    Calls Tryz.prog 87 #[.pointer (some ⟨b, 0, none⟩), .int .u8 e.toNat] w (Left 97 b (.int .i64 (rInt e st).1) (rInt e st).2 w) := by
  cases st with
  | none => exact qAhead_none b e w h
  | some s => exact qAhead_some b e s hs w h

theorem qNumber_any (b : Nat) (e : UInt8) (st : Option (List UInt8)) (hs : (st.getD []).length ≤ 100000) (w : World) (h : RdAt 97 b st w) :
    Calls Tryz.prog 77 #[.pointer (some ⟨b, 0, none⟩), .int .u8 e.toNat] w (Left 97 b (.int .i64 (rNum e st).1) (rNum e st).2 w) := by
  have HR := Lib.hid (rNum_eq e st)
  by_cases hn : (rInt e st).1 < 0
  · rw [HR.out, if_pos hn]
    go_enter Tryz.func77, Tryz.ntmps77
    go_wp2_with (go_at_call 87; refine (qAhead_any b e st hs _ h).mono ?_; rintro x w1 ⟨rfl, h1, g1⟩; refine Hid.out ?_)
    refine Lib.hid ?_
    go_wp2_with (go_at_call 78; refine (qFail_any b _ _ h1).mono ?_; rintro x w2 ⟨rfl, h2, g2⟩)
    go_ret
    exact ⟨rfl, h2, gb_trans g1 g2⟩
  · rw [HR.out, if_neg hn]
    go_enter Tryz.func77, Tryz.ntmps77
    go_wp2_with (go_at_call 87; refine (qAhead_any b e st hs _ h).mono ?_; rintro x w1 ⟨rfl, h1, g1⟩)
    go_ret
    exact ⟨rfl, h1, g1⟩

theorem qrNum_any (b : Nat) (st : Option (List UInt8)) (hs : (st.getD []).length ≤ 100000) (w : World) (h : RdAt 97 b st w) :
    Calls Tryz.prog 63 #[.pointer (some ⟨b, 0, none⟩)] w (Left 97 b (.int .i64 (rNum 59 st).1) (rNum 59 st).2 w) := by
  go_enter Tryz.func63, Tryz.ntmps63
  go_wp2_with (go_at_call 77; refine (qNumber_any b 59 st hs _ h).mono ?_; rintro x w1 ⟨rfl, h1, g1⟩)
  go_ret
  exact ⟨rfl, h1, g1⟩
theorem qOpen_any (s : List UInt8) (w : World) :
    Calls Tryz.prog 60 #[.string (bs s)] w fun e w' => e = .returned (.pointer (some ⟨w.heap.size, 0, none⟩)) ∧ RdAt 97 w.heap.size (some s) w' ∧ Below w.heap.size w w' := by
  go_enter Tryz.func60, Tryz.ntmps60
  go_wp2
  go_ret
  exact ⟨rfl, heap_alloc_new w _, (Below.refl _ _).alloc (Nat.le_refl _) _⟩
theorem qLeft_any (b : Nat) (st : Option (List UInt8)) (w : World) (h : RdAt 97 b st w) :
    Calls Tryz.prog 61 #[.pointer (some ⟨b, 0, none⟩)] w fun x w' => x = .returned (.int .i64 (st.getD []).length) ∧ w = w' := by
  have c0 := h.c0
  have hz := bs_size (st.getD [])
  go_enter Tryz.func61, Tryz.ntmps61
  go_wp2
  go_ret
  exact ⟨rfl, rfl⟩
end Go.Proofs.YtjbcgahdiolhhaaGreatDoor
namespace Go.Proofs.YtjbcgahdiolhhaaGreatDoor
open Go.RowKit Go.Shelf

theorem qText_bad (b : Nat) (st : Option (List UInt8)) (hs : (st.getD []).length ≤ 100000) (hr : rNum 58 st = (0, none)) (w : World) (h : RdAt 97 b st w) :
    Calls Tryz.prog 62 #[.pointer (some ⟨b, 0, none⟩)] w (Left 97 b (.string (bs [])) none w) := by
  have HN := qNumber_any b 58 st hs
  rw [hr] at HN
  have HN' := Lib.hid HN
  clear hr HN
  go_enter Tryz.func62, Tryz.ntmps62
  go_wp2_with (go_at_call 77; refine (HN'.out _ h).mono ?_; rintro x w1 ⟨rfl, h1, g1⟩; refine Hid.out ?_)
  refine Lib.hid ?_
  have c1 : w1.cell? ⟨b, 1, none⟩ = some (.bool true) := h1.c1
  go_wp2_with (go_at_call 78; refine (qFail_any b _ _ h1).mono ?_; rintro x w2 ⟨rfl, h2, g2⟩)
  go_ret
  exact ⟨rfl, h2, gb_trans g1 g2⟩

theorem qText_long (b : Nat) (st : Option (List UInt8)) (hs : (st.getD []).length ≤ 100000) (n : Int) (t : List UInt8) (hr : rNum 58 st = (n, some t)) (hn : (t.length : Int) ≤ n) (w : World) (h : RdAt 97 b st w) :
    Calls Tryz.prog 62 #[.pointer (some ⟨b, 0, none⟩)] w (Left 97 b (.string (bs [])) none w) := by
  have HN := qNumber_any b 58 st hs
  rw [hr] at HN
  have HN' := Lib.hid HN
  have hz : ((bs t).size : Int) ≤ n := by rw [bs_size]; exact hn
  clear hr HN hn
  go_enter Tryz.func62, Tryz.ntmps62
  go_wp2_with (go_at_call 77; refine (HN'.out _ h).mono ?_; rintro x w1 ⟨rfl, h1, g1⟩; refine Hid.out ?_)
  refine Lib.hid ?_
  have c0 : w1.cell? ⟨b, 0, none⟩ = some (.string (bs t)) := h1.c0
  have c1 : w1.cell? ⟨b, 1, none⟩ = some (.bool false) := h1.c1
  go_wp2_with (go_at_call 78; refine (qFail_any b _ _ h1).mono ?_; rintro x w2 ⟨rfl, h2, g2⟩)
  go_ret
  exact ⟨rfl, h2, gb_trans g1 g2⟩

set_option maxHeartbeats 400000 in
theorem qText_tail (b : Nat) (st : Option (List UInt8)) (hs : (st.getD []).length ≤ 100000) (n : Nat) (t : List UInt8) (hr : rNum 58 st = ((n : Int), some t)) (hn : n < t.length) (q : Bool) (st' : Option (List UInt8)) (hk : rSkip 44 (some (t.drop n)) = (q, st')) (w : World) (h : RdAt 97 b st w) :
    Calls Tryz.prog 62 #[.pointer (some ⟨b, 0, none⟩)] w (Left 97 b (.string (bs (if q then t.take n else []))) st' w) := by
  have HN := qNumber_any b 58 st hs
  rw [hr] at HN
  have HN' := Lib.hid HN
  have HK := qClose_any b 44 (some (t.drop n))
  rw [hk] at HK
  have HK' := Lib.hid HK
  have hz : n < (bs t).size := by rw [bs_size]; exact hn
  have HT := Lib.hid (show (bs t).extract 0 n = bs (t.take n) by rw [bs_extract]; simp)
  have HD := Lib.hid (show (bs t).extract n (bs t).size = bs (t.drop n) by rw [bs_extract, bs_size, List.take_of_length_le (by simp)])
  clear hr HN hk HK
  cases q
  all_goals
    go_enter Tryz.func62, Tryz.ntmps62
    go_wp2_with (go_at_call 77; refine (HN'.out _ h).mono ?_; rintro x w1 ⟨rfl, h1, g1⟩; refine Hid.out ?_)
    refine Lib.hid ?_
    have c0 : w1.cell? ⟨b, 0, none⟩ = some (.string (bs t)) := h1.c0
    have c1 : w1.cell? ⟨b, 1, none⟩ = some (.bool false) := h1.c1
    have f1 := h1.f 0
    have h2 := RdAt.set (t := t.drop n) h1
    have g2 := gb_set (p := ⟨b, 0, none⟩) g1 (.inl rfl) (.string (bs (t.drop n)))
    go_wp2_with (go_at_call 79; rw [HD.out]; refine (HK'.out _ h2).mono ?_; rintro x w3 ⟨rfl, h3, g3⟩; refine Hid.out ?_)
    refine Lib.hid ?_
    have g4 := gb_trans g2 g3
    clear h1 g1 c0 c1 f1 h2 g2 g3
    go_wp2
    go_ret
  · exact ⟨rfl, h3, g4⟩
  · exact ⟨ret_string HT.out, h3, g4⟩

theorem qrText_any (b : Nat) (st : Option (List UInt8)) (hs : (st.getD []).length ≤ 100000) (w : World) (h : RdAt 97 b st w) :
    Calls Tryz.prog 62 #[.pointer (some ⟨b, 0, none⟩)] w (Left 97 b (.string (bs (rText st).1)) (rText st).2 w) := by
  cases st with
  | none => exact qText_bad b none hs rfl w h
  | some s =>
    rcases hp : Sp.pNum 58 s with _ | ⟨n, t⟩
    · have hr : rText (some s) = ([], none) := by simp [rText, Sp.pText, hp]
      rw [hr]
      exact qText_bad b (some s) hs (by simp [rNum, hp]) w h
    · obtain ⟨_, _, h0⟩ := Sp.pNum_some hp
      have hr0 : rNum 58 (some s) = (n, some t) := by simp [rNum, hp]
      by_cases hn : (t.length : Int) ≤ n
      · have hr : rText (some s) = ([], none) := by
          rcases Int.lt_or_le (t.length : Int) n with h' | h'
          · simp [rText, Sp.pText, hp, h']
          · have e : t.drop n.toNat = [] := List.drop_eq_nil_of_le (by omega)
            simp [rText, Sp.pText, hp, show ¬ ((t.length : Int) < n) by omega, e, Sp.skip]
        rw [hr]
        exact qText_long b (some s) hs n t hr0 hn w h
      · obtain ⟨k, rfl⟩ := Int.eq_ofNat_of_zero_le h0
        have hlt : k < t.length := by omega
        rcases hk : Sp.skip 44 (t.drop k) with _ | u
        · have hr : rText (some s) = ([], none) := by simp [rText, Sp.pText, hp, show ¬ ((t.length : Int) < (k : Int)) by omega, hk]
          rw [hr]
          exact qText_tail b (some s) hs k t hr0 hlt false none (by simp [rSkip, hk]) w h
        · have hr : rText (some s) = (t.take k, some u) := by simp [rText, Sp.pText, hp, show ¬ ((t.length : Int) < (k : Int)) by omega, hk]
          rw [hr]
          exact qText_tail b (some s) hs k t hr0 hlt true (some u) (by simp [rSkip, hk]) w h

end Go.Proofs.YtjbcgahdiolhhaaGreatDoor
namespace Go.Proofs.YtjbcgahdiolhhaaGreatDoor.D2
open Go.RowKit Go.Shelf
open Jp

theorem rsum_step (s k : Nat) (c : UInt8) (hc : c.toNat < 256) (hs : s < 2147483647) (h0 : 0 ≤ (c.toNat : Int) * ((k : Int) + 1)) (h1 : (c.toNat : Int) * ((k : Int) + 1) ≤ 280375465082880) (hm : (c.toNat : Int) * ((k : Int) + 1) = (((k + 1) * c.toNat : Nat) : Int)) :
    Value.int IntKind.i64 ((wrap64 ((s : Int) + wrap64 (wrap64 (c.toNat : Int) * ((k : Int) + 1)))).tmod 2147483647) = Value.int IntKind.i64 (((s + (k + 1) * c.toNat) % 2147483647 : Nat) : Int) := by
  rw [w64_of (n := (c.toNat : Int)) (by omega), w64_of (n := (c.toNat : Int) * ((k : Int) + 1)) (by omega), w64_of (by omega), hm, Int.tmod_eq_emod_of_nonneg (by omega)]
  congr 1
theorem rsum_any (l : List UInt8) (hl : l.length ≤ 1099511627776) (w : World) :
    Calls Tryz.prog 11 #[.string (bs l)] w fun e w' => e = .returned (.int .i64 (jsum l : Int)) ∧ w = w' := by
  have hsz := bs_size l
  go_enter Tryz.func11, Tryz.ntmps11
  go_wp2
  go_loop [3, 4] (fun u i => ∃ k s : Nat, k ≤ l.length ∧ s < 2147483647 ∧ Hid (s = jsum (l.take k)) ∧ u = .int .i64 s ∧ i = .int .i64 k) (fun _ i => l.length - (intOf i).toNat)
  case atStart => exact ⟨0, 0, Nat.zero_le _, by decide, Lib.hid (by simp [jsum_nil]), rfl, rfl⟩
  case round =>
    obtain ⟨k, s, hk, hs, HS, rfl, rfl⟩ := hrel
    by_cases hlt : k < l.length
    · have hks : k < (bs l).size := by rw [hsz]; exact hlt
      have HJ := jsum_take l k hlt
      rw [← HS.out] at HJ
      have hc := (l[k]).toNat_lt
      have hc0 : (bs l)[k]'hks = l[k] := rfl
      generalize l[k] = c at HJ hc hc0
      have hm : (c.toNat : Int) * ((k : Int) + 1) = (((k + 1) * c.toNat : Nat) : Int) := by rw [Int.mul_comm]; simp
      have hb : (k + 1) * c.toNat ≤ 1099511627776 * 255 := Nat.mul_le_mul (by omega) (by omega)
      have h0 : 0 ≤ (c.toNat : Int) * ((k : Int) + 1) := by omega
      have h1 : (c.toNat : Int) * ((k : Int) + 1) ≤ 280375465082880 := by omega
      have HJ := Lib.hid HJ
      have hm := Lib.hid hm
      clear hb hc
      go_wp2
      go_roundw
      case rel => exact ⟨k + 1, (s + (k + 1) * c.toNat) % 2147483647, by omega, by omega, Lib.hid HJ.out.symm, rsum_step s k c (c.toNat_lt) hs h0 h1 hm.out, by go_num⟩
      case measure => simp [intOf]; omega
    · have : k = l.length := by omega
      subst this
      have he := HS.out
      rw [List.take_length] at he
      subst he
      go_wp2
      go_ret
      exact ⟨rfl, rfl⟩
theorem rform_any (l : List UInt8) (hl : l.length ≤ 100000) (w : World) :
    Calls Tryz.prog 42 #[.string (bs l)] w fun e w' => e = .returned (.string (bs (form l))) ∧ Below w.heap.size w w' := by
  have hJ := jsum_i64 l
  have hd : (Sp.eNum (jsum l : Int)).length ≤ 30 := by
    have h0 := jsum_lt l
    have h1 := Lib.itoa_length_le (jsum l : Int) (by omega) (by omega)
    unfold Sp.eNum Sp.eInt
    split
    · simp
    · simp; omega
  have hx : (Sp.eText l).length ≤ 100100 := by
    have h1 := Lib.itoa_length_le (l.length : Int) (by omega) (by omega)
    simp [Sp.eText]; omega
  have hsz := bs_size (Sp.eText l)
  have hsz2 := bs_size (Sp.eNum (jsum l : Int))
  have hq : (bs (Sp.eText l)).size ≤ 100100 := by omega
  have hq2 : (bs (Sp.eNum (jsum l : Int))).size ≤ 30 := by omega
  clear hsz hsz2 hd hx
  go_enter Tryz.func42, Tryz.ntmps42
  go_wp2_with (go_at_call 66; refine (qText_any l hl _).mono ?_; rintro e w1 ⟨rfl, b1⟩; refine Hid.out ?_)
  refine Lib.hid ?_
  go_wp2_with (go_at_call 11; refine (rsum_any l (by omega) _).mono ?_; rintro e w2 ⟨rfl, rfl⟩; refine Hid.out ?_)
  refine Lib.hid ?_
  go_wp2_with (go_at_call 67; refine (qNum_any _ hJ _).mono ?_; rintro e w3 ⟨rfl, b3⟩)
  go_ret
  exact ⟨ret_string (by rw [bs_append]; rfl), b1.trans (b3.mono b1.size)⟩
set_option maxRecDepth 100000 in
/-- Forms of a list in memory. -/
theorem rforms_any (v : Value) (l : List (List UInt8)) (hs : ∀ r ∈ l, r.length ≤ 100000) (hl : (forms l).length ≤ 16777216) (w : World) (h : TextsAt w v l) :
    Calls Tryz.prog 38 #[v] w fun e w' => e = .returned (.string (bs (forms l))) ∧ Below w.heap.size w w' := by
  obtain ⟨a, cap, rfl, hg⟩ := texts_at h
  have hfc := forms_count l
  have HG := Lib.hid hg
  have HS := Lib.hid hs
  have HL := Lib.hid hl
  have hlen : l.length ≤ 16777216 := by omega
  clear h hg hs hl hfc
  go_enter Tryz.func38, Tryz.ntmps38
  go_wp2
  go_loopw [3, 4] (fun u i wr => ∃ k : Nat, k ≤ l.length ∧ u = .string (bs (forms (l.take k))) ∧ i = .int .i64 k ∧ Hid (Below w.heap.size w wr)) (fun _ i _ => l.length - (intOf i).toNat)
  case atStart => exact ⟨0, Nat.zero_le _, rfl, rfl, Lib.hid (Below.refl _ _)⟩
  case round =>
    obtain ⟨k, hk, rfl, rfl, HB⟩ := hrel
    by_cases hlt : k < l.length
    · obtain ⟨x, hx⟩ : ∃ x, l[k]? = some x := ⟨_, List.getElem?_eq_getElem hlt⟩
      obtain ⟨b, off, rfl, hc⟩ := HG.out k x hx
      have c0 := below_cell hc HB.out
      have hr := HS.out x (List.mem_of_getElem? hx)
      have ht : forms (l.take (k + 1)) = forms (l.take k) ++ form x := by rw [List.take_add_one, hx]; exact forms_snoc _ _
      have hp := (forms_pre (List.take_prefix (k + 1) l)).length_le
      rw [ht, List.length_append] at hp
      have hz1 := bs_size (forms (l.take k))
      have hz2 := bs_size (form x)
      have hL := HL.out
      have q1 : (bs (forms (l.take k))).size ≤ 16777216 := by omega
      have q2 : (bs (form x)).size ≤ 16777216 := by omega
      have HT := Lib.hid ht
      clear hx hc ht hp hz1 hz2 hL
      go_wp2_with (go_at_call 42; refine (rform_any x hr _).mono ?_; rintro e w1 ⟨rfl, b1⟩; have B1 := Lib.hid b1; clear b1)
      go_roundw
      case rel => exact ⟨k + 1, hlt, by rw [HT.out, bs_append], by go_num, Lib.hid (HB.out.trans (B1.out.mono HB.out.size))⟩
      case measure => simp [intOf]; omega
    · obtain rfl : k = l.length := by omega
      go_wp2
      go_ret
      exact ⟨ret_string (by rw [List.take_length]), HB.out⟩
end Go.Proofs.YtjbcgahdiolhhaaGreatDoor.D2
namespace Go.Proofs.YtjbcgahdiolhhaaGreatDoor.D2
open Go.RowKit Go.Shelf
open Jp

def lenV : Value → Nat | .slice _ n _ => n | _ => 0
theorem lenV_own {w : World} {base size n : Nat} {e : TypeId} {v : Value} {xs : List Value} (h : w.ownsRow base e size v n xs) : lenV v = n := by
  obtain ⟨a, c, rfl⟩ := own_form h
  rfl
set_option maxHeartbeats 4000000 in
set_option maxRecDepth 100000 in
theorem rrecords_any (s : List UInt8) (hs : s.length ≤ 100000) (w : World) :
    Calls Tryz.prog 37 #[.string (bs s)] w fun e w' => ∃ v, e = .returned v ∧ w'.ownsRow w.heap.size 9 1 v (recs s).length (strVs (recs s)) ∧ Below w.heap.size w w' := by
  obtain ⟨i0, hi, hz0, hz1, hz2⟩ := info_parts string_info
  have HS := Lib.hid hs
  clear hs
  go_enter Tryz.func37, Tryz.ntmps37
  go_wp2_with (go_at_call 60; refine (qOpen_any s _).mono ?_; rintro e w1 ⟨rfl, h1, b1⟩; refine Hid.out ?_)
  refine Lib.hid ?_
  go_wp2
  go_loopw [3] (fun rv wr => ∃ (ts : List (List UInt8)) (u : List UInt8), Hid (Scan s ts u) ∧ wr.ownsRow (w.heap.size + 1) 9 1 rv ts.length (strVs ts) ∧ RdAt 97 w.heap.size (some u) wr ∧ Below w.heap.size w wr) (fun rv _ => s.length + 1 - lenV rv)
  case atStart => exact ⟨[], s, Lib.hid ⟨rfl, rfl⟩, World.ownsRow_nil _ _ _ _, h1, b1⟩
  case round =>
    obtain ⟨ts, u, HP, hown, hrd, br⟩ := hrel
    clear h1 b1 w1
    have lu := HP.out.len
    have lS := HS.out
    rcases u with _ | ⟨c, u⟩
    · have HD := Lib.hid (HP.out.done rec1_nil).1
      go_wp2_with (go_at_call 61; refine (qLeft_any _ (some []) _ hrd).mono ?_; rintro e w6 ⟨rfl, rfl⟩)
      go_ret
      rw [show recs s = ts from HD.out]
      exact ⟨_, rfl, hown.mono (Nat.le_succ _), br⟩
    · obtain ⟨a, n, st1, st2, r1, r2, la, l1, hn, hr⟩ := read_next (c :: u)
      have T1 := qrText_any w.heap.size (some (c :: u)) (by simp at lu ⊢; omega)
      rw [r1] at T1
      have T1 := Lib.hid T1
      have T2 := qrNum_any w.heap.size st1 (by omega)
      rw [r2] at T2
      have T2 := Lib.hid T2
      have SA := Lib.hid (rsum_any a (by omega))
      have hal : (bs a).size = a.length := bs_size a
      have HAL := Lib.hid hal
      have hb := br.size
      have hlv := lenV_own hown
      have hlt : ts.length < s.length := by
        have h1 := congrArg List.length HP.out.text
        have h2 := forms_count ts
        rw [List.length_append, List.length_cons] at h1
        omega
      clear r1 r2 hal
      go_wp2_with (go_at_call 61; refine (qLeft_any _ (some (c :: u)) _ hrd).mono ?_; rintro e w6 ⟨rfl, rfl⟩; refine Hid.out ?_)
      refine Lib.hid ?_
      go_wp2_with (go_at_call 62; refine (T1.out _ hrd).mono ?_; rintro e w2 ⟨rfl, h2, g2⟩; refine Hid.out ?_)
      refine Lib.hid ?_
      have br2 := below_trans_gb br g2 (Nat.le_refl _) (Nat.le_refl _)
      have hown2 := hown.kept g2 (.inr (own_reader hown (by omega)))
      go_wp2_with (go_at_call 63; refine (T2.out _ h2).mono ?_; rintro e w3 ⟨rfl, h3, g3⟩; refine Hid.out ?_)
      refine Lib.hid ?_
      have br3 := below_trans_gb br2 g3 (Nat.le_refl _) (Nat.le_refl _)
      have hown3 := hown2.kept g3 (.inr (own_reader hown2 (by omega)))
      have hb3 := br3.size
      have c1 := h3.c1
      clear hrd h2 g2 g3 br br2 hown hown2
      rcases hr with ⟨rfl, hr⟩ | ⟨v, rfl, lv, hr⟩
      · have HD := Lib.hid (HP.out.done hr).1
        clear hr
        go_wp2
        go_ret
        rw [show recs s = ts from HD.out]
        exact ⟨_, rfl, hown3.mono (Nat.le_succ _), br3⟩
      · have HR := Lib.hid hr
        clear hr
        by_cases hlen : a.length ≤ 20000
        · have hl2 : (bs a).size ≤ 20000 := by rw [HAL.out]; exact hlen
          go_wp2_with (go_at_call 11; refine (SA.out _).mono ?_; rintro e w4 ⟨rfl, rfl⟩; refine Hid.out ?_)
          refine Lib.hid ?_
          by_cases hsum : n = (jsum a : Int)
          · have HN := Lib.hid (HP.out.next (HR.out.trans (if_pos ⟨hlen, hsum⟩)))
            subst hsum
            go_wp2_with (at_builtin; refine Hid.out ?_)
            refine Lib.hid ?_
            refine (wpList_append_own _ rfl _ _ 46 rfl (w.heap.size + 1) 9 i0 (.string ⟨#[]⟩) 1 16 Tryz.underlying46 hi hz0 hz1 hz2 rfl (by decide) _ _ _ rfl (hown3.alloc _) ⟨w3.heap.size, 0, none⟩ 1 1 [.string (bs a)] rfl rfl ?c1 ?c2 ?c3 ?c4 ?c5 ?_)
            case c1 =>
              intro j y hj
              match j, hj with
              | 0, hj => simp at hj; subst hj; simp [Addr.add]
            case c2 => intro y hy; simp at hy; subst hy; rfl
            case c3 => unfold maxLen; omega
            case c4 => omega
            case c5 => have := h3.lt; simp; omega
            intro v' w4 hown4 hgrow _
            have h4 : RdAt 97 w.heap.size (some v) w4 := by
              refine RdAt.old (w := w3.alloc (.cells #[.string (bs a)] 9)) ?_ hgrow (fun e => own_reader hown3 (by omega) e.symm)
              exact RdAt.fresh h3 ((Below.refl _ _).alloc (Nat.le_refl _) _)
            have br4 : Below w.heap.size w w4 := (br3.alloc (by omega) _).grown hgrow (by simp; omega) (fun k hk => by have := (hown3.lt k hk).1; omega)
            have hown5 : w4.ownsRow (w.heap.size + 1) 9 1 v' (ts ++ [a]).length (strVs (ts ++ [a])) := by
              rw [← strVs_snoc]; simpa using hown4
            have HLV := Lib.hid (lenV_own hown5)
            have HLU := Lib.hid hlv
            clear hown3 hown4 hgrow h3 br3 hlv
            go_wp2
            go_roundw
            case rel => exact ⟨ts ++ [a], v, HN, hown5, h4, br4⟩
            case measure =>
              rw [HLV.out, HLU.out, List.length_append, List.length_singleton]
              omega
          · have HD := Lib.hid (HP.out.done (HR.out.trans (if_neg (fun h => hsum h.2)))).1
            have hs2 : (n != (jsum a : Int)) = true := by simpa using hsum
            go_wp2
            go_ret
            rw [show recs s = ts from HD.out]
            exact ⟨_, rfl, hown3.mono (Nat.le_succ _), br3⟩
        · have hl2 : 20000 < (bs a).size := by rw [HAL.out]; omega
          have HD := Lib.hid (HP.out.done (HR.out.trans (if_neg (fun h => hlen h.1)))).1
          go_wp2
          go_ret
          rw [show recs s = ts from HD.out]
          exact ⟨_, rfl, hown3.mono (Nat.le_succ _), br3⟩
end Go.Proofs.YtjbcgahdiolhhaaGreatDoor.D2
namespace Go.Proofs.YtjbcgahdiolhhaaGreatDoor.D2
open Go.RowKit Go.Maps Go.ChangeMaps Go.MapKept
open Dp Jp
attribute [local go_sem ↓] Go.wp_at_zero Go.wp_at_succ

/-- The reference's disk in block r, of which D tells all. -/
def Ob.rdisk (r : Nat) (D : Dk) : Ob where
  In w lab id := ∃ R, RG w lab id r R ∧ Sim D R ∧ Good D
  kept := fun ⟨R, ⟨L, h1⟩, h2⟩ lo hl hb => ⟨R, ⟨L, h1.kept lo hl hb⟩, h2⟩
structure KnIn (w : World) (lab : Nat → Nat) (id b d : Nat) (J : Jn) (v : Value) : Prop where
  blk : w.heap[b]? = some (.cells #[.pointer (some ⟨d, 0, none⟩), .int .i64 J.file, v, .bool J.bad] 49 (0, 0))
  row : w.ownsRow 0 9 1 v J.l.length (strVs J.l)
  lb : lab b = id + 1
  lr : ∀ k, v.ownBlock = some k → lab k = id
  file : I64 J.file
/-- The reference's journal in block b whose disk lies in block d. -/
def Ob.rjour (b d : Nat) (J : Jn) : Ob where
  In w lab id := ∃ v, KnIn w lab id b d J v
  kept := fun {w w' lab lab' id} ⟨v, h⟩ lo hl hb => ⟨v, by rw [hb b (lt_heap h.blk) (by rw [h.lb]; omega) (by rw [h.lb]; omega)]; exact h.blk,
    ownsRow_block h.row fun k hk => hb k (h.row.lt k hk).2 (by rw [h.lr k hk]; omega) (by rw [h.lr k hk]; omega), (hl b (lt_heap h.blk)).trans h.lb, fun k hk => (hl k (h.row.lt k hk).2).trans (h.lr k hk), h.file⟩

section
variable {w0 w w' : World} {os : List Ob} {i r : Nat} {D : Dk}
/-- A call on the reference's disk at place i: its result, and the disk behind it. -/
def RdPost (w0 : World) (os : List Ob) (i r : Nat) (v : Value) (D' : Dk) (e : Ending) (w' : World) : Prop := e = .returned v ∧ OMem w0 w' (os.set i (.rdisk r D'))
theorem rd_step {lab : Nat → Nat} {v v' : Value} {R' : Rf} {D' : Dk} {e : Ending} (h : OMemL w0 w lab os) (hv : v = v') (hs : Sim D' R') (hg : Good D') (p : RPost lab (64 * (i + 1)) r v R' w e w') : RdPost w0 os i r v' D' e w' := by
  obtain ⟨he, lab', g, k⟩ := p
  exact ⟨by rw [he, hv], lab', h.set (o' := .rdisk r D') ⟨R', g, hs, hg⟩ g.lo k⟩
theorem OMem.rgood (h : OMem w0 w os) (hi : os[i]? = some (.rdisk r D)) : Good D := by
  obtain ⟨lab, h⟩ := h
  obtain ⟨R, _, _, hg⟩ := h.at_ i _ hi
  exact hg
theorem or_new (h : OMem w0 w os) : Calls Tryz.prog 7 #[] w fun e w' => ∃ b, e = .returned (.pointer (some ⟨b, 0, none⟩)) ∧ OMem w0 w' (os ++ [.rdisk b new]) := by
  obtain ⟨lab, h⟩ := h
  exact (rnew_any w lab (64 * (os.length + 1)) (by omega)).mono fun e w' ⟨he, g, k⟩ => ⟨_, he, _, h.push (o' := .rdisk w.heap.size new) ⟨_, ⟨_, g⟩, sim_new, good_new⟩ g.lo k⟩
theorem or_sync (h : OMem w0 w os) (hi : os[i]? = some (.rdisk r D)) (f : Int) (hf : I64 f) :
    Calls Tryz.prog 36 #[.pointer (some ⟨r, 0, none⟩), .int .i64 f] w (RdPost w0 os i r (.int .i64 (D.sync f).1) (D.sync f).2) := by
  obtain ⟨lab, h⟩ := h
  obtain ⟨R, ⟨L, g⟩, hs, hg⟩ := h.at_ i _ hi
  exact (rsync_any g (hs.inn hg.inn hg.few) f hf).mono fun e w' p => rd_step h (by rw [(sim_sync hs hg f).1]) (sim_sync hs hg f).2 (good_sync hg f) p
theorem or_write (h : OMem w0 w os) (hi : os[i]? = some (.rdisk r D)) (f a : Int) (s : List UInt8) (hf : I64 f) (ha : I64 a) (hs : s.length ≤ 140737488355327) :
    Calls Tryz.prog 43 #[.pointer (some ⟨r, 0, none⟩), .int .i64 f, .int .i64 a, .string (bs s)] w (RdPost w0 os i r (.int .i64 (D.write f a s).1) (D.write f a s).2) := by
  obtain ⟨lab, h⟩ := h
  obtain ⟨R, ⟨L, g⟩, hm, hg⟩ := h.at_ i _ hi
  exact (rwrite_any g (hm.inn hg.inn hg.few) f a s hf ha hs).mono fun e w' p => rd_step h (by rw [(sim_write hm f a s).1]) (sim_write hm f a s).2 (good_write hg f a s) p
theorem or_truncate (h : OMem w0 w os) (hi : os[i]? = some (.rdisk r D)) (f n : Int) (hf : I64 f) :
    Calls Tryz.prog 39 #[.pointer (some ⟨r, 0, none⟩), .int .i64 f, .int .i64 n] w (RdPost w0 os i r (.int .i64 (D.truncate f n).1) (D.truncate f n).2) := by
  obtain ⟨lab, h⟩ := h
  obtain ⟨R, ⟨L, g⟩, hm, hg⟩ := h.at_ i _ hi
  exact (rtruncate_any g (hm.inn hg.inn hg.few) f n hf).mono fun e w' p => rd_step h (by rw [(sim_truncate hm hg f n).1]) (sim_truncate hm hg f n).2 (good_truncate hg f n) p
theorem or_start (h : OMem w0 w os) (hi : os[i]? = some (.rdisk r D)) : Calls Tryz.prog 23 #[.pointer (some ⟨r, 0, none⟩)] w (RdPost w0 os i r (.tuple #[]) D.start) := by
  obtain ⟨lab, h⟩ := h
  obtain ⟨R, ⟨L, g⟩, hm, hg⟩ := h.at_ i _ hi
  exact (rstart_any g).mono fun e w' p => rd_step (R' := { R with down := false }) h rfl ⟨hm.now, hm.dur, hm.queue, hm.lost, rfl, hm.armed, hm.keep⟩ (hg.of rfl rfl rfl) p
theorem or_lose (h : OMem w0 w os) (hi : os[i]? = some (.rdisk r D)) (n : Int) (hn : I64 n) : Calls Tryz.prog 17 #[.pointer (some ⟨r, 0, none⟩), .int .i64 n] w (RdPost w0 os i r (.tuple #[]) (D.lose n)) := by
  obtain ⟨lab, h⟩ := h
  obtain ⟨R, ⟨L, g⟩, hm, hg⟩ := h.at_ i _ hi
  exact (rlose_any g n hn).mono fun e w' p => rd_step (R' := { R with lost := n.toNat }) h rfl ⟨hm.now, hm.dur, hm.queue, rfl, hm.down, hm.armed, hm.keep⟩ (hg.of rfl rfl rfl) p
theorem or_arm (h : OMem w0 w os) (hi : os[i]? = some (.rdisk r D)) (n : Int) (hn : I64 n) (v : Value) (ks : List Int) (hs : Nums w0 w v ks) (hl : ks.length ≤ 1000000) :
    Calls Tryz.prog 19 #[.pointer (some ⟨r, 0, none⟩), .int .i64 n, v] w (RdPost w0 os i r (.tuple #[]) (D.arm n ks)) := by
  obtain ⟨lab, h⟩ := h
  obtain ⟨R, ⟨L, g⟩, hm, hg⟩ := h.at_ i _ hi
  exact (rarm_any g n hn v ks ⟨hs.1, .inr fun ad n c hv hn => .inl (by rw [h.und.labs _ (hs.2.2 ad n c hv hn)]; omega)⟩ hs.2.1 hl).mono fun e w' p => rd_step (R' := R.arm n ks) h rfl ⟨hm.now, hm.dur, hm.queue, hm.lost, hm.down, rfl, fun _ => rfl⟩ (hg.of rfl rfl rfl) p
theorem or_crash (h : OMem w0 w os) (hi : os[i]? = some (.rdisk r D)) (v : Value) (ks : List Int) (hs : Nums w0 w v ks) (hl : ks.length ≤ 140737488355327) :
    Calls Tryz.prog 21 #[.pointer (some ⟨r, 0, none⟩), v] w (RdPost w0 os i r (.tuple #[]) (D.crash ks)) := by
  obtain ⟨lab, h⟩ := h
  obtain ⟨R, ⟨L, g⟩, hm, hg⟩ := h.at_ i _ hi
  exact (rcrash_any g v ks ⟨hs.1, .inr fun ad n c hv hn => .inl (by rw [h.und.labs _ (hs.2.2 ad n c hv hn)]; omega)⟩ hl (hm.inn hg.inn hg.few)).mono fun e w' p => rd_step h rfl (sim_crash hm ks) (good_crash hg ks) p
theorem or_size (h : OMem w0 w os) (hi : os[i]? = some (.rdisk r D)) (f : Int) (hf : I64 f) : Calls Tryz.prog 29 #[.pointer (some ⟨r, 0, none⟩), .int .i64 f] w fun e w' => e = .returned (.int .i64 (D.size f : Int)) ∧ OMem w0 w' os := by
  have hm0 := h
  obtain ⟨lab, h⟩ := h
  obtain ⟨R, ⟨L, g⟩, hm, hg⟩ := h.at_ i _ hi
  exact (rsize_any g f hf).mono fun e w' ⟨he, hb⟩ => ⟨by rw [he, sim_size hm g.ok f], hm0.fresh hb⟩
theorem or_read (h : OMem w0 w os) (hi : os[i]? = some (.rdisk r D)) (f a n : Int) (hf : I64 f) : Calls Tryz.prog 28 #[.pointer (some ⟨r, 0, none⟩), .int .i64 f, .int .i64 a, .int .i64 n] w fun e w' => e = .returned (.tuple #[.string (bs (D.read f a n).1), .int .i64 (D.read f a n).2]) ∧ OMem w0 w' os := by
  have hm0 := h
  obtain ⟨lab, h⟩ := h
  obtain ⟨R, ⟨L, g⟩, hm, hg⟩ := h.at_ i _ hi
  exact (rread_any g f a n hf).mono fun e w' ⟨he, hb⟩ => ⟨by rw [he, sim_read hm f a n], hm0.fresh hb⟩
end
end Go.Proofs.YtjbcgahdiolhhaaGreatDoor.D2
namespace Go.Proofs.YtjbcgahdiolhhaaGreatDoor.D2
open Go.RowKit Go.Maps Go.ChangeMaps Go.MapKept
open Dp Jp
attribute [local go_sem ↓] Go.wp_at_zero Go.wp_at_succ

section
variable {w0 w w1 w' : World} {lab : Nat → Nat} {os : List Ob} {i k id b d : Nat} {D : Dk} {J : Jn} {v : Value}
theorem KnIn.c (h : KnIn w lab id b d J v) (i : Nat) : w.cell? ⟨b, i, none⟩ = (#[.pointer (some ⟨d, 0, none⟩), .int .i64 J.file, v, .bool J.bad] : Array Value)[i]? := by
  rw [Lib.cell_of_heap h.blk]
theorem KnIn.fz (h : KnIn w lab id b d J v) (i : Nat) : w.frozen? ⟨b, i, none⟩ = false := Lib.frozen_of_heap h.blk i
/-- What a walk reads of a journal of the reference. -/
structure KnC (w : World) (b d : Nat) (J : Jn) (v : Value) : Prop where
  c0 : w.cell? ⟨b, 0, none⟩ = some (.pointer (some ⟨d, 0, none⟩))
  c1 : w.cell? ⟨b, 1, none⟩ = some (.int .i64 J.file)
  c2 : w.cell? ⟨b, 2, none⟩ = some v
  c3 : w.cell? ⟨b, 3, none⟩ = some (.bool J.bad)
  f : ∀ i, w.frozen? ⟨b, i, none⟩ = false
  row : w.ownsRow 0 9 1 v J.l.length (strVs J.l)
  file : I64 J.file
  blk : w.heap[b]? = some (.cells #[.pointer (some ⟨d, 0, none⟩), .int .i64 J.file, v, .bool J.bad] 49 (0, 0))
theorem KnIn.cells (h : KnIn w lab id b d J v) : KnC w b d J v := ⟨h.c 0, h.c 1, h.c 2, h.c 3, h.fz, h.row, h.file, h.blk⟩
theorem KnC.fresh {w' : World} (h : KnC w b d J v) (hb : Below w.heap.size w w') : KnC w' b d J v := by
  have hq := (hb.block b (lt_heap h.blk)).trans h.blk
  exact ⟨by rw [Lib.cell_of_heap hq]; rfl, by rw [Lib.cell_of_heap hq]; rfl, by rw [Lib.cell_of_heap hq]; rfl, by rw [Lib.cell_of_heap hq]; rfl, fun i => Lib.frozen_of_heap hq i, ownsRow_block h.row fun k hk => hb.block k (h.row.lt k hk).2, h.file, hq⟩
theorem OMem.rjour (h : OMem w0 w os) (hk : os[k]? = some (.rjour b d J)) : ∃ v, KnC w b d J v := by
  obtain ⟨lab, h⟩ := h
  obtain ⟨v, hv⟩ := h.at_ k _ hk
  exact ⟨v, hv.cells⟩
theorem OMem.rtwo (h : OMem w0 w os) (hk : os[k]? = some (.rjour b d J)) : w.cell? ⟨b, 0, none⟩ = some (.pointer (some ⟨d, 0, none⟩)) ∧ w.cell? ⟨b, 1, none⟩ = some (.int .i64 J.file) := by
  obtain ⟨v, hc⟩ := h.rjour hk
  exact ⟨hc.c0, hc.c1⟩
theorem KnC.texts (h : KnC w b d J v) : TextsAt w v J.l := by
  have h1 := h.row
  obtain ⟨a, cap, e1, e2⟩ := listFrom_own (lo := 0) (f := fun z : List UInt8 => Value.string (bs z)) h1
  refine ⟨a, cap, e1, ?_⟩
  rcases e2 with h2 | ⟨b, h3, _, h5, h6⟩
  · exact .inl h2
  · exact .inr ⟨b, 0, h3, h5, fun k hk => by rw [Nat.zero_add, List.getD_eq_getElem?_getD, List.getElem?_eq_getElem hk]; exact h6 k _ (List.getElem?_eq_getElem hk)⟩
theorem OMem.rjbad (h : OMem w0 w os) (hk : os[k]? = some (.rjour b d J)) (x : Bool) (hp : Hp (w.setCell ⟨b, 3, none⟩ (.bool x)) w') : OMem w0 w' (os.set k (.rjour b d { J with bad := x })) := by
  obtain ⟨lab, h⟩ := h
  obtain ⟨v, hv⟩ := h.at_ k _ hk
  have hne : ∀ j, v.ownBlock = some j → j ≠ b := fun j hj e => by have h1 := hv.lr j hj; have h2 := hv.lb; rw [e] at h1; omega
  have lo : LabOk lab w' := fun y hy => h.lo y (by rw [hp.heap, set_size] at hy; exact hy)
  refine ⟨lab, h.set ⟨v, ?_, ?_, hv.lb, hv.lr, hv.file⟩ lo (kept_set (id := 64 * (k + 1)) h.lo hv.lb hp |>.chg (by omega) (by omega))⟩
  · rw [hp.heap, set_heap hv.blk]; rfl
  · exact own_set (w1 := w) (w' := w') hv.row (fun e => hne _ e rfl) hp
/-- A new list is stored. -/
theorem OMem.rjset (h : OMem w0 w os) (hk : os[k]? = some (.rjour b d J)) (hb : Below w.heap.size w w1) {v' : Value} {l : List (List UInt8)} (o : w1.ownsRow 0 9 1 v' l.length (strVs l)) (hn : ∀ j, v'.ownBlock = some j → w.heap.size ≤ j)
    (hp : Hp (w1.setCell ⟨b, 2, none⟩ v') w') : OMem w0 w' (os.set k (.rjour b d { J with l := l })) := by
  obtain ⟨lab, h⟩ := h
  obtain ⟨u, hv⟩ := h.at_ k _ hk
  have hbl := lt_heap hv.blk
  have hs1 := hb.size
  have hs2 : w'.heap.size = w1.heap.size := by rw [hp.heap, set_size]
  have hb1 : w1.heap[b]? = _ := (hb.block b hbl).trans hv.blk
  have hne' : ∀ j, v'.ownBlock = some j → j ≠ b := fun j hj e => by have := hn j hj; omega
  have lo : LabOk (relab lab w v' (64 * (k + 1))) w' := fun y hy => by
    unfold relab
    rw [if_neg (by omega), if_neg (fun q => by have := (o.lt y q).2; omega)]
  refine ⟨relab lab w v' (64 * (k + 1)), h.set ⟨v', ?_, ?_, ?_, fun j hj => ?_, hv.file⟩ lo ⟨?_, ?_, ?_, by omega, fun x hx => by simp [relab, hx], fun x hx hl => ?_, fun x hx => ?_⟩⟩
  · rw [hp.heap, set_heap hb1]; rfl
  · exact hp.own (ownsRow_block o fun j hj => by rw [set_other (hne' j hj)])
  · unfold relab; rw [if_pos hbl]; exact hv.lb
  · unfold relab
    rw [if_neg (by have := hn j hj; omega), if_pos hj]
  · exact hp.os.trans hb.os
  · exact hp.tape.trans hb.tape
  · exact hp.output.trans hb.output
  · have hxb : x ≠ b := fun e => by have := hv.lb; rw [e] at hl; omega
    rw [hp.heap, set_other hxb]
    exact hb.block x hx
  · unfold relab
    rw [if_neg (by omega)]
    split
    · exact .inr ⟨by omega, by omega⟩
    · exact .inl rfl
/-- A slice becomes the list of a journal in a new block. -/
theorem OMem.toRjour (h : OMem w0 w os) {l : List (List UInt8)} (hi : os[i]? = some (.own 9 v (strVs l))) (hb : Below w.heap.size w w') (hn : w.heap.size ≤ b) (f : Int) (bad : Bool)
    (blk : w'.heap[b]? = some (.cells #[.pointer (some ⟨d, 0, none⟩), .int .i64 f, v, .bool bad] 49 (0, 0))) (hf : I64 f) : OMem w0 w' (os.set i (.rjour b d ⟨f, l, bad⟩)) := by
  obtain ⟨lab, h⟩ := h
  have hv := h.at_ i _ hi
  have hbl := lt_heap blk
  refine ⟨fun x => if x = b then 64 * (i + 1) + 1 else lab x, h.set ⟨v, blk, ?_, if_pos rfl, fun j hj => ?_, hf⟩ (fun x hx => ?_) ⟨hb.os, hb.tape, hb.output, hb.size, fun x hx => if_neg (by omega), fun x hx _ => hb.block x hx, fun x hx => ?_⟩⟩
  · have := hv.1
    rw [strVs_length] at this
    exact ownsRow_block this fun j hj => hb.block j (this.lt j hj).2
  · have := (hv.1.lt j hj).2
    show (if j = b then _ else _) = _
    rw [if_neg (by omega)]
    exact hv.2 j hj
  · have := hb.size
    show (if x = b then _ else _) = _
    rw [if_neg (by omega)]
    exact h.lo x (by omega)
  · by_cases hx2 : x = b
    · right; simp only [if_pos hx2]; omega
    · left; simp only [if_neg hx2]; exact h.lo x hx
theorem OMem.rmade {l : List (List UInt8)} (h : OMem w0 w (os ++ [.own 9 v (strVs l)])) (f : Int) (hf : I64 f) (d : Nat) :
    OMem w0 (w.alloc (.cells #[.pointer (some ⟨d, 0, none⟩), .int .i64 f, v, .bool false] 49)) (os ++ [.rjour w.heap.size d ⟨f, l, false⟩]) := by
  have := h.toRjour (d := d) (get_push os _) (below_alloc w _) (Nat.le_refl _) f false (MapKept.heap_alloc w _).1 hf
  rw [set_push] at this
  exact this
/-- What a method of the reference's journal at place k leaves, whose disk is at place i. -/
def KPost (w0 : World) (os : List Ob) (i k b d : Nat) (r : Int × Dk × Jn) (e : Ending) (w' : World) : Prop := e = .returned (.int .i64 r.1) ∧ OMem w0 w' ((os.set i (.rdisk d r.2.1)).set k (.rjour b d r.2.2))

set_option maxHeartbeats 1000000 in
set_option maxRecDepth 100000 in
theorem or_jsync (h : OMem w0 w os) (hi : os[i]? = some (.rdisk d D)) (hk : os[k]? = some (.rjour b d J)) (hne : i ≠ k) :
    Calls Tryz.prog 15 #[.pointer (some ⟨b, 0, none⟩)] w (KPost w0 os i k b d (jsync D J)) := by
  obtain ⟨v, hc⟩ := h.rjour hk
  have c0 := hc.c0
  have c1 := hc.c1
  have c3 := hc.c3
  have hf := hc.file
  cases hb : J.bad with
  | true =>
    rw [hb] at c3
    have HR := Lib.hid (show jsync D J = (7, D, J) by unfold jsync; rw [hb]; rfl)
    have H := Lib.hid h
    clear h hc hb
    go_enter Tryz.func15, Tryz.ntmps15
    go_wp2
    go_ret
    unfold KPost
    rw [HR.out]
    refine ⟨rfl, ?_⟩
    simp only
    rw [set_noop hi, set_noop hk]
    exact H.out
  | false =>
    rw [hb] at c3
    have HR := Lib.hid (show jsync D J = ((D.sync J.file).1, (D.sync J.file).2, { J with bad := decide ((D.sync J.file).1 ≠ 0) }) by unfold jsync; rw [hb]; rfl)
    have hX := or_sync (h.fresh (below_drew w)) hi J.file hf
    clear h hc hb
    generalize D.sync J.file = r at HR hX
    have HX := Lib.hid hX
    have HK := Lib.hid (set_get (a := Ob.rdisk d r.2) hk hne)
    have S0 : w.drew.cell? ⟨b, 0, none⟩ = some (.pointer (some ⟨d, 0, none⟩)) ∧ w.drew.cell? ⟨b, 1, none⟩ = some (.int .i64 J.file) := ⟨c0, c1⟩
    clear hX
    go_enter Tryz.func15, Tryz.ntmps15
    go_wp2
    go_region_held3 (fun w' => w'.cell? ⟨b, 0, none⟩ = some (.pointer (some ⟨d, 0, none⟩)) ∧ w'.cell? ⟨b, 1, none⟩ = some (.int .i64 J.file)) (first | exact S0 | assumption) (first | (go_at_call 36; refine HX.out.mono ?_; rintro e w2 ⟨rfl, m2⟩; have M2 := Lib.hid m2; have S2 := m2.rtwo HK.out; clear m2))
    obtain ⟨v2, hc2⟩ := M2.out.rjour HK.out
    have f3 := hc2.f 3
    have d3 := hc2.c3
    have HBD := Lib.hid (M2.out.rjbad HK.out (decide (r.1 ≠ 0)) (Hp.refl _))
    clear hc2
    by_cases h0 : r.1 = 0
    · have hd : decide (r.1 ≠ 0) = false := by simp [h0]
      rw [hd] at HBD
      have HX2 := Lib.hid hd
      clear hd
      have hz1 : (r.1 != 0) = false := by simp [h0]
      go_wp2
      go_ret
      unfold KPost
      rw [HR.out]
      refine ⟨rfl, ?_⟩
      simp only
      rw [HX2.out]
      exact HBD.out
    · have hd : decide (r.1 ≠ 0) = true := by simp [h0]
      rw [hd] at HBD
      have HX2 := Lib.hid hd
      clear hd
      have hz1 : (r.1 != 0) = true := by simp [h0]
      go_wp2
      go_ret
      unfold KPost
      rw [HR.out]
      refine ⟨rfl, ?_⟩
      simp only
      rw [HX2.out]
      exact HBD.out
end
end Go.Proofs.YtjbcgahdiolhhaaGreatDoor.D2
namespace Go.Proofs.YtjbcgahdiolhhaaGreatDoor.D2
open Go.RowKit Go.Maps Go.ChangeMaps Go.MapKept
open Dp Jp
attribute [local go_sem ↓] Go.wp_at_zero Go.wp_at_succ

theorem wpList_append_run_g {P : Program} {ops : Array Oper} {rest : List Oper} {o : Oper} {a : Act} {w : World} {Q : Exit → Act → World → Prop} (hw : Region.wanted o (yielded ops a.tmps) = true) (s x : Operand) (t tn : TypeId) (ho : o.op = .call { callee := .builtin .append, args := #[s, x], argTypes := #[t, tn] }) (vs vx : Value) (hs : a.eval s = vs) (hx : a.eval x = vx)
    (v' : Value) (w' : World) (hr : (Builtin.append_ #[t, tn] o.type #[vs, vx]).run P w = .ok v' w') (h : wpList P ops Q rest (a.put o.dst v') w') : wpList P ops Q (o :: rest) a w :=
  wpList_step fun K hK => by rw [if_pos hw]; exact Lib.wp_append_run w s x t tn ho vs vx hs hx v' w' hr (hK _ _ h)
/-- append of what another slice of strings holds. -/
theorem run_append_strs (w : World) (v u : Value) (n : Nat) (xs : List Value) (l : List (List UInt8)) (hv : w.ownsRow 0 9 1 v n xs) (hu : w.ownsRow 0 9 1 u l.length (strVs l)) (hn : n + l.length ≤ 100000000) :
    ∃ v' w', (Builtin.append_ #[46, 46] 46 #[v, u]).run Tryz.prog w = .ok v' w' ∧ w'.ownsRow 0 9 1 v' (n + l.length) (xs ++ strVs l) ∧ w.grownBy w' v.ownBlock ∧ (v'.ownBlock = v.ownBlock ∨ ∀ k, v'.ownBlock = some k → w.heap.size ≤ k) := by
  obtain ⟨i0, hi, hz0, hz1, hz2⟩ := info_parts string_info
  rcases hu.2 with ⟨rfl, h0⟩ | ⟨g, cap, cur, hv', _⟩
  · obtain rfl : l = [] := List.eq_nil_of_length_eq_zero h0
    obtain ⟨a, c, rfl⟩ := own_form hv
    have hnc : n ≤ c := by
      rcases hv.2 with ⟨h1, h2⟩ | ⟨g, cap, cur, h1, _, _, h4, _⟩
      · omega
      · cases h1; exact h4
    refine ⟨_, w, run_append_nothing w _ _ _ _ i0 Tryz.underlying46 hi a n c hnc _ (Src.ofNil (w := w) Tryz.underlying46 0), by simpa [strVs] using hv, ⟨rfl, rfl, rfl, Nat.le_refl _, fun _ _ _ => rfl⟩, .inl rfl⟩
  · subst hv'
    obtain ⟨v', w', h1, h2, h3, _, h5⟩ := run_append_own_at (P := Tryz.prog) w 0 46 46 9 i0 (.string ⟨#[]⟩) 1 16 Tryz.underlying46 hi hz0 hz1 hz2 rfl (by decide) v n xs hv ⟨g, 0, none⟩ l.length cap (strVs l) (by rw [strVs_length]; omega) (fun j u hj => hu.cells (g := g) rfl j u hj) (oneCell_strs l) (by unfold maxLen; omega) (by omega) (Nat.zero_le _)
    exact ⟨v', w', h1, h2, h3, h5.imp id fun h k hk => by rw [h] at hk; cases hk; exact Nat.le_refl _⟩
/-- Onto an empty list that has been made. -/
theorem app1 {w7 w' : World} {e : Nat} {va : Value} {all : List (List UInt8)} (hb : Below w7.heap.size w7 w') (hE : w'.ownsRow 0 9 1 (.slice (some ⟨e, 0, none⟩) 0 0) 0 []) (he : w7.heap.size ≤ e) (hall : w7.ownsRow 0 9 1 va all.length (strVs all)) (hl : all.length ≤ 100000) :
    ∃ v1 wb, (Builtin.append_ #[46, 46] 46 #[.slice (some ⟨e, 0, none⟩) 0 0, va]).run Tryz.prog w' = .ok v1 wb ∧ wb.ownsRow 0 9 1 v1 all.length (strVs all) ∧ (∀ k, v1.ownBlock = some k → w7.heap.size ≤ k) ∧ Below w7.heap.size w7 wb ∧
      (∀ q, q < w'.heap.size → q ≠ e → wb.heap[q]? = w'.heap[q]?) ∧ w'.heap.size ≤ wb.heap.size := by
  obtain ⟨v1, wb, h1, h2, h3, h4⟩ := run_append_strs w' _ va 0 [] all hE (ownsRow_block (w' := w') hall fun k hk => hb.block k (hall.lt k hk).2) (by omega)
  rw [Nat.zero_add, List.nil_append] at h2
  refine ⟨v1, wb, h1, h2, fun k hk => ?_, hb.grown h3 hb.size (fun k hk => by cases hk; exact he), fun q hq hne => h3.block q hq (fun c => hne (by cases c; rfl)), h3.size⟩
  rcases h4 with h4 | h4
  · rw [h4] at hk; cases hk; exact he
  · have := h4 k hk; have := hb.size; omega
/-- One string more. -/
theorem app2 {w7 w' : World} {q : Nat} {v1 : Value} {s : List UInt8} {all : List (List UInt8)} (hb : Below w7.heap.size w7 w') (ho : w'.ownsRow 0 9 1 v1 all.length (strVs all)) (hf : ∀ k, v1.ownBlock = some k → w7.heap.size ≤ k) (hq : w'.cell? ⟨q, 0, none⟩ = some (.string (bs s))) (hl : all.length ≤ 100000) :
    ∃ v2 wc, (Builtin.append_ #[46, 46] 46 #[v1, .slice (some ⟨q, 0, none⟩) 1 1]).run Tryz.prog w' = .ok v2 wc ∧ wc.ownsRow 0 9 1 v2 (strVs (all ++ [s])).length (strVs (all ++ [s])) ∧ (∀ k, v2.ownBlock = some k → w7.heap.size ≤ k) ∧ Below w7.heap.size w7 wc := by
  obtain ⟨i0, hi, hz0, hz1, hz2⟩ := info_parts string_info
  obtain ⟨v', w2, h1, h2, h3, _, h5⟩ := run_append_own_at (P := Tryz.prog) w' 0 46 46 9 i0 (.string ⟨#[]⟩) 1 16 Tryz.underlying46 hi hz0 hz1 hz2 rfl (by decide) v1 all.length _ ho ⟨q, 0, none⟩ 1 1 [.string (bs s)] rfl (fun j u hj => by
    match j, hj with
    | 0, hj => simp at hj; subst hj; rw [Lib.add_plain]; exact hq) (fun u hu => by simp at hu; subst hu; rfl) (by unfold maxLen; omega) (by omega) (Nat.zero_le _)
  refine ⟨v', w2, h1, by simpa [strVs] using h2, fun k hk => ?_, hb.grown h3 hb.size hf⟩
  rcases h5 with h5 | h5
  · exact hf k (h5.symm.trans hk)
  · have := h5.symm.trans hk; cases this; exact hb.size

section
variable {w0 w w1 w' : World} {os : List Ob} {i k b d : Nat} {D : Dk} {J : Jn}
set_option maxHeartbeats 1000000 in
set_option maxRecDepth 100000 in
theorem rappend_refused (h : OMem w0 w os) (hi : os[i]? = some (.rdisk d D)) (hk : os[k]? = some (.rjour b d J)) (s : List UInt8) (hsm : ∀ r ∈ J.l, r.length ≤ 100000) (hfz : (forms J.l).length ≤ 16777216) (hx : J.bad = true ∨ 20000 < s.length ∨ 1048576 < (forms J.l).length + (form s).length) :
    Calls Tryz.prog 13 #[.pointer (some ⟨b, 0, none⟩), .string (bs s)] w (KPost w0 os i k b d (jappend D J s)) := by
  obtain ⟨v, hc⟩ := h.rjour hk
  have c3 := hc.c3
  have c2 := hc.c2
  have ht := hc.texts
  have hsz := bs_size s
  have H := Lib.hid h
  clear hc h
  cases hb : J.bad with
  | true =>
    rw [hb] at c3
    have HR := Lib.hid (show jappend D J s = (7, D, J) by unfold jappend; rw [hb]; rfl)
    clear hb hx hsz ht
    go_enter Tryz.func13, Tryz.ntmps13
    go_wp2
    go_ret
    unfold KPost
    rw [HR.out]
    exact ⟨rfl, by simp only; rw [set_noop hi, set_noop hk]; exact H.out⟩
  | false =>
    rw [hb] at c3
    by_cases hl : 20000 < s.length
    · have HR := Lib.hid (show jappend D J s = (3, D, J) by unfold jappend; rw [hb, if_neg (by simp), if_pos hl])
      have hl2 : 20000 < (bs s).size := by omega
      clear hb hx hsz hl ht
      go_enter Tryz.func13, Tryz.ntmps13
      go_wp2
      go_ret
      unfold KPost
      rw [HR.out]
      exact ⟨rfl, by simp only; rw [set_noop hi, set_noop hk]; exact H.out⟩
    · have hf : 1048576 < (forms J.l).length + (form s).length := by
        rcases hx with h | h | h
        · rw [hb] at h; cases h
        · exact absurd h hl
        · exact h
      have HR := Lib.hid (show jappend D J s = (6, D, J) by unfold jappend; rw [hb, if_neg (by simp), if_neg hl, if_pos hf])
      have hl2 : (bs s).size ≤ 20000 := by omega
      have hfl := form_len s (by omega)
      have hq := bs_size (form s)
      have hq2 := bs_size (forms J.l)
      have hf2 : 1048576 < ((bs (forms J.l)).size : Int) + ((bs (form s)).size : Int) := by omega
      have hf3 : (bs (form s)).size ≤ 20060 := by omega
      have hf4 : (bs (forms J.l)).size ≤ 16777216 := by omega
      have HF := Lib.hid (rform_any s (by omega))
      have HFS := Lib.hid (rforms_any v J.l hsm hfz w ht)
      clear hb hx hsz hl hf hq hfl hq2 ht
      go_enter Tryz.func13, Tryz.ntmps13
      go_wp2_with (go_at_call 38; refine HFS.out.mono ?_; rintro e w1 ⟨rfl, b1⟩; refine Hid.out ?_)
      refine Lib.hid ?_
      have M1 := Lib.hid (H.out.fresh b1)
      clear b1 c3 c2
      go_wp2_with (go_at_call 42; refine (HF.out _).mono ?_; rintro e w2 ⟨rfl, b2⟩; have M2 := Lib.hid (M1.out.fresh b2); clear b2)
      go_ret
      unfold KPost
      rw [HR.out]
      exact ⟨rfl, by simp only; rw [set_noop hi, set_noop hk]; exact M2.out⟩
set_option maxHeartbeats 4000000 in
set_option maxRecDepth 100000 in
theorem rappend_tried (h : OMem w0 w os) (hi : os[i]? = some (.rdisk d D)) (hk : os[k]? = some (.rjour b d J)) (hne : i ≠ k) (s : List UInt8) (hsm : ∀ r ∈ J.l, r.length ≤ 100000) (hb : J.bad = false) (hs : s.length ≤ 20000) (hf : (forms J.l).length + (form s).length ≤ 1048576) (hlen : J.l.length ≤ 100000) :
    Calls Tryz.prog 13 #[.pointer (some ⟨b, 0, none⟩), .string (bs s)] w (KPost w0 os i k b d (jappend D J s)) := by
  obtain ⟨v, hc⟩ := h.rjour hk
  have c3 := hc.c3
  have c2 := hc.c2
  have ht := hc.texts
  have hjf := hc.file
  have hsz := bs_size s
  have H := Lib.hid h
  clear hc h
  rw [hb] at c3
  have HR := Lib.hid (show jappend D J s = if (D.write J.file ((forms J.l).length : Int) (form s)).1 ≠ 0 then ((D.write J.file ((forms J.l).length : Int) (form s)).1, (D.write J.file ((forms J.l).length : Int) (form s)).2, { J with bad := true }) else (0, (D.write J.file ((forms J.l).length : Int) (form s)).2, { J with l := J.l ++ [s] }) by
    unfold jappend; rw [hb, if_neg (by simp), if_neg (by omega), if_neg (by omega)])
  have hl2 : (bs s).size ≤ 20000 := by omega
  have hfl := form_len s (by omega)
  have hq := bs_size (form s)
  have hq2 := bs_size (forms J.l)
  have hf2 : ¬ 1048576 < ((bs (forms J.l)).size : Int) + ((bs (form s)).size : Int) := by omega
  have hf3 : (bs (form s)).size ≤ 20060 := by omega
  have hf4 : (bs (forms J.l)).size ≤ 1048576 := by omega
  have HB := Lib.hid hb
  have HF := Lib.hid (rform_any s (by omega))
  have HFS := Lib.hid (rforms_any v J.l hsm (by omega) w ht)
  rw [← hq2] at HR
  have HX := Lib.hid (fun w1 (m : OMem w0 w1 os) => or_write m hi J.file ((bs (forms J.l)).size : Int) (form s) hjf ⟨by omega, by omega⟩ (by omega))
  generalize D.write J.file ((bs (forms J.l)).size : Int) (form s) = r at HR HX
  have HK := Lib.hid (set_get (a := Ob.rdisk d r.2) hk hne)
  clear hb hsz hq hfl hf hq2 ht hs
  go_enter Tryz.func13, Tryz.ntmps13
  go_wp2_with (go_at_call 38; refine HFS.out.mono ?_; rintro e w1 ⟨rfl, b1⟩; refine Hid.out ?_)
  refine Lib.hid ?_
  have M1 := Lib.hid (H.out.fresh b1)
  clear b1 c3 c2
  go_wp2_with (go_at_call 42; refine (HF.out _).mono ?_; rintro e w2 ⟨rfl, b2⟩; refine Hid.out ?_)
  refine Lib.hid ?_
  have m2 := M1.out.fresh b2
  have S0 : w2.drew.cell? ⟨b, 0, none⟩ = some (.pointer (some ⟨d, 0, none⟩)) ∧ w2.drew.cell? ⟨b, 1, none⟩ = some (.int .i64 J.file) := m2.rtwo hk
  have M3 := Lib.hid (m2.fresh (below_drew w2))
  clear b2 m2 M1
  go_wp2
  go_region_held3 (fun w' => w'.cell? ⟨b, 0, none⟩ = some (.pointer (some ⟨d, 0, none⟩)) ∧ w'.cell? ⟨b, 1, none⟩ = some (.int .i64 J.file)) (first | exact S0 | assumption) (first | (go_at_call 42; refine (HF.out _).mono ?_; rintro e w4 ⟨rfl, b4⟩; have M4 := Lib.hid (M3.out.fresh b4); have S4 := M4.out.rtwo hk; clear b4) | (go_at_call 43; refine (HX.out _ M4.out).mono ?_; rintro e w5 ⟨rfl, m5⟩; have M5 := Lib.hid m5; have S5 := m5.rtwo HK.out; clear m5))
  obtain ⟨v5, hc5⟩ := M5.out.rjour HK.out
  have d3 := hc5.c3
  have f3 := hc5.f 3
  have d2 := hc5.c2
  rw [HB.out] at d3
  have HC := Lib.hid hc5
  have hrow := hc5.row
  clear hc5 M4 S4 S5
  by_cases h0 : r.1 = 0
  · obtain ⟨vA, wA, rA, oA, fA, bA, kA, zA⟩ := app1 (w7 := w5) (w' := w5.alloc (.cells #[] 9)) (e := w5.heap.size) (below_alloc w5 _) (World.ownsRow_made w5 #[] 0 (Nat.zero_le _) (by unfold maxLen; omega) (by simp)) (Nat.le_refl _) hrow (by omega)
    obtain ⟨vB, wB, rB, oB, fB, bB⟩ := app2 (s := s) (w' := wA.alloc (.cells #[.string (bs s)] 9)) (q := wA.heap.size) (bA.alloc bA.size _) (oA.alloc _) fA (by rw [alloc_new_cell]; rfl) (by omega)
    rw [strVs_length] at oB
    obtain ⟨va, vc, rfl⟩ := own_form oB
    have e2 := below_cell d2 (below_alloc w5 (.cells #[] 9))
    have hcB := HC.out.fresh bB
    have d2B := hcB.c2
    have f2B := hcB.f 2
    have HRA := Lib.hid rA
    have HRB := Lib.hid rB
    have HBB := Lib.hid bB
    have HOB := Lib.hid (And.intro oB fB)
    clear rA rB oA fA bA kA zA oB fB bB hcB hrow d3 f3
    go_wp2_with (at_builtin; refine Hid.out ?_)
    refine Lib.hid ?_
    refine wpList_append_run_g (by rfl) _ _ _ _ rfl _ _ rfl rfl _ _ HRA.out ?_
    go_wp2_with (at_builtin; refine Hid.out ?_)
    refine Lib.hid ?_
    refine wpList_append_run_g (by rfl) _ _ _ _ rfl _ _ rfl rfl _ _ HRB.out ?_
    go_wp2
    go_ret
    unfold KPost
    rw [HR.out, if_neg (by simpa using h0)]
    refine ⟨rfl, ?_⟩
    exact M5.out.rjset HK.out HBB.out HOB.out.1 HOB.out.2 (by rw [List.length_append]; exact Hp.refl _)
  · have HBD := Lib.hid (M5.out.rjbad HK.out true (Hp.refl _))
    clear hrow d2
    go_wp2
    go_ret
    unfold KPost
    rw [HR.out, if_pos h0]
    refine ⟨rfl, ?_⟩
    exact HBD.out
theorem or_append (h : OMem w0 w os) (hi : os[i]? = some (.rdisk d D)) (hk : os[k]? = some (.rjour b d J)) (hne : i ≠ k) (s : List UInt8) (hsm : ∀ r ∈ J.l, r.length ≤ 100000) (hfz : (forms J.l).length ≤ 100000) :
    Calls Tryz.prog 13 #[.pointer (some ⟨b, 0, none⟩), .string (bs s)] w (KPost w0 os i k b d (jappend D J s)) := by
  by_cases hx : J.bad = true ∨ 20000 < s.length ∨ 1048576 < (forms J.l).length + (form s).length
  · exact rappend_refused h hi hk s hsm (by omega) hx
  · have h1 : J.bad = false := by cases hb : J.bad <;> simp_all
    exact rappend_tried h hi hk hne s hsm h1 (by omega) (by omega) (by have := forms_count J.l; omega)
end
end Go.Proofs.YtjbcgahdiolhhaaGreatDoor.D2
namespace Go.Proofs.YtjbcgahdiolhhaaGreatDoor.D2
open Go.RowKit Go.Maps Go.ChangeMaps Go.MapKept
open Dp Jp
attribute [local go_sem ↓] Go.wp_at_zero Go.wp_at_succ

section
variable {w0 w : World} {os : List Ob} {i d : Nat} {D : Dk} {v : Value} {l : List (List UInt8)}
/-- What Open leaves of the reference's disk at place i. -/
def KOpenPost (w0 : World) (os : List Ob) (i d : Nat) (f : Int) (r : Option (List (List UInt8)) × Int × Dk) (e : Ending) (w' : World) : Prop :=
  (r.1 = none ∧ e = .returned (.tuple #[.pointer none, .int .i64 r.2.1]) ∧ OMem w0 w' (os.set i (.rdisk d r.2.2))) ∨
  ∃ l b, r.1 = some l ∧ e = .returned (.tuple #[.pointer (some ⟨b, 0, none⟩), .int .i64 r.2.1]) ∧ OMem w0 w' (os.set i (.rdisk d r.2.2) ++ [.rjour b d ⟨f, l, false⟩])
set_option maxHeartbeats 4000000 in
set_option maxRecDepth 100000 in
theorem or_open (h : OMem w0 w os) (hi : os[i]? = some (.rdisk d D)) (f : Int) (hf : I64 f) (hnow : (D.now f.toNat).length ≤ 100000) :
    Calls Tryz.prog 9 #[.pointer (some ⟨d, 0, none⟩), .int .i64 f] w (KOpenPost w0 os i d f (jopen D f)) := by
  have hlt := (List.getElem?_eq_some_iff.1 hi).1
  cases hb : isFile f with
  | false =>
    have HR := Lib.hid (show jopen D f = (none, 1, D) by unfold jopen; rw [if_pos hb])
    have H := Lib.hid h
    have h2 : f < 0 ∨ (0 ≤ f ∧ 15 < f) := by unfold isFile at hb; rw [decide_eq_false_iff_not] at hb; omega
    clear hb h
    rcases h2 with h2 | ⟨h2, h3⟩
    all_goals
      go_enter Tryz.func9, Tryz.ntmps9
      go_wp2
      go_ret2
      unfold KOpenPost
      rw [HR.out]
      exact .inl ⟨rfl, rfl, by simp only; rw [set_noop hi]; exact H.out⟩
  | true =>
    have h2 : 0 ≤ f ∧ f < 16 := by unfold isFile at hb; rw [decide_eq_true_iff] at hb; exact hb
    have h3 := h2.1
    have h4 : f ≤ 15 := by omega
    have HX := Lib.hid (or_sync h hi f hf)
    have HJ : Hid (jopen D f = if (D.sync f).1 ≠ 0 then (none, (D.sync f).1, (D.sync f).2)
      else if (forms (recs (D.now f.toNat))).length < (D.now f.toNat).length then
        if ((D.sync f).2.truncate f ((forms (recs (D.now f.toNat))).length : Int)).1 ≠ 0 then (none, ((D.sync f).2.truncate f ((forms (recs (D.now f.toNat))).length : Int)).1, ((D.sync f).2.truncate f ((forms (recs (D.now f.toNat))).length : Int)).2)
        else (some (recs (D.now f.toNat)), 0, ((D.sync f).2.truncate f ((forms (recs (D.now f.toNat))).length : Int)).2)
      else (some (recs (D.now f.toNat)), 0, (D.sync f).2)) := Lib.hid (by unfold jopen; rw [hb, if_neg (by simp)])
    have HS := Lib.hid (fun e => (sync_ok (h.rgood hi) (f := f) e))
    have H := Lib.hid h
    clear h2 h
    generalize D.now f.toNat = s at HJ HS hnow
    generalize D.sync f = r at HX HJ HS
    have HI := Lib.hid (set_here (a := Ob.rdisk d r.2) hi)
    by_cases h0 : r.1 = 0
    · obtain ⟨_, hup, _, hst⟩ := HS.out h0
      have hsz : r.2.size f = s.length := by unfold Dk.size; rw [hb, if_pos rfl, hst.now]
      have hrd : r.2.read f 0 (s.length : Int) = (s, 0) := by rw [read_all hup hb (by rw [hst.now]; exact Int.le_refl _), hst.now]
      have HRD := Lib.hid hrd
      have HSZ := Lib.hid hsz
      have hbs := bs_size s
      have hbs1 : (bs s).size ≤ 100000 := by omega
      have HBS := Lib.hid hbs
      have HREC := Lib.hid (rrecords_any s hnow)
      have hpre := (recs_pre s).length_le
      have HRS := Lib.hid (fun q (hq : q ∈ recs s) => (show q.length ≤ 100000 by have := recs_size _ s (Nat.le_refl _) q hq; omega))
      have hl5 : (forms (recs s)).length ≤ 100000 := by omega
      have hbf := bs_size (forms (recs s))
      have hbf1 : (bs (forms (recs s))).size ≤ 100000 := by omega
      have HBF := Lib.hid hbf
      have HJ2 : Hid (jopen D f = if (forms (recs s)).length < s.length then
        if (r.2.truncate f ((forms (recs s)).length : Int)).1 ≠ 0 then (none, (r.2.truncate f ((forms (recs s)).length : Int)).1, (r.2.truncate f ((forms (recs s)).length : Int)).2)
        else (some (recs s), 0, (r.2.truncate f ((forms (recs s)).length : Int)).2)
      else (some (recs s), 0, r.2)) := Lib.hid (by rw [HJ.out, if_neg (by simpa using h0)])
      rw [h0] at HX
      clear hst hsz hrd hbs HJ HS h0 hbf
      go_enter Tryz.func9, Tryz.ntmps9
      go_wp2_with (go_at_call 36; refine HX.out.mono ?_; rintro e w1 ⟨rfl, m1⟩; refine Hid.out ?_)
      refine Lib.hid ?_
      have HC1 := or_size m1 HI.out f hf
      rw [HSZ.out] at HC1
      have HC1 := Lib.hid HC1
      clear m1
      go_wp2_with (go_at_call 29; refine HC1.out.mono ?_; rintro e w2 ⟨rfl, m2⟩; refine Hid.out ?_)
      refine Lib.hid ?_
      have HC2 := or_read m2 HI.out f 0 (s.length : Int) hf
      rw [HRD.out] at HC2
      have HC2 := Lib.hid HC2
      clear m2
      go_wp2_with (go_at_call 28; refine HC2.out.mono ?_; rintro e w3 ⟨rfl, m3⟩; refine Hid.out ?_)
      refine Lib.hid ?_
      have M3 := Lib.hid m3
      clear m3
      go_wp2_with (go_at_call 37; refine (HREC.out _).mono ?_; rintro e w4 ⟨v, rfl, hrow, b4⟩; refine Hid.out ?_)
      refine Lib.hid ?_
      obtain ⟨va, vc, rfl⟩ := own_form hrow
      have m4 := M3.out.row b4 (by rw [strVs_length]; exact hrow.mono (Nat.zero_le _)) (fun k hk => (hrow.lt k hk).1)
      have M4 := Lib.hid (m4.rmade f hf d)
      clear m4 hrow b4
      obtain ⟨v5, hc5⟩ := M4.out.rjour (get_push _ _)
      have e2 := hc5.c2
      have hv5 : v5 = .slice va (recs s).length vc := by
        have := alloc_new_cell w4 #[.pointer (some ⟨d, 0, none⟩), .int .i64 f, .slice va (recs s).length vc, .bool false] 49 2
        rw [e2] at this
        simpa using this
      subst hv5
      have HFS := Lib.hid (rforms_any _ (recs s) HRS.out (by omega) _ hc5.texts)
      clear hc5 e2
      go_wp2_with (go_at_call 38; refine HFS.out.mono ?_; rintro e w5 ⟨rfl, b5⟩; refine Hid.out ?_)
      refine Lib.hid ?_
      have M5 := Lib.hid (M4.out.fresh b5)
      clear b5 HFS
      have HI5 := Lib.hid (get_app HI.out (Ob.rjour w4.heap.size d ⟨f, recs s, false⟩))
      by_cases hlen : (forms (recs s)).length < s.length
      · have hl6 : ((bs (forms (recs s))).size : Int) < ((bs s).size : Int) := by rw [HBS.out, HBF.out]; omega
        have hy := or_truncate M5.out HI5.out f ((forms (recs s)).length : Int) hf
        rw [← HBF.out] at hy
        have HY := Lib.hid hy
        have hj := HJ2.out.trans (if_pos hlen)
        rw [← HBF.out] at hj
        have HJ3 := Lib.hid hj
        clear hlen HJ2 hy hj
        generalize r.2.truncate f ((bs (forms (recs s))).size : Int) = t at HY HJ3
        by_cases ht : t.1 = 0
        · have HR := Lib.hid (HJ3.out.trans (if_neg (by simpa using ht)))
          rw [ht] at HY
          clear ht
          go_wp2_with (go_at_call 39; refine HY.out.mono ?_; rintro e w6 ⟨rfl, m6⟩; have M6 := Lib.hid m6; clear m6)
          go_ret2
          unfold KOpenPost
          rw [HR.out]
          have := M6.out
          rw [set_app hlt] at this
          exact .inr ⟨_, _, rfl, rfl, this⟩
        · have HR := Lib.hid (HJ3.out.trans (if_pos ht))
          have ht1 : (t.1 != 0) = true := by simpa using ht
          go_wp2_with (go_at_call 39; refine HY.out.mono ?_; rintro e w6 ⟨rfl, m6⟩; have M6 := Lib.hid m6; clear m6)
          go_ret2
          unfold KOpenPost
          rw [HR.out]
          have := M6.out.take os.length
          rw [set_app hlt, List.take_left' (by simp)] at this
          exact .inl ⟨rfl, rfl, this⟩
      · have hl6 : ¬ ((bs (forms (recs s))).size : Int) < ((bs s).size : Int) := by rw [HBS.out, HBF.out]; omega
        have HR := Lib.hid (HJ2.out.trans (if_neg hlen))
        clear hlen
        go_wp2
        go_ret2
        unfold KOpenPost
        rw [HR.out]
        exact .inr ⟨_, _, rfl, rfl, M5.out⟩
    · have HR := Lib.hid (HJ.out.trans (if_pos h0))
      have h01 : (r.1 != 0) = true := by simpa using h0
      clear HS
      go_enter Tryz.func9, Tryz.ntmps9
      go_wp2_with (go_at_call 36; refine HX.out.mono ?_; rintro e w1 ⟨rfl, m1⟩; have M1 := Lib.hid m1; clear m1)
      go_ret2
      unfold KOpenPost
      rw [HR.out]
      exact .inl ⟨rfl, rfl, M1.out⟩
end
end Go.Proofs.YtjbcgahdiolhhaaGreatDoor.D2
namespace Go.Proofs.YtjbcgahdiolhhaaGreatDoor.D2
open Dp Jp

/-- What is known at the head of a round. -/
structure Las (n : Nat) (D : Dk) (jx : Option (Nat × Jn)) (all sure : List (List UInt8)) : Prop where
  held : Held D 3 all sure
  small : ∀ r ∈ all, r.length ≤ 200
  few : all.length ≤ n
  jour : ∀ b J, jx = some (b, J) → J.file = 3 ∧ (J.bad = false → D.down = false ∧ D.now 3 = forms all ∧ J.l = all)
theorem Las.mono {n m : Nat} {D : Dk} {jx : Option (Nat × Jn)} {all sure : List (List UInt8)} (h : Las n D jx all sure) (hm : n ≤ m) : Las m D jx all sure := ⟨h.held, h.small, by have := h.few; omega, h.jour⟩
theorem Las.big {n : Nat} {D : Dk} {jx : Option (Nat × Jn)} {all sure : List (List UInt8)} (h : Las n D jx all sure) : ∀ r ∈ all, r.length ≤ 2000 := fun r hr => by have := h.small r hr; omega
theorem Las.lose {n : Nat} {D : Dk} {jx : Option (Nat × Jn)} {all sure : List (List UInt8)} (h : Las n D jx all sure) (k : Int) : Las n (D.lose k) jx all sure := ⟨h.held.of rfl rfl rfl, h.small, h.few, h.jour⟩
theorem Las.arm {n : Nat} {D : Dk} {jx : Option (Nat × Jn)} {all sure : List (List UInt8)} (h : Las n D jx all sure) (k : Int) (ks : List Int) : Las n (D.arm k ks) jx all sure := ⟨h.held.of rfl rfl rfl, h.small, h.few, h.jour⟩
theorem Las.crash {n : Nat} {D : Dk} {jx : Option (Nat × Jn)} {all sure : List (List UInt8)} (h : Las n D jx all sure) (ks : List Int) : Las n (D.crash ks) none all sure := ⟨h.held.crash (by decide) ks, h.small, h.few, fun b J e => by cases e⟩
theorem Las.start {n : Nat} {D : Dk} {jx : Option (Nat × Jn)} {all sure : List (List UInt8)} (h : Las n D jx all sure) : Las n D.start none all sure := ⟨h.held.of rfl rfl rfl, h.small, h.few, fun b J e => by cases e⟩
theorem Las.opened {n : Nat} {D : Dk} {jx : Option (Nat × Jn)} {all sure : List (List UInt8)} (h : Las n D jx all sure) :
    (∃ e D', jopen D 3 = (none, e, D') ∧ (e = 8 ∨ e = 9) ∧ Las n D' none all sure) ∨ ∃ l D', jopen D 3 = (some l, 0, D') ∧ l <+: all ∧ sure <+: l ∧ ∀ b, Las n D' (some (b, ⟨3, l, false⟩)) l l := by
  rcases h.held.opened (by decide) h.big with ⟨h1, h2, h3⟩ | ⟨l, h1, h2, h3, h4, h5, h6, h7⟩
  · exact .inl ⟨_, _, Prod.ext h1 (Prod.ext rfl rfl), h2, ⟨h3, h.small, h.few, fun b J e => by cases e⟩⟩
  · refine .inr ⟨l, _, Prod.ext h1 (Prod.ext h2 rfl), h3, h4, fun b => ⟨Held.still h5 h6, fun r hr => h.small r (h3.subset hr), by have := h3.length_le; have := h.few; omega, fun b J e => ?_⟩⟩
    cases e
    exact ⟨rfl, fun _ => ⟨h7, h6.now, rfl⟩⟩
/-- At last: nothing is lost, and nothing goes down. -/
theorem Las.last {n : Nat} {D : Dk} {jx : Option (Nat × Jn)} {all sure : List (List UInt8)} (h : Las n D jx all sure) (ks : List Int) :
    ∃ l D', jopen (((D.lose 0).arm 0 []).crash ks).start 3 = (some l, 0, D') ∧ l <+: all ∧ sure <+: l ∧ ∀ b, Las n D' (some (b, ⟨3, l, false⟩)) l l := by
  have hq : Quiet (((D.lose 0).arm 0 []).crash ks).start := by
    refine ⟨rfl, ?_, ?_⟩
    · show (((D.lose 0).arm 0 []).crash ks).calls = 0
      unfold Dk.crash
      split <;> rfl
    · show (((D.lose 0).arm 0 []).crash ks).lost = 0
      unfold Dk.crash
      split
      · rfl
      · exact (hardens_keeps _ _).2.2.2.1
  obtain ⟨D', h1, _⟩ := open_quiet ((((h.lose 0).arm 0 []).crash ks).start.held.good) hq (f := 3) (by decide)
  rcases (((h.lose 0).arm 0 []).crash ks).start.opened with ⟨e, D2, p, _, _⟩ | h2
  · have h1' : jopen (((D.lose 0).arm 0 []).crash ks).start 3 = _ := h1
    rw [h1'] at p; cases p
  · exact h2
theorem Las.appended {n b : Nat} {D : Dk} {J : Jn} {all sure : List (List UInt8)} (h : Las n D (some (b, J)) all sure) {s : List UInt8} (hs : s.length ≤ 200) :
    (∃ D', jappend D J s = (0, D', { J with l := J.l ++ [s] }) ∧ J.l = all ∧ Las (n + 1) D' (some (b, { J with l := J.l ++ [s] })) (all ++ [s]) sure) ∨
    (∃ D', jappend D J s = (8, D', { J with bad := true }) ∧ Las (n + 1) D' (some (b, { J with bad := true })) (all ++ [s]) sure) ∨
    ∃ e, jappend D J s = (e, D, J) ∧ (e = 3 ∨ e = 6 ∨ e = 7) ∧ Las (n + 1) D (some (b, J)) all sure := by
  obtain ⟨hf, hg⟩ := h.jour b J rfl
  cases hb : J.bad with
  | true => exact .inr (.inr ⟨7, by unfold jappend; rw [hb]; rfl, .inr (.inr rfl), h.mono (by omega)⟩)
  | false =>
    obtain ⟨g1, g2, g3⟩ := hg hb
    have hsm : ∀ r ∈ all ++ [s], r.length ≤ 200 := fun r hr => by
      rcases List.mem_append.1 hr with hr | hr
      · exact h.small r hr
      · rw [List.mem_singleton.1 hr]; exact hs
    have hfw : (all ++ [s]).length ≤ n + 1 := by have := h.few; simp; omega
    rcases h.held.appended (by decide) hf hb g3 g2 g1 s with ⟨a1, a2, a3, a4, a5⟩ | ⟨a1, a2, a3⟩ | ⟨a1, a2⟩
    · refine .inl ⟨(jappend D J s).2.1, ?_, g3, ⟨a2, hsm, hfw, fun b' J' e => ?_⟩⟩
      · refine Prod.ext a1 (Prod.ext rfl ?_)
        show (jappend D J s).2.2 = _
        rw [a5, g3, hb]
      · cases e; exact ⟨hf, fun _ => ⟨a4, a3, by simp only; rw [g3]⟩⟩
    · refine .inr (.inl ⟨(jappend D J s).2.1, Prod.ext a1 (Prod.ext rfl a3), ⟨a2, hsm, hfw, fun b' J' e => ?_⟩⟩)
      cases e; exact ⟨hf, fun e => by cases e⟩
    · refine .inr (.inr ⟨(jappend D J s).1, Prod.ext rfl a2, ?_, h.mono (by omega)⟩)
      omega
theorem Las.jsynced {n b : Nat} {D : Dk} {J : Jn} {all sure : List (List UInt8)} (h : Las n D (some (b, J)) all sure) :
    (∃ D', jsync D J = (0, D', J) ∧ Las n D' (some (b, J)) all J.l) ∨ ∃ e D' J', jsync D J = (e, D', J') ∧ e ≠ 0 ∧ Las n D' (some (b, J')) all sure := by
  obtain ⟨hf, hg⟩ := h.jour b J rfl
  cases hb : J.bad with
  | true => exact .inr ⟨7, D, J, by unfold jsync; rw [hb]; rfl, by decide, h⟩
  | false =>
    obtain ⟨g1, g2, g3⟩ := hg hb
    have hj : jsync D J = ((D.sync 3).1, (D.sync 3).2, { J with bad := decide ((D.sync 3).1 ≠ 0) }) := by unfold jsync; rw [hb, hf]; rfl
    by_cases h0 : (D.sync 3).1 = 0
    · obtain ⟨_, u1, _, u3⟩ := sync_ok h.held.good h0
      have hs := (h.held.sync (by decide : 3 < 16)).1.good
      rw [show (3 : Int).toNat = 3 from rfl, g2] at u3
      refine .inl ⟨(D.sync 3).2, ?_, ⟨?_, h.small, h.few, fun b' J' e => ?_⟩⟩
      · rw [hj, h0]
        exact Prod.ext rfl (Prod.ext rfl (by simp [← hb]))
      · rw [g3]; exact Held.still hs u3
      · cases e; exact ⟨hf, fun _ => ⟨u1, u3.now, g3⟩⟩
    · refine .inr ⟨(D.sync 3).1, (D.sync 3).2, { J with bad := decide ((D.sync 3).1 ≠ 0) }, hj, h0, ⟨(h.held.sync (by decide : 3 < 16)).1, h.small, h.few, fun b' J' e => ?_⟩⟩
      cases e
      exact ⟨hf, fun e => by simp [h0] at e⟩
end Go.Proofs.YtjbcgahdiolhhaaGreatDoor.D2
namespace Go.Proofs.YtjbcgahdiolhhaaGreatDoor.D2
open Go.RowKit Go.Maps Go.ChangeMaps Go.MapKept
open Dp Jp
attribute [local go_sem ↓] Go.wp_at_zero Go.wp_at_succ

theorem forms_le : ∀ l : List (List UInt8), (∀ r ∈ l, r.length ≤ 200) → (forms l).length ≤ 260 * l.length
  | [], _ => by rw [forms_nil]; simp
  | r :: l, h => by
    have h1 := forms_le l fun x hx => h x (List.mem_cons_of_mem _ hx)
    have h2 := h r (by simp)
    have h3 := form_len r (by omega)
    rw [forms_cons, List.length_append, List.length_cons]
    omega
/-- Behind n operations. -/
structure Tel (n : Nat) (D : Dk) (jx : Option Jn) : Prop where
  las : ∃ all sure, Las n D (jx.map fun J => (0, J)) all sure
  jour : ∀ J, jx = some J → (∀ r ∈ J.l, r.length ≤ 200) ∧ J.l.length ≤ n
theorem Las.at {n b : Nat} {D : Dk} {J : Jn} {all sure : List (List UInt8)} (h : Las n D (some (b, J)) all sure) (c : Nat) : Las n D (some (c, J)) all sure :=
  ⟨h.held, h.small, h.few, fun b' J' e => by cases e; exact h.jour b J rfl⟩
theorem Tel.mono {n m : Nat} {D : Dk} {jx : Option Jn} (h : Tel n D jx) (hm : n ≤ m) : Tel m D jx := by
  obtain ⟨⟨all, sure, h1⟩, h2⟩ := h
  exact ⟨⟨all, sure, h1.mono hm⟩, fun J e => ⟨(h2 J e).1, by have := (h2 J e).2; omega⟩⟩
theorem Tel.lose {n : Nat} {D : Dk} {jx : Option Jn} (h : Tel n D jx) (k : Int) : Tel n (D.lose k) jx := by
  obtain ⟨⟨all, sure, h1⟩, h2⟩ := h
  exact ⟨⟨all, sure, h1.lose k⟩, h2⟩
theorem Tel.arm {n : Nat} {D : Dk} {jx : Option Jn} (h : Tel n D jx) (k : Int) (ks : List Int) : Tel n (D.arm k ks) jx := by
  obtain ⟨⟨all, sure, h1⟩, h2⟩ := h
  exact ⟨⟨all, sure, h1.arm k ks⟩, h2⟩
theorem Tel.crash {n : Nat} {D : Dk} {jx : Option Jn} (h : Tel n D jx) (ks : List Int) : Tel n (D.crash ks) none := by
  obtain ⟨⟨all, sure, h1⟩, h2⟩ := h
  exact ⟨⟨all, sure, h1.crash ks⟩, fun J e => by cases e⟩
theorem Tel.start {n : Nat} {D : Dk} {jx : Option Jn} (h : Tel n D jx) : Tel n D.start none := by
  obtain ⟨⟨all, sure, h1⟩, h2⟩ := h
  exact ⟨⟨all, sure, h1.start⟩, fun J e => by cases e⟩
theorem Tel.len {n : Nat} {D : Dk} {jx : Option Jn} (h : Tel n D jx) : (D.now 3).length ≤ 260 * n := by
  obtain ⟨⟨all, sure, h1⟩, _⟩ := h
  have h2 := h1.held.tear.length
  have h3 := forms_le all h1.small
  have := h1.few
  omega
theorem Tel.opened {n : Nat} {D : Dk} {jx : Option Jn} (h : Tel n D jx) :
    (∃ e D', jopen D 3 = (none, e, D') ∧ Tel n D' none) ∨ ∃ l D', jopen D 3 = (some l, 0, D') ∧ Tel n D' (some ⟨3, l, false⟩) := by
  obtain ⟨⟨all, sure, h1⟩, _⟩ := h
  rcases h1.opened with ⟨e, D', p, _, s⟩ | ⟨l, D', p, _, _, s⟩
  · exact .inl ⟨e, D', p, ⟨all, sure, s⟩, fun J e => by cases e⟩
  · exact .inr ⟨l, D', p, ⟨l, l, s 0⟩, fun J e => by cases e; exact ⟨(s 0).small, (s 0).few⟩⟩
theorem Tel.appended {n : Nat} {D : Dk} {J : Jn} (h : Tel n D (some J)) {s : List UInt8} (hs : s.length ≤ 200) : ∃ e D' J', jappend D J s = (e, D', J') ∧ Tel (n + 1) D' (some J') := by
  obtain ⟨⟨all, sure, h1⟩, h2⟩ := h
  obtain ⟨h3, h4⟩ := h2 J rfl
  rcases Las.appended h1 hs with ⟨D', p, _, t⟩ | ⟨D', p, t⟩ | ⟨e, p, _, t⟩
  · refine ⟨_, _, _, p, ⟨_, _, t⟩, fun J' e => ?_⟩
    cases e
    refine ⟨fun r hr => ?_, by simp; omega⟩
    rcases List.mem_append.1 hr with hr | hr
    · exact h3 r hr
    · rw [List.mem_singleton.1 hr]; exact hs
  · exact ⟨_, _, _, p, ⟨_, _, t⟩, fun J' e => by cases e; exact ⟨h3, by simp only; omega⟩⟩
  · exact ⟨_, _, _, p, ⟨_, _, t⟩, fun J' e => by cases e; exact ⟨h3, by omega⟩⟩
theorem jsync_l (D : Dk) (J : Jn) : (jsync D J).2.2.l = J.l := by unfold jsync; split <;> rfl
theorem Tel.jsynced {n : Nat} {D : Dk} {J : Jn} (h : Tel n D (some J)) : ∃ e D' J', jsync D J = (e, D', J') ∧ Tel n D' (some J') := by
  obtain ⟨⟨all, sure, h1⟩, h2⟩ := h
  have hl := jsync_l D J
  rcases Las.jsynced h1 with ⟨D', p, t⟩ | ⟨e, D', J', p, _, t⟩
  · exact ⟨_, _, _, p, ⟨_, _, t⟩, fun J' e => by cases e; exact h2 J rfl⟩
  · rw [p] at hl
    exact ⟨_, _, _, p, ⟨_, _, t⟩, fun J'' e => by cases e; simp only at hl; rw [hl]; exact h2 J rfl⟩
theorem Tel.small {n : Nat} {D : Dk} {J : Jn} (h : Tel n D (some J)) (hn : n ≤ 100) : (∀ r ∈ J.l, r.length ≤ 100000) ∧ (forms J.l).length ≤ 100000 := by
  obtain ⟨h1, h2⟩ := h.jour J rfl
  have := forms_le J.l h1
  exact ⟨fun r hr => by have := h1 r hr; omega, by omega⟩

/-- An operation in a block of its own. -/
def Ob.op (p : Nat) (x : Op1) (vk : Value) : Ob where
  In w lab id := OCells w p 0 x vk ∧ p < w.heap.size ∧ lab p = id
  kept := fun {w w' lab lab' id} ⟨h, hp, hl⟩ lo hll hb => by
    have hbp := hb p hp (by omega) (by omega)
    have hc : ∀ j, w'.cell? ⟨p, j, none⟩ = w.cell? ⟨p, j, none⟩ := fun j => by simp only [World.cell?, hbp]
    refine ⟨⟨(hc _).trans h.c0, (hc _).trans h.c1, (hc _).trans h.c2, (hc _).trans h.c3⟩, ?_, (hll p hp).trans hl⟩
    rcases Nat.lt_or_ge p w'.heap.size with h1 | h1
    · exact h1
    · have h2 : w'.heap[p]? = none := Array.getElem?_eq_none h1
      rw [hbp] at h2
      have := Array.getElem?_eq_none_iff.1 h2
      omega
section
variable {w0 w w' : World} {os : List Ob} {i k b d : Nat} {D D' : Dk} {J J' : Jn}
theorem or_append1 (h : OMem w0 w os) (hi : os[i]? = some (.rdisk d D)) (hk : os[k]? = some (.rjour b d J)) (hne : i ≠ k) (s : List UInt8) (hz : (∀ r ∈ J.l, r.length ≤ 100000) ∧ (forms J.l).length ≤ 100000) {n : Int} (hr : jappend D J s = (n, D', J')) :
    Calls Tryz.prog 13 #[.pointer (some ⟨b, 0, none⟩), .string (bs s)] w fun e w' => e = .returned (.int .i64 n) ∧ OMem w0 w' ((os.set i (.rdisk d D')).set k (.rjour b d J')) := by
  have := or_append h hi hk hne s hz.1 hz.2
  rw [hr] at this
  exact this
theorem or_jsync1 (h : OMem w0 w os) (hi : os[i]? = some (.rdisk d D)) (hk : os[k]? = some (.rjour b d J)) (hne : i ≠ k) {n : Int} (hr : jsync D J = (n, D', J')) :
    Calls Tryz.prog 15 #[.pointer (some ⟨b, 0, none⟩)] w fun e w' => e = .returned (.int .i64 n) ∧ OMem w0 w' ((os.set i (.rdisk d D')).set k (.rjour b d J')) := by
  have := or_jsync h hi hk hne
  rw [hr] at this
  exact this
theorem or_open1 (h : OMem w0 w os) (hi : os[i]? = some (.rdisk d D)) (f : Int) (hf : I64 f) (hn : (D.now f.toNat).length ≤ 100000) {l : List (List UInt8)} {n : Int} (hr : jopen D f = (some l, n, D')) :
    Calls Tryz.prog 9 #[.pointer (some ⟨d, 0, none⟩), .int .i64 f] w fun e w' => ∃ b, e = .returned (.tuple #[.pointer (some ⟨b, 0, none⟩), .int .i64 n]) ∧ OMem w0 w' (os.set i (.rdisk d D') ++ [.rjour b d ⟨f, l, false⟩]) := by
  refine (or_open h hi f hf hn).mono ?_
  rw [hr]
  rintro e w' (⟨h1, _⟩ | ⟨l', b, h1, h2, h3⟩)
  · cases h1
  · cases h1; exact ⟨b, h2, h3⟩
theorem or_open0 (h : OMem w0 w os) (hi : os[i]? = some (.rdisk d D)) (f : Int) (hf : I64 f) (hn : (D.now f.toNat).length ≤ 100000) {n : Int} (hr : jopen D f = (none, n, D')) :
    Calls Tryz.prog 9 #[.pointer (some ⟨d, 0, none⟩), .int .i64 f] w fun e w' => e = .returned (.tuple #[.pointer none, .int .i64 n]) ∧ OMem w0 w' (os.set i (.rdisk d D')) := by
  refine (or_open h hi f hf hn).mono ?_
  rw [hr]
  rintro e w' (⟨_, h2, h3⟩ | ⟨l', b, h1, _⟩)
  · exact ⟨h2, h3⟩
  · cases h1
/-- An operation in a new block. -/
theorem OMem.op_new (h : OMem w0 w os) (hb : Below w.heap.size w w') {p : Nat} {x : Op1} {vk : Value} (hc : OCells w' p 0 x vk) (hp : w.heap.size ≤ p) (hp' : p < w'.heap.size) : OMem w0 w' (os ++ [.op p x vk]) := by
  obtain ⟨lab, h⟩ := h
  have lo : LabOk (fun y => if y = p then 64 * (os.length + 1) else lab y) w' := fun y hy => by
    show (if y = p then _ else lab y) = 0
    rw [if_neg (by omega)]
    exact h.lo y (by have := hb.size; omega)
  refine ⟨_, h.push (o' := .op p x vk) (lab' := fun y => if y = p then 64 * (os.length + 1) else lab y) ⟨hc, hp', if_pos rfl⟩ lo ⟨hb.os, hb.tape, hb.output, hb.size, fun y hy => ?_, fun y hy _ => hb.block y hy, fun y hy => ?_⟩⟩
  · exact if_neg (by omega)
  · show (if y = p then _ else lab y) = 0 ∨ _
    by_cases h1 : y = p
    · right
      simp only [h1, if_true]
      omega
    · left
      rw [if_neg h1]
      exact h.lo y hy
theorem OMem.op_at (h : OMem w0 w os) {p : Nat} {x : Op1} {vk : Value} (hi : os[i]? = some (.op p x vk)) : OCells w p 0 x vk := by
  obtain ⟨lab, h⟩ := h
  exact (h.at_ i _ hi).1
/-- All: the copy in a new block. -/
theorem o_all_raw (h : OMem w0 w os) (hk : os[k]? = some (.jour b d J)) :
    Calls Tryz.prog 25 #[.pointer (some ⟨b, 0, none⟩)] w fun e w' => ∃ v, e = .returned v ∧ w'.ownsRow 0 9 1 v J.l.length (strVs J.l) ∧ (∀ k, v.ownBlock = some k → w.heap.size ≤ k) ∧ Below w.heap.size w w' := by
  obtain ⟨v, hc⟩ := h.jour hk
  have c2 := hc.c2
  have hsz := hc.size
  have hfc := forms_count J.l
  have HX := Lib.hid (cloneT v J.l.length (strVs J.l) w (SrcIs.of_own hc.row (oneCell_strs _)) (by omega))
  clear h hc hsz hfc
  go_enter Tryz.func25, Tryz.ntmps25
  go_wp2_with (go_at_call 47; refine HX.out.mono ?_; rintro e w1 ⟨v1, rfl, f1, b1⟩)
  go_ret
  exact ⟨v1, rfl, f1.1, f1.2, b1⟩
end
theorem texts_own {w : World} {v : Value} {l : List (List UInt8)} (h : w.ownsRow 0 9 1 v l.length (strVs l)) : TextsAt w v l := by
  obtain ⟨a, cap, e1, e2⟩ := listFrom_own (lo := 0) (f := fun z : List UInt8 => Value.string (bs z)) h
  refine ⟨a, cap, e1, ?_⟩
  rcases e2 with h2 | ⟨b, h3, _, h5, h6⟩
  · exact .inl h2
  · exact .inr ⟨b, 0, h3, h5, fun k hk => by rw [Nat.zero_add, List.getD_eq_getElem?_getD, List.getElem?_eq_getElem hk]; exact h6 k _ (List.getElem?_eq_getElem hk)⟩
theorem few_at {w0 w : World} {a : Option Addr} {xs : List Op1} (h : OArgs w0 a xs) (hl : xs.length ≤ 9223372036854775807) (cap : Nat) (hb : Below w0.heap.size w0 w) {r : Bool} (hr : fewO xs = r) :
    Calls Tryz.prog 5 #[.slice a xs.length cap] w fun e w' => e = .returned (.bool r) ∧ w = w' := by
  rw [← hr]; exact fewO_any a cap xs w hl (h.at_.keep hb)
theorem same_one {w : World} {v v' : Value} {l : List (List UInt8)} (hm : l.length ≤ 1099511627776) (h : TextsAt w v l) (h' : TextsAt w v' l) :
    Calls Tryz.prog 24 #[v, v'] w fun e w' => e = .returned (.bool true) ∧ Below w.heap.size w w' := by
  have := sameTexts_any v v' l l hm w h h'
  rwa [decide_eq_true rfl] at this
theorem sum_quiet (l : List UInt8) (hl : l.length ≤ 1099511627776) (w : World) : Calls Tryz.prog 10 #[.string (bs l)] w fun e w' => e = .returned (.int .i64 (jsum l : Int)) ∧ w' = w := (sum_any l hl w).mono fun _ _ h => ⟨h.1, h.2.symm⟩
theorem rsum_quiet (l : List UInt8) (hl : l.length ≤ 1099511627776) (w : World) : Calls Tryz.prog 11 #[.string (bs l)] w fun e w' => e = .returned (.int .i64 (jsum l : Int)) ∧ w' = w := (rsum_any l hl w).mono fun _ _ h => ⟨h.1, h.2.symm⟩
theorem nums_fresh {w0 w w' : World} {v : Value} {ks : List Int} (h : Nums w0 w v ks) (hb : Below w.heap.size w w') : Nums w0 w' v ks := ⟨src_keep h.1 hb, h.2⟩
theorem nums_back {w0 w1 : World} {v : Value} {ks : List Int} (h : Nums w0 w1 v ks) (hb : Below w0.heap.size w0 w1) : Nums w0 w0 v ks := by
  obtain ⟨⟨h1, h2⟩, h3, h4⟩ := h
  refine ⟨⟨h1, ?_⟩, h3, h4⟩
  rcases h2 with h2 | ⟨ad, cap, e, hc, ho⟩
  · exact .inl h2
  · refine .inr ⟨ad, cap, e, fun j u hj => ?_, ho⟩
    have hl : 0 < ks.length := by
      have := (List.getElem?_eq_some_iff.1 hj).1
      rw [intVs_length] at this
      omega
    have hlt := h4 ad _ _ e hl
    have hp : (ad.add j).block < w0.heap.size := by unfold Addr.add; split <;> exact hlt
    rw [← hb.cell hp]
    exact hc j u hj
theorem below_drewN {n : Nat} {w w' : World} (h : Below n w w') (k : Nat) : Below n w (w'.drewN k) := ⟨h.os, h.tape, h.output, h.size, h.block⟩
end Go.Proofs.YtjbcgahdiolhhaaGreatDoor.D2
