/- The small examples that every statement of layer 1 begins with, and the statements' own helpers. -/
import Derived.Test.YtplejiaddemjhaaDoorRead2
namespace Go.Proofs.YtplejiaddemjhaaDoor
open Go.RowKit Go.Shelf

theorem open_any (s : List UInt8) (w : World) :
    Calls Tryd.prog 21 #[.string (bs s)] w fun e w' => e = .returned (.pointer (some ⟨w.heap.size, 0, none⟩)) ∧ RdAt 54 w.heap.size (some s) w' ∧ Below w.heap.size w w' := by
  go_enter Tryd.func21, Tryd.ntmps21
  go_wp2
  go_ret
  exact ⟨rfl, heap_alloc_new w _, (Below.refl _ _).alloc (Nat.le_refl _) _⟩

theorem it0 : Lib.itoa 0 = [48] := by unfold Lib.itoa; rw [if_neg (by decide)]; show Lib.decDigits 0 = _; rw [Sp.decDigits_small (by decide)]; rfl
theorem it1 : Lib.itoa 1 = [49] := by unfold Lib.itoa; rw [if_neg (by decide)]; show Lib.decDigits 1 = _; rw [Sp.decDigits_small (by decide)]; rfl
theorem it2 : Lib.itoa 2 = [50] := by unfold Lib.itoa; rw [if_neg (by decide)]; show Lib.decDigits 2 = _; rw [Sp.decDigits_small (by decide)]; rfl
theorem it3 : Lib.itoa 3 = [51] := by unfold Lib.itoa; rw [if_neg (by decide)]; show Lib.decDigits 3 = _; rw [Sp.decDigits_small (by decide)]; rfl
theorem it7 : Lib.itoa 7 = [55] := by unfold Lib.itoa; rw [if_neg (by decide)]; show Lib.decDigits 7 = _; rw [Sp.decDigits_small (by decide)]; rfl
theorem itm1 : Lib.itoa (-1) = [45, 49] := by unfold Lib.itoa; rw [if_pos (by decide)]; show 45 :: Lib.decDigits 1 = _; rw [Sp.decDigits_small (by decide)]; rfl
theorem itm7 : Lib.itoa (-7) = [45, 55] := by unfold Lib.itoa; rw [if_pos (by decide)]; show 45 :: Lib.decDigits 7 = _; rw [Sp.decDigits_small (by decide)]; rfl
theorem it300 : Lib.itoa 300 = [51, 48, 48] := by unfold Lib.itoa; rw [if_neg (by decide)]; show Lib.decDigits 300 = _; rw [Sp.decDigits_big (by decide), Sp.decDigits_big (by decide), Sp.decDigits_small (by decide)]; rfl
theorem odd007 : rNum 59 (some [48, 48, 55, 59]) = (0, none) := by
  have h1 : Lib.indexByte [48, 48, 55, 59] 59 = 3 := by decide
  have h2 : Lib.atoiAll [48, 48, 55] = .ok 7 := by decide
  have h3 : Sp.canon [48, 48, 55] = none := by unfold Sp.canon; rw [h2]; simp only; rw [it7]; decide
  have h4 : Sp.pInt 59 [48, 48, 55, 59] = none := by
    unfold Sp.pInt
    rw [h1, if_neg (by decide)]
    show Option.map _ (Sp.canon [48, 48, 55]) = none
    rw [h3]; rfl
  simp [rNum, Sp.pNum, h4]

theorem ints_two (w : World) : IntsAt (w.alloc (.cells #[.int .i64 1, .int .i64 (-1)] 3)) (.slice (some ⟨w.heap.size, 0, none⟩) 2 2) [1, -1] := by
  refine ⟨_, 2, rfl, .inr ⟨w.heap.size, 0, rfl, by simp, fun k hk => ?_⟩⟩
  have h := Lib.cell_of_heap (heap_alloc_new w (.cells #[.int .i64 1, .int .i64 (-1)] 3)) (0 + k)
  rw [h]
  match k, hk with
  | 0, _ => rfl
  | 1, _ => rfl

set_option maxHeartbeats 1000000 in
theorem small_any (w : World) (he : Env w) :
    Calls Tryd.prog 9 #[] w fun e w' => e = .returned (.bool true) ∧ Below w.heap.size w w' := by
  have t1 : (bs (Sp.eNum 0)).toList = [48, 59] := by rw [bs_toList]; simp [Sp.eNum, Sp.eInt, it0]
  have t2 : (bs (Sp.eNum 300)).toList = [51, 48, 48, 59] := by rw [bs_toList]; simp [Sp.eNum, Sp.eInt, it300]
  have t3 : (bs (Sp.eNum (-1))).toList = [] := by rw [bs_toList]; simp [Sp.eNum]
  have t4 : (bs (Sp.eInt (-7))).toList = [45, 55, 59] := by rw [bs_toList]; simp [Sp.eInt, itm7]
  have t5 : (bs (Sp.eInt 7)).toList = [55, 59] := by rw [bs_toList]; simp [Sp.eInt, it7]
  have t6 : (bs (Sp.eText [97, 44, 98])).toList = [51, 58, 97, 44, 98, 44] := by rw [bs_toList]; simp [Sp.eText, it3]
  have t7 : (bs (Sp.eList Sp.eInt [1, -1])).toList = [50, 91, 49, 59, 45, 49, 59, 93] := by rw [bs_toList]; simp [Sp.eList, Sp.eMany, Sp.eInt, it2, it1, itm1]
  have t8 : (bs (Sp.eList Sp.eText [])).toList = [48, 91, 93] := by rw [bs_toList]; simp [Sp.eList, Sp.eMany, it0]
  have H7 := Lib.hid (show (Sp.eList Sp.eInt [1, -1]).length ≤ 140737488355328 by simp [Sp.eList, Sp.eMany, Sp.eInt, it2, it1, itm1])
  have H8 := Lib.hid (show (Sp.eList Sp.eText []).length ≤ 140737488355328 by simp [Sp.eList, Sp.eMany, it0])
  go_enter Tryd.func9, Tryd.ntmps9
  go_wp2_with (go_at_call 11; refine (wNum_any 0 ⟨by decide, by decide⟩ _ he).mono ?_; rintro e w1 ⟨rfl, b1⟩; refine Hid.out ?_)
  refine Lib.hid ?_
  have e1 := he.fresh b1
  go_wp2_with (go_at_call 11; refine (wNum_any 300 ⟨by decide, by decide⟩ _ e1).mono ?_; rintro e w2 ⟨rfl, b2⟩; refine Hid.out ?_)
  refine Lib.hid ?_
  have e2 := e1.fresh b2
  have c2 := b1.trans (b2.mono b1.size)
  clear b1 b2 e1
  go_wp2_with (go_at_call 11; refine (wNum_any (-1) ⟨by decide, by decide⟩ _ e2).mono ?_; rintro e w3 ⟨rfl, b3⟩; refine Hid.out ?_)
  refine Lib.hid ?_
  have e3 := e2.fresh b3
  have c3 := c2.trans (b3.mono c2.size)
  clear b3 c2 e2
  go_wp2_with (go_at_call 13; refine (wInt_any (-7) ⟨by decide, by decide⟩ _ e3).mono ?_; rintro e w4 ⟨rfl, b4⟩; refine Hid.out ?_)
  refine Lib.hid ?_
  have e4 := e3.fresh b4
  have c4 := c3.trans (b4.mono c3.size)
  clear b4 c3 e3
  go_wp2_with (go_at_call 13; refine (wInt_any 7 ⟨by decide, by decide⟩ _ e4).mono ?_; rintro e w5 ⟨rfl, b5⟩; refine Hid.out ?_)
  refine Lib.hid ?_
  have e5 := e4.fresh b5
  have c5 := c4.trans (b5.mono c4.size)
  clear b5 c4 e4
  go_wp2_with (go_at_call 15; refine (wText_any [97, 44, 98] (by decide) _ e5).mono ?_; rintro e w6 ⟨rfl, b6⟩; refine Hid.out ?_)
  refine Lib.hid ?_
  have e6 := e5.fresh b6
  have c6 := c5.trans (b6.mono c5.size)
  clear b6 c5 e5
  go_wp2_with (go_at_call 17; refine (wNums_any _ [1, -1] _ (e6.alloc _) (ints_two w6) (by simp [Sp.I64]) (by decide) H7.out).mono ?_; rintro e w7 ⟨rfl, b7⟩; refine Hid.out ?_)
  refine Lib.hid ?_
  have e7 := (e6.alloc _).fresh b7
  have c7 := (c6.alloc c6.size (.cells #[.int .i64 1, .int .i64 (-1)] 3)).trans (b7.mono (by have := c6.size; simp; omega))
  clear b7 c6 e6
  go_wp2_with (go_at_call 19; refine (wTexts_any _ [] _ e7 ⟨none, 0, rfl, .inl rfl⟩ (by simp) (by decide) H8.out).mono ?_; rintro e w8 ⟨rfl, b8⟩; refine Hid.out ?_)
  refine Lib.hid ?_
  have e8 := e7.fresh b8
  have c8 := c7.trans (b8.mono c7.size)
  clear b8 c7 e7
  go_wp2_with (go_at_call 21; refine (open_any [48, 48, 55, 59] _).mono ?_; rintro e w9 ⟨rfl, r9, b9⟩; refine Hid.out ?_)
  refine Lib.hid ?_
  have e9 : Env w9 := e8.fresh b9
  have m9 := c8.size
  have c9 : Below w.heap.size w w9 := c8.trans (b9.mono m9)
  clear b9 c8 e8
  have HN := num_any w8.heap.size (some [48, 48, 55, 59]) (by simp)
  rw [odd007] at HN
  have HN' := Lib.hid HN
  clear HN
  go_wp2_with (go_at_call 24; refine (HN'.out _ e9 r9).mono ?_; rintro e w10 ⟨rfl, r10, g10⟩; refine Hid.out ?_)
  refine Lib.hid ?_
  have c10 := below_trans_gb c9 g10 m9 (Nat.le_refl _)
  clear r9 e9 c9 g10
  go_wp2_with (go_at_call 36; refine (left_any _ rfl _ _ _ r10).mono ?_; rintro e w11 ⟨rfl, rfl⟩)
  go_wp2_with (go_at_call 38; refine (done_any _ _ _ r10).mono ?_; rintro e w11 ⟨rfl, rfl⟩)
  go_ret
  exact ⟨rfl, c10⟩
end Go.Proofs.YtplejiaddemjhaaDoor
