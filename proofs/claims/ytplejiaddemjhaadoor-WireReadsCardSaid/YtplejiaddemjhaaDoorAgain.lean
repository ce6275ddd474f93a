/- WireAgain: the walk. -/
import Derived.Test.YtplejiaddemjhaaDoorSmall
namespace Go.Proofs.YtplejiaddemjhaaDoor
open Go.RowKit Go.Shelf

theorem tmod5 (k : Int) (h : k < 0) : k.tmod 5 = -((-k) % 5) := by
  have : k = -(-k) := by omega
  rw [this, Int.neg_tmod, Int.tmod_eq_emod_of_nonneg (by omega)]
  simp

/-- The kind of a value. -/
theorem kind_any (k : Int) (hk : Sp.I64 k) (n s l t : Value) (w : World) :
    Calls Tryd.prog 23 #[.agg #[.int .i64 k, n, s, l, t]] w fun e w' => e = .returned (.int .i64 (k % 5)) ∧ Below w.heap.size w w' := by
  obtain ⟨h1, h2⟩ := hk
  by_cases h0 : 0 ≤ k
  · go_enter Tryd.func23, Tryd.ntmps23
    go_wp2
    go_ret
    exact ⟨rfl, (Below.refl _ _).alloc (Nat.le_refl _) _⟩
  · have HM := Lib.hid (tmod5 k (by omega))
    by_cases hz : (-k) % 5 = 0
    · have hn : ¬ k.tmod 5 < 0 := by rw [HM.out]; omega
      have hb : 0 ≤ k.tmod 5 := by omega
      have HE := Lib.hid (show k.tmod 5 = k % 5 by rw [HM.out]; omega)
      clear hz
      go_enter Tryd.func23, Tryd.ntmps23
      go_wp2
      go_ret
      exact ⟨by rw [HE.out]; rfl, (Below.refl _ _).alloc (Nat.le_refl _) _⟩
    · have hn : k.tmod 5 < 0 := by rw [HM.out]; omega
      have hb : -5 < k.tmod 5 := by rw [HM.out]; omega
      have HE := Lib.hid (show k.tmod 5 + 5 = k % 5 by rw [HM.out]; omega)
      clear hz
      go_enter Tryd.func23, Tryd.ntmps23
      go_wp2
      go_ret
      exact ⟨by rw [HE.out]; rfl, (Below.refl _ _).alloc (Nat.le_refl _) _⟩

theorem kind_at (k j : Int) (hk : Sp.I64 k) (hj : k % 5 = j) (n s l t : Value) (w : World) :
    Calls Tryd.prog 23 #[.agg #[.int .i64 k, n, s, l, t]] w fun e w' => e = .returned (.int .i64 j) ∧ Below w.heap.size w w' := hj ▸ kind_any k hk n s l t w

theorem eMany_mem {α : Type} (f : α → List UInt8) : ∀ (l : List α) (a : α), a ∈ l → (f a).length ≤ (Sp.eMany f l).length
  | b :: l, a, h => by
    simp only [Sp.eMany, List.length_append]
    rcases List.mem_cons.1 h with rfl | h
    · omega
    · have := eMany_mem f l a h; omega
theorem eMany_ge {α : Type} (f : α → List UInt8) (hf : ∀ a, 1 ≤ (f a).length) : ∀ (l : List α), l.length ≤ (Sp.eMany f l).length
  | [] => Nat.le_refl _
  | a :: l => by have := eMany_ge f hf l; have := hf a; simp only [Sp.eMany, List.length_append, List.length_cons]; omega
theorem pMany_all {α : Type} {p : List UInt8 → Option (α × List UInt8)} {Q : α → Prop} (hp : ∀ s a t, p s = some (a, t) → Q a) : ∀ (n : Nat) (s t : List UInt8) (l : List α), Sp.pMany p n s = some (l, t) → ∀ a ∈ l, Q a
  | 0, s, t, l, h => by
    simp only [Sp.pMany, Option.some.injEq, Prod.mk.injEq] at h
    rw [← h.1]; simp
  | n + 1, s, t, l, h => by
    simp only [Sp.pMany] at h
    rcases hq : p s with _ | ⟨a, u⟩
    · rw [hq] at h; cases h
    · rw [hq] at h
      simp only at h
      obtain ⟨y, hy, hx⟩ := Option.map_eq_some_iff.1 h
      simp only [Prod.mk.injEq] at hx
      rw [← hx.1]
      intro b hb
      rcases List.mem_cons.1 hb with rfl | hb
      · exact hp _ _ _ hq
      · exact pMany_all hp n u y.2 y.1 hy b hb
theorem pList_all {α : Type} {p : List UInt8 → Option (α × List UInt8)} {Q : α → Prop} (hp : ∀ s a t, p s = some (a, t) → Q a) {s t : List UInt8} {l : List α} (h : Sp.pList p s = some (l, t)) : ∀ a ∈ l, Q a := by
  unfold Sp.pList at h
  rcases hq : Sp.pNum 91 s with _ | ⟨n, u⟩
  · rw [hq] at h; cases h
  · rw [hq] at h
    simp only at h
    rcases hm : Sp.pMany p n.toNat u with _ | ⟨l', v⟩
    · rw [hm] at h; cases h
    · rw [hm] at h
      simp only at h
      obtain ⟨z, _, hx⟩ := Option.map_eq_some_iff.1 h
      simp only [Prod.mk.injEq] at hx
      rw [← hx.1]
      exact pMany_all hp _ _ _ _ hm

theorem i64_zero : Sp.I64 0 := ⟨by decide, by decide⟩
theorem eInt_pos (z : Int) : 1 ≤ (Sp.eInt z).length := by simp [Sp.eInt]
theorem eText_pos (z : List UInt8) : 1 ≤ (Sp.eText z).length := by simp [Sp.eText]; omega
theorem eText_ge (z : List UInt8) : z.length ≤ (Sp.eText z).length := by simp [Sp.eText]; omega

/-- What a reader has read is written with the same bytes. -/
theorem st_num (l : List UInt8) : Sp.I64 (rNum 59 (some l)).1 ∧ ((rNum 59 (some l)).2 = none ∨ ∃ u, (rNum 59 (some l)).2 = some u ∧ l = Sp.eNum (rNum 59 (some l)).1 ++ u) := by
  rcases hp : Sp.pNum 59 l with _ | ⟨z, u⟩
  · exact ⟨by simp [rNum, hp, i64_zero], .inl (by simp [rNum, hp])⟩
  · exact ⟨by simpa [rNum, hp] using (Sp.pNum_some hp).2.1, .inr ⟨u, by simp [rNum, hp], by have := Sp.eNum_p hp; simpa [rNum, hp] using this⟩⟩
theorem st_int (l : List UInt8) : Sp.I64 (rInt 59 (some l)).1 ∧ ((rInt 59 (some l)).2 = none ∨ ∃ u, (rInt 59 (some l)).2 = some u ∧ l = Sp.eInt (rInt 59 (some l)).1 ++ u) := by
  rcases hp : Sp.pInt 59 l with _ | ⟨z, u⟩
  · exact ⟨by simp [rInt, hp, i64_zero], .inl (by simp [rInt, hp])⟩
  · exact ⟨by simpa [rInt, hp] using (Sp.pInt_some hp).2, .inr ⟨u, by simp [rInt, hp], by have := Sp.eInt_p hp; simpa [rInt, hp] using this⟩⟩
theorem st_text (l : List UInt8) : (rText (some l)).1.length ≤ l.length ∧ ((rText (some l)).2 = none ∨ ∃ u, (rText (some l)).2 = some u ∧ l = Sp.eText (rText (some l)).1 ++ u) := by
  rcases hp : Sp.pText l with _ | ⟨z, u⟩
  · exact ⟨by simp [rText, hp], .inl (by simp [rText, hp])⟩
  · have h := Sp.eText_p hp
    refine ⟨?_, .inr ⟨u, by simp [rText, hp], by simpa [rText, hp] using h⟩⟩
    have := eText_ge z
    simp only [rText, hp]
    rw [h]; simp; omega
theorem st_nums (l : List UInt8) : (∀ z ∈ (rList (Sp.pInt 59) (some l)).1, Sp.I64 z) ∧ (rList (Sp.pInt 59) (some l)).1.length ≤ l.length ∧ (Sp.eList Sp.eInt (rList (Sp.pInt 59) (some l)).1).length ≤ l.length + 21 + 2 ∧
    ((rList (Sp.pInt 59) (some l)).2 = none ∨ ∃ u, (rList (Sp.pInt 59) (some l)).2 = some u ∧ l = Sp.eList Sp.eInt (rList (Sp.pInt 59) (some l)).1 ++ u) := by
  rcases hp : Sp.pList (Sp.pInt 59) l with _ | ⟨z, u⟩
  · simp only [rList, hp]
    exact ⟨by simp, by simp, by rw [eList_length]; have := Lib.itoa_length_le 0 (by decide) (by decide); simp [Sp.eMany]; omega, .inl (by simp)⟩
  · have h := Sp.eList_p Sp.eInt (Sp.pInt 59) (fun s a t => Sp.eInt_p) hp
    have hl : l.length = (Sp.eList Sp.eInt z).length + u.length := by rw [h]; simp
    have hg := eMany_ge Sp.eInt eInt_pos z
    have hk := eList_length Sp.eInt z
    simp only [rList, hp]
    exact ⟨pList_all (fun s a t hh => (Sp.pInt_some hh).2) hp, by omega, by omega, .inr ⟨u, rfl, h⟩⟩
theorem st_texts (l : List UInt8) : (∀ z ∈ (rList Sp.pText (some l)).1, z.length ≤ l.length) ∧ (rList Sp.pText (some l)).1.length ≤ l.length ∧ (Sp.eList Sp.eText (rList Sp.pText (some l)).1).length ≤ l.length + 21 + 2 ∧
    ((rList Sp.pText (some l)).2 = none ∨ ∃ u, (rList Sp.pText (some l)).2 = some u ∧ l = Sp.eList Sp.eText (rList Sp.pText (some l)).1 ++ u) := by
  rcases hp : Sp.pList Sp.pText l with _ | ⟨z, u⟩
  · simp only [rList, hp]
    exact ⟨by simp, by simp, by rw [eList_length]; have := Lib.itoa_length_le 0 (by decide) (by decide); simp [Sp.eMany]; omega, .inl (by simp)⟩
  · have h := Sp.eList_p Sp.eText Sp.pText (fun s a t => Sp.eText_p) hp
    have hl : l.length = (Sp.eList Sp.eText z).length + u.length := by rw [h]; simp
    have hg := eMany_ge Sp.eText eText_pos z
    have hk := eList_length Sp.eText z
    simp only [rList, hp]
    exact ⟨fun a ha => by have := eMany_mem Sp.eText z a ha; have := eText_ge a; omega, by omega, by omega, .inr ⟨u, rfl, h⟩⟩

theorem intsAt_of {lo : Nat} {w : World} {v : Value} {zs : List Int} (h : ListFrom (fun z : Int => Value.int .i64 z) lo w v zs) : IntsAt w v zs := by
  obtain ⟨a, cap, h1, h2⟩ := h
  refine ⟨a, cap, h1, ?_⟩
  rcases h2 with h2 | ⟨b, h3, _, h5, h6⟩
  · exact .inl h2
  · exact .inr ⟨b, 0, h3, h5, fun k hk => by rw [Nat.zero_add, List.getD_eq_getElem?_getD, List.getElem?_eq_getElem hk]; exact h6 k _ (List.getElem?_eq_getElem hk)⟩
theorem textsAt_of {lo : Nat} {w : World} {v : Value} {zs : List (List UInt8)} (h : ListFrom (fun z : List UInt8 => Value.string (bs z)) lo w v zs) : TextsAt w v zs := by
  obtain ⟨a, cap, h1, h2⟩ := h
  refine ⟨a, cap, h1, ?_⟩
  rcases h2 with h2 | ⟨b, h3, _, h5, h6⟩
  · exact .inl h2
  · exact .inr ⟨b, 0, h3, h5, fun k hk => by rw [Nat.zero_add, List.getD_eq_getElem?_getD, List.getElem?_eq_getElem hk]; exact h6 k _ (List.getElem?_eq_getElem hk)⟩

theorem ret_bool {a b : Bool} (h : a = b) : Ending.returned (.bool a) = .returned (.bool b) := by rw [h]
theorem again_end (l t u : List UInt8) (h : l = t ++ u) : ((bs t).toList == ((bs l).extract 0 (max 0 (min (((bs l).size : Int) - (u.length : Int)) ((bs l).size : Int))).toNat).toList) = true := by
  have e : (max 0 (min (((bs l).size : Int) - (u.length : Int)) ((bs l).size : Int))).toNat = t.length := by
    rw [bs_size, h]; simp; omega
  rw [e, bs_extract, bs_toList, bs_toList, h]
  simp

theorem again_long (s : ByteArray) (k : Int) (hl : 400 < s.size) (w : World) (he : Env w) :
    Calls Tryd.prog 6 #[.string s, .int .i64 k] w fun e w' => e = .returned (.bool true) ∧ Below w.heap.size w w' := by
  go_enter Tryd.func6, Tryd.ntmps6
  go_wp2_with (go_at_call 9; refine (small_any _ he).mono ?_; rintro e w1 ⟨rfl, b1⟩)
  go_ret
  exact ⟨rfl, b1⟩

set_option maxHeartbeats 1000000 in
theorem again_0 (l : List UInt8) (hl : (bs l).size ≤ 400) (k : Int) (hk : Sp.I64 k) (hj : k % 5 = 0) (w : World) (he : Env w) :
    Calls Tryd.prog 6 #[.string (bs l), .int .i64 k] w fun e w' => e = .returned (.bool true) ∧ Below w.heap.size w w' := by
  have hl2 : l.length ≤ 400 := by rw [bs_size] at hl; exact hl
  have HJ := Lib.hid hj
  clear hj
  go_enter Tryd.func6, Tryd.ntmps6
  go_wp2_with (go_at_call 9; refine (small_any _ he).mono ?_; rintro e w1 ⟨rfl, b1⟩; refine Hid.out ?_)
  refine Lib.hid ?_
  have e1 := he.fresh b1
  go_wp2_with (go_at_call 21; refine (open_any l _).mono ?_; rintro e w2 ⟨rfl, r2, b2⟩; refine Hid.out ?_)
  refine Lib.hid ?_
  have e2 := e1.fresh b2
  have m2 : w.heap.size ≤ w1.heap.size := b1.size
  have k2 : G0 ≤ w1.heap.size := e1.size
  have c2 := b1.trans (b2.mono m2)
  clear b1 e1 b2
  go_wp2_with (go_at_call 23; refine (kind_at k 0 hk HJ.out _ _ _ _ _).mono ?_; rintro e w3 ⟨rfl, b3⟩; refine Hid.out ?_)
  refine Lib.hid ?_
  have e3 := e2.fresh b3
  have r3 := r2.fresh b3
  have c3 := c2.trans (b3.mono c2.size)
  clear b3 e2 r2 c2
  obtain ⟨hI, hst⟩ := st_num l
  go_wp2_with (go_at_call 24; refine (num_any _ (some l) (by simp; omega) _ e3 r3).mono ?_; rintro e w4 ⟨rfl, r4, g4⟩; refine Hid.out ?_)
  refine Lib.hid ?_
  have e4 := e3.gb g4 k2
  have c4 := below_trans_gb c3 g4 m2 (Nat.le_refl _)
  clear g4 e3 r3 c3
  go_wp2_with (go_at_call 11; refine (wNum_any _ hI _ e4).mono ?_; rintro e w5 ⟨rfl, b5⟩; refine Hid.out ?_)
  refine Lib.hid ?_
  have r5 := r4.fresh b5
  have c5 := c4.trans (b5.mono c4.size)
  clear r4 e4 c4
  generalize Sp.eNum (rNum 59 (some l)).1 = t at hst ⊢
  generalize (rNum 59 (some l)).2 = st at hst r5
  rcases hst with rfl | ⟨u, rfl, hu⟩
  · go_wp2_with (first | (go_at_call 36; refine (left_any _ rfl _ none _ r5).mono ?_; rintro e w6 ⟨rfl, rfl⟩) | (go_at_call 38; refine (done_any _ none _ r5).mono ?_; rintro e w6 ⟨rfl, rfl⟩))
    go_ret
    exact ⟨rfl, c5⟩
  · have hul : u.length ≤ (bs l).size := by rw [bs_size, hu]; simp
    have HU := Lib.hid hu
    clear hu
    by_cases h0 : u = []
    · subst h0
      go_wp2_with (first | (go_at_call 36; refine (left_any _ rfl _ (some []) _ r5).mono ?_; rintro e w6 ⟨rfl, rfl⟩) | (go_at_call 38; refine (done_any _ (some []) _ r5).mono ?_; rintro e w6 ⟨rfl, rfl⟩))
      go_ret
      exact ⟨ret_bool (by rw [bs_toList, bs_toList, HU.out]; simp), c5⟩
    · have hne : ((u.length : Int) == 0) = false := by
        rw [beq_eq_false_iff_ne]
        intro e
        exact h0 (List.length_eq_zero_iff.1 (by omega))
      clear h0
      go_wp2_with (first | (go_at_call 36; refine (left_any _ rfl _ (some u) _ r5).mono ?_; rintro e w6 ⟨rfl, rfl⟩))
      go_ret
      exact ⟨ret_bool (again_end l t u HU.out), c5⟩

set_option maxHeartbeats 1000000 in
theorem again_1 (l : List UInt8) (hl : (bs l).size ≤ 400) (k : Int) (hk : Sp.I64 k) (hj : k % 5 = 1) (w : World) (he : Env w) :
    Calls Tryd.prog 6 #[.string (bs l), .int .i64 k] w fun e w' => e = .returned (.bool true) ∧ Below w.heap.size w w' := by
  have hl2 : l.length ≤ 400 := by rw [bs_size] at hl; exact hl
  have HJ := Lib.hid hj
  clear hj
  go_enter Tryd.func6, Tryd.ntmps6
  go_wp2_with (go_at_call 9; refine (small_any _ he).mono ?_; rintro e w1 ⟨rfl, b1⟩; refine Hid.out ?_)
  refine Lib.hid ?_
  have e1 := he.fresh b1
  go_wp2_with (go_at_call 21; refine (open_any l _).mono ?_; rintro e w2 ⟨rfl, r2, b2⟩; refine Hid.out ?_)
  refine Lib.hid ?_
  have e2 := e1.fresh b2
  have m2 : w.heap.size ≤ w1.heap.size := b1.size
  have k2 : G0 ≤ w1.heap.size := e1.size
  have c2 := b1.trans (b2.mono m2)
  clear b1 e1 b2
  go_wp2_with (go_at_call 23; refine (kind_at k 1 hk HJ.out _ _ _ _ _).mono ?_; rintro e w3 ⟨rfl, b3⟩; refine Hid.out ?_)
  refine Lib.hid ?_
  have e3 := e2.fresh b3
  have r3 := r2.fresh b3
  have c3 := c2.trans (b3.mono c2.size)
  clear b3 e2 r2 c2
  obtain ⟨hI, hst⟩ := st_int l
  go_wp2_with (go_at_call 26; refine (int_any _ (some l) (by simp; omega) _ e3 r3).mono ?_; rintro e w4 ⟨rfl, r4, g4⟩; refine Hid.out ?_)
  refine Lib.hid ?_
  have e4 := e3.gb g4 k2
  have c4 := below_trans_gb c3 g4 m2 (Nat.le_refl _)
  clear g4 e3 r3 c3
  go_wp2_with (go_at_call 13; refine (wInt_any _ hI _ e4).mono ?_; rintro e w5 ⟨rfl, b5⟩; refine Hid.out ?_)
  refine Lib.hid ?_
  have r5 := r4.fresh b5
  have c5 := c4.trans (b5.mono c4.size)
  clear r4 e4 c4
  generalize Sp.eInt (rInt 59 (some l)).1 = t at hst ⊢
  generalize (rInt 59 (some l)).2 = st at hst r5
  rcases hst with rfl | ⟨u, rfl, hu⟩
  · go_wp2_with (first | (go_at_call 36; refine (left_any _ rfl _ none _ r5).mono ?_; rintro e w6 ⟨rfl, rfl⟩) | (go_at_call 38; refine (done_any _ none _ r5).mono ?_; rintro e w6 ⟨rfl, rfl⟩))
    go_ret
    exact ⟨rfl, c5⟩
  · have hul : u.length ≤ (bs l).size := by rw [bs_size, hu]; simp
    have HU := Lib.hid hu
    clear hu
    by_cases h0 : u = []
    · subst h0
      go_wp2_with (first | (go_at_call 36; refine (left_any _ rfl _ (some []) _ r5).mono ?_; rintro e w6 ⟨rfl, rfl⟩) | (go_at_call 38; refine (done_any _ (some []) _ r5).mono ?_; rintro e w6 ⟨rfl, rfl⟩))
      go_ret
      exact ⟨ret_bool (by rw [bs_toList, bs_toList, HU.out]; simp), c5⟩
    · have hne : ((u.length : Int) == 0) = false := by
        rw [beq_eq_false_iff_ne]
        intro e
        exact h0 (List.length_eq_zero_iff.1 (by omega))
      clear h0
      go_wp2_with (first | (go_at_call 36; refine (left_any _ rfl _ (some u) _ r5).mono ?_; rintro e w6 ⟨rfl, rfl⟩))
      go_ret
      exact ⟨ret_bool (again_end l t u HU.out), c5⟩

set_option maxHeartbeats 1000000 in
theorem again_2 (l : List UInt8) (hl : (bs l).size ≤ 400) (k : Int) (hk : Sp.I64 k) (hj : k % 5 = 2) (w : World) (he : Env w) :
    Calls Tryd.prog 6 #[.string (bs l), .int .i64 k] w fun e w' => e = .returned (.bool true) ∧ Below w.heap.size w w' := by
  have hl2 : l.length ≤ 400 := by rw [bs_size] at hl; exact hl
  have HJ := Lib.hid hj
  clear hj
  go_enter Tryd.func6, Tryd.ntmps6
  go_wp2_with (go_at_call 9; refine (small_any _ he).mono ?_; rintro e w1 ⟨rfl, b1⟩; refine Hid.out ?_)
  refine Lib.hid ?_
  have e1 := he.fresh b1
  go_wp2_with (go_at_call 21; refine (open_any l _).mono ?_; rintro e w2 ⟨rfl, r2, b2⟩; refine Hid.out ?_)
  refine Lib.hid ?_
  have e2 := e1.fresh b2
  have m2 : w.heap.size ≤ w1.heap.size := b1.size
  have k2 : G0 ≤ w1.heap.size := e1.size
  have c2 := b1.trans (b2.mono m2)
  clear b1 e1 b2
  go_wp2_with (go_at_call 23; refine (kind_at k 2 hk HJ.out _ _ _ _ _).mono ?_; rintro e w3 ⟨rfl, b3⟩; refine Hid.out ?_)
  refine Lib.hid ?_
  have e3 := e2.fresh b3
  have r3 := r2.fresh b3
  have c3 := c2.trans (b3.mono c2.size)
  clear b3 e2 r2 c2
  obtain ⟨hI, hst⟩ := st_text l
  go_wp2_with (go_at_call 28; refine (text_any _ (some l) (by simp; omega) _ e3 r3).mono ?_; rintro e w4 ⟨rfl, r4, g4⟩; refine Hid.out ?_)
  refine Lib.hid ?_
  have e4 := e3.gb g4 k2
  have c4 := below_trans_gb c3 g4 m2 (Nat.le_refl _)
  clear g4 e3 r3 c3
  go_wp2_with (go_at_call 15; refine (wText_any _ (by omega) _ e4).mono ?_; rintro e w5 ⟨rfl, b5⟩; refine Hid.out ?_)
  refine Lib.hid ?_
  have r5 := r4.fresh b5
  have c5 := c4.trans (b5.mono c4.size)
  clear r4 e4 c4
  generalize Sp.eText (rText (some l)).1 = t at hst ⊢
  generalize (rText (some l)).2 = st at hst r5
  rcases hst with rfl | ⟨u, rfl, hu⟩
  · go_wp2_with (first | (go_at_call 36; refine (left_any _ rfl _ none _ r5).mono ?_; rintro e w6 ⟨rfl, rfl⟩) | (go_at_call 38; refine (done_any _ none _ r5).mono ?_; rintro e w6 ⟨rfl, rfl⟩))
    go_ret
    exact ⟨rfl, c5⟩
  · have hul : u.length ≤ (bs l).size := by rw [bs_size, hu]; simp
    have HU := Lib.hid hu
    clear hu
    by_cases h0 : u = []
    · subst h0
      go_wp2_with (first | (go_at_call 36; refine (left_any _ rfl _ (some []) _ r5).mono ?_; rintro e w6 ⟨rfl, rfl⟩) | (go_at_call 38; refine (done_any _ (some []) _ r5).mono ?_; rintro e w6 ⟨rfl, rfl⟩))
      go_ret
      exact ⟨ret_bool (by rw [bs_toList, bs_toList, HU.out]; simp), c5⟩
    · have hne : ((u.length : Int) == 0) = false := by
        rw [beq_eq_false_iff_ne]
        intro e
        exact h0 (List.length_eq_zero_iff.1 (by omega))
      clear h0
      go_wp2_with (first | (go_at_call 36; refine (left_any _ rfl _ (some u) _ r5).mono ?_; rintro e w6 ⟨rfl, rfl⟩))
      go_ret
      exact ⟨ret_bool (again_end l t u HU.out), c5⟩

set_option maxHeartbeats 1000000 in
theorem again_3 (l : List UInt8) (hl : (bs l).size ≤ 400) (k : Int) (hk : Sp.I64 k) (hj : k % 5 = 3) (w : World) (he : Env w) :
    Calls Tryd.prog 6 #[.string (bs l), .int .i64 k] w fun e w' => e = .returned (.bool true) ∧ Below w.heap.size w w' := by
  have hl2 : l.length ≤ 400 := by rw [bs_size] at hl; exact hl
  have HJ := Lib.hid hj
  clear hj
  go_enter Tryd.func6, Tryd.ntmps6
  go_wp2_with (go_at_call 9; refine (small_any _ he).mono ?_; rintro e w1 ⟨rfl, b1⟩; refine Hid.out ?_)
  refine Lib.hid ?_
  have e1 := he.fresh b1
  go_wp2_with (go_at_call 21; refine (open_any l _).mono ?_; rintro e w2 ⟨rfl, r2, b2⟩; refine Hid.out ?_)
  refine Lib.hid ?_
  have e2 := e1.fresh b2
  have m2 : w.heap.size ≤ w1.heap.size := b1.size
  have k2 : G0 ≤ w1.heap.size := e1.size
  have c2 := b1.trans (b2.mono m2)
  clear b1 e1 b2
  go_wp2_with (go_at_call 23; refine (kind_at k 3 hk HJ.out _ _ _ _ _).mono ?_; rintro e w3 ⟨rfl, b3⟩; refine Hid.out ?_)
  refine Lib.hid ?_
  have e3 := e2.fresh b3
  have r3 := r2.fresh b3
  have c3 := c2.trans (b3.mono c2.size)
  clear b3 e2 r2 c2
  obtain ⟨hI, hn, hm, hst⟩ := st_nums l
  have HI := Lib.hid hI
  clear hI
  go_wp2_with (go_at_call 31; refine (rNums_any _ (some l) (by simp; omega) _ e3 k2 r3).mono ?_; rintro e w4 ⟨v, rfl, l4, r4, g4⟩; refine Hid.out ?_)
  refine Lib.hid ?_
  have e4 := e3.gb g4 k2
  have c4 := below_trans_gb c3 g4 m2 (Nat.le_refl _)
  clear g4 e3 r3 c3
  go_wp2_with (go_at_call 17; refine (wNums_any _ _ _ e4 (intsAt_of l4) HI.out (by omega) (by omega)).mono ?_; rintro e w5 ⟨rfl, b5⟩; refine Hid.out ?_)
  refine Lib.hid ?_
  have r5 := r4.fresh b5
  have c5 := c4.trans (b5.mono c4.size)
  clear r4 e4 c4
  generalize Sp.eList Sp.eInt (rList (Sp.pInt 59) (some l)).1 = t at hst ⊢
  generalize (rList (Sp.pInt 59) (some l)).2 = st at hst r5
  rcases hst with rfl | ⟨u, rfl, hu⟩
  · go_wp2_with (first | (go_at_call 36; refine (left_any _ rfl _ none _ r5).mono ?_; rintro e w6 ⟨rfl, rfl⟩) | (go_at_call 38; refine (done_any _ none _ r5).mono ?_; rintro e w6 ⟨rfl, rfl⟩))
    go_ret
    exact ⟨rfl, c5⟩
  · have hul : u.length ≤ (bs l).size := by rw [bs_size, hu]; simp
    have HU := Lib.hid hu
    clear hu
    by_cases h0 : u = []
    · subst h0
      go_wp2_with (first | (go_at_call 36; refine (left_any _ rfl _ (some []) _ r5).mono ?_; rintro e w6 ⟨rfl, rfl⟩) | (go_at_call 38; refine (done_any _ (some []) _ r5).mono ?_; rintro e w6 ⟨rfl, rfl⟩))
      go_ret
      exact ⟨ret_bool (by rw [bs_toList, bs_toList, HU.out]; simp), c5⟩
    · have hne : ((u.length : Int) == 0) = false := by
        rw [beq_eq_false_iff_ne]
        intro e
        exact h0 (List.length_eq_zero_iff.1 (by omega))
      clear h0
      go_wp2_with (first | (go_at_call 36; refine (left_any _ rfl _ (some u) _ r5).mono ?_; rintro e w6 ⟨rfl, rfl⟩))
      go_ret
      exact ⟨ret_bool (again_end l t u HU.out), c5⟩

set_option maxHeartbeats 1000000 in
theorem again_4 (l : List UInt8) (hl : (bs l).size ≤ 400) (k : Int) (hk : Sp.I64 k) (hj : k % 5 = 4) (w : World) (he : Env w) :
    Calls Tryd.prog 6 #[.string (bs l), .int .i64 k] w fun e w' => e = .returned (.bool true) ∧ Below w.heap.size w w' := by
  have hl2 : l.length ≤ 400 := by rw [bs_size] at hl; exact hl
  have HJ := Lib.hid hj
  clear hj
  go_enter Tryd.func6, Tryd.ntmps6
  go_wp2_with (go_at_call 9; refine (small_any _ he).mono ?_; rintro e w1 ⟨rfl, b1⟩; refine Hid.out ?_)
  refine Lib.hid ?_
  have e1 := he.fresh b1
  go_wp2_with (go_at_call 21; refine (open_any l _).mono ?_; rintro e w2 ⟨rfl, r2, b2⟩; refine Hid.out ?_)
  refine Lib.hid ?_
  have e2 := e1.fresh b2
  have m2 : w.heap.size ≤ w1.heap.size := b1.size
  have k2 : G0 ≤ w1.heap.size := e1.size
  have c2 := b1.trans (b2.mono m2)
  clear b1 e1 b2
  go_wp2_with (go_at_call 23; refine (kind_at k 4 hk HJ.out _ _ _ _ _).mono ?_; rintro e w3 ⟨rfl, b3⟩; refine Hid.out ?_)
  refine Lib.hid ?_
  have e3 := e2.fresh b3
  have r3 := r2.fresh b3
  have c3 := c2.trans (b3.mono c2.size)
  clear b3 e2 r2 c2
  obtain ⟨hI, hn, hm, hst⟩ := st_texts l
  have HI := Lib.hid hI
  clear hI
  go_wp2_with (go_at_call 34; refine (rTexts_any _ (some l) (by simp; omega) _ e3 k2 r3).mono ?_; rintro e w4 ⟨v, rfl, l4, r4, g4⟩; refine Hid.out ?_)
  refine Lib.hid ?_
  have e4 := e3.gb g4 k2
  have c4 := below_trans_gb c3 g4 m2 (Nat.le_refl _)
  clear g4 e3 r3 c3
  go_wp2_with (go_at_call 19; refine (wTexts_any _ _ _ e4 (textsAt_of l4) (fun z hz => by have := HI.out z hz; omega) (by omega) (by omega)).mono ?_; rintro e w5 ⟨rfl, b5⟩; refine Hid.out ?_)
  refine Lib.hid ?_
  have r5 := r4.fresh b5
  have c5 := c4.trans (b5.mono c4.size)
  clear r4 e4 c4
  generalize Sp.eList Sp.eText (rList Sp.pText (some l)).1 = t at hst ⊢
  generalize (rList Sp.pText (some l)).2 = st at hst r5
  rcases hst with rfl | ⟨u, rfl, hu⟩
  · go_wp2_with (first | (go_at_call 36; refine (left_any _ rfl _ none _ r5).mono ?_; rintro e w6 ⟨rfl, rfl⟩) | (go_at_call 38; refine (done_any _ none _ r5).mono ?_; rintro e w6 ⟨rfl, rfl⟩))
    go_ret
    exact ⟨rfl, c5⟩
  · have hul : u.length ≤ (bs l).size := by rw [bs_size, hu]; simp
    have HU := Lib.hid hu
    clear hu
    by_cases h0 : u = []
    · subst h0
      go_wp2_with (first | (go_at_call 36; refine (left_any _ rfl _ (some []) _ r5).mono ?_; rintro e w6 ⟨rfl, rfl⟩) | (go_at_call 38; refine (done_any _ (some []) _ r5).mono ?_; rintro e w6 ⟨rfl, rfl⟩))
      go_ret
      exact ⟨ret_bool (by rw [bs_toList, bs_toList, HU.out]; simp), c5⟩
    · have hne : ((u.length : Int) == 0) = false := by
        rw [beq_eq_false_iff_ne]
        intro e
        exact h0 (List.length_eq_zero_iff.1 (by omega))
      clear h0
      go_wp2_with (first | (go_at_call 36; refine (left_any _ rfl _ (some u) _ r5).mono ?_; rintro e w6 ⟨rfl, rfl⟩))
      go_ret
      exact ⟨ret_bool (again_end l t u HU.out), c5⟩

theorem again_walk (s : ByteArray) (k : Int) (hk : Sp.I64 k) (w : World) (he : Env w) :
    Calls Tryd.prog 6 #[.string s, .int .i64 k] w fun e w' => e = .returned (.bool true) ∧ Below w.heap.size w w' := by
  by_cases hl : s.size ≤ 400
  · obtain ⟨l, rfl⟩ : ∃ l, s = bs l := ⟨s.data.toList, (bs_of s).symm⟩
    by_cases h0 : k % 5 = 0
    · exact again_0 l hl k hk h0 w he
    by_cases h1 : k % 5 = 1
    · exact again_1 l hl k hk h1 w he
    by_cases h2 : k % 5 = 2
    · exact again_2 l hl k hk h2 w he
    by_cases h3 : k % 5 = 3
    · exact again_3 l hl k hk h3 w he
    · exact again_4 l hl k hk (by omega) w he
  · exact again_long s k (by omega) w he
end Go.Proofs.YtplejiaddemjhaaDoor
