/-
  The reference's reader: Text, Nums, Texts.
  Conditions: the reader lies in a block of its own; at most 400 bytes are left.
-/
import Derived.Test.YtplejiaddemjhaaDoorRead3
namespace Go.Proofs.YtplejiaddemjhaaDoor
open Go.RowKit Go.Shelf

theorem qText_bad (b : Nat) (st : Option (List UInt8)) (hs : (st.getD []).length ≤ 400) (hr : rNum 58 st = (0, none)) (w : World) (h : RdAt 56 b st w) :
    Calls Tryd.prog 29 #[.pointer (some ⟨b, 0, none⟩)] w (Left 56 b (.string (bs [])) none w) := by
  have HN := qNumber_any b 58 st hs
  rw [hr] at HN
  have HN' := Lib.hid HN
  clear hr HN
  go_enter Tryd.func29, Tryd.ntmps29
  go_wp2_with (go_at_call 49; refine (HN'.out _ h).mono ?_; rintro x w1 ⟨rfl, h1, g1⟩; refine Hid.out ?_)
  refine Lib.hid ?_
  have c1 : w1.cell? ⟨b, 1, none⟩ = some (.bool true) := h1.c1
  go_wp2_with (go_at_call 55; refine (qFail_any b _ _ h1).mono ?_; rintro x w2 ⟨rfl, h2, g2⟩)
  go_ret
  exact ⟨rfl, h2, gb_trans g1 g2⟩

theorem qText_long (b : Nat) (st : Option (List UInt8)) (hs : (st.getD []).length ≤ 400) (n : Int) (t : List UInt8) (hr : rNum 58 st = (n, some t)) (hn : (t.length : Int) ≤ n) (w : World) (h : RdAt 56 b st w) :
    Calls Tryd.prog 29 #[.pointer (some ⟨b, 0, none⟩)] w (Left 56 b (.string (bs [])) none w) := by
  have HN := qNumber_any b 58 st hs
  rw [hr] at HN
  have HN' := Lib.hid HN
  have hz : ((bs t).size : Int) ≤ n := by rw [bs_size]; exact hn
  clear hr HN hn
  go_enter Tryd.func29, Tryd.ntmps29
  go_wp2_with (go_at_call 49; refine (HN'.out _ h).mono ?_; rintro x w1 ⟨rfl, h1, g1⟩; refine Hid.out ?_)
  refine Lib.hid ?_
  have c0 : w1.cell? ⟨b, 0, none⟩ = some (.string (bs t)) := h1.c0
  have c1 : w1.cell? ⟨b, 1, none⟩ = some (.bool false) := h1.c1
  go_wp2_with (go_at_call 55; refine (qFail_any b _ _ h1).mono ?_; rintro x w2 ⟨rfl, h2, g2⟩)
  go_ret
  exact ⟨rfl, h2, gb_trans g1 g2⟩

set_option maxHeartbeats 400000 in
theorem qText_tail (b : Nat) (st : Option (List UInt8)) (hs : (st.getD []).length ≤ 400) (n : Nat) (t : List UInt8) (hr : rNum 58 st = ((n : Int), some t)) (hn : n < t.length) (q : Bool) (st' : Option (List UInt8)) (hk : rSkip 44 (some (t.drop n)) = (q, st')) (w : World) (h : RdAt 56 b st w) :
    Calls Tryd.prog 29 #[.pointer (some ⟨b, 0, none⟩)] w (Left 56 b (.string (bs (if q then t.take n else []))) st' w) := by
  have HN := qNumber_any b 58 st hs
  rw [hr] at HN
  have HN' := Lib.hid HN
  have HK := qClose_any b 44 (some (t.drop n))
  rw [hk] at HK
  have HK' := Lib.hid HK
  have hz : n < (bs t).size := by rw [bs_size]; exact hn
  have HT := Lib.hid (show (bs t).extract 0 n = bs (t.take n) by rw [bs_extract]; simp)
  have HD := Lib.hid (show (bs t).extract n (bs t).size = bs (t.drop n) by rw [bs_extract, bs_size, List.take_of_length_le (by simp)])
  clear hr HN hk HK
  cases q
  all_goals
    go_enter Tryd.func29, Tryd.ntmps29
    go_wp2_with (go_at_call 49; refine (HN'.out _ h).mono ?_; rintro x w1 ⟨rfl, h1, g1⟩; refine Hid.out ?_)
    refine Lib.hid ?_
    have c0 : w1.cell? ⟨b, 0, none⟩ = some (.string (bs t)) := h1.c0
    have c1 : w1.cell? ⟨b, 1, none⟩ = some (.bool false) := h1.c1
    have f1 := h1.f 0
    have h2 := RdAt.set (t := t.drop n) h1
    have g2 := gb_set (p := ⟨b, 0, none⟩) g1 (.inl rfl) (.string (bs (t.drop n)))
    go_wp2_with (go_at_call 56; rw [HD.out]; refine (HK'.out _ h2).mono ?_; rintro x w3 ⟨rfl, h3, g3⟩; refine Hid.out ?_)
    refine Lib.hid ?_
    have g4 := gb_trans g2 g3
    clear h1 g1 c0 c1 f1 h2 g2 g3
    go_wp2
    go_ret
  · exact ⟨rfl, h3, g4⟩
  · exact ⟨ret_string HT.out, h3, g4⟩

theorem qrText_any (b : Nat) (st : Option (List UInt8)) (hs : (st.getD []).length ≤ 400) (w : World) (h : RdAt 56 b st w) :
    Calls Tryd.prog 29 #[.pointer (some ⟨b, 0, none⟩)] w (Left 56 b (.string (bs (rText st).1)) (rText st).2 w) := by
  cases st with
  | none => exact qText_bad b none hs rfl w h
  | some s =>
    rcases hp : Sp.pNum 58 s with _ | ⟨n, t⟩
    · have hr : rText (some s) = ([], none) := by simp [rText, Sp.pText, hp]
      rw [hr]
      exact qText_bad b (some s) hs (by simp [rNum, hp]) w h
    · obtain ⟨_, _, h0⟩ := Sp.pNum_some hp
      have hr0 : rNum 58 (some s) = (n, some t) := by simp [rNum, hp]
      by_cases hn : (t.length : Int) ≤ n
      · have hr : rText (some s) = ([], none) := by
          rcases Int.lt_or_le (t.length : Int) n with h' | h'
          · simp [rText, Sp.pText, hp, h']
          · have e : t.drop n.toNat = [] := List.drop_eq_nil_of_le (by omega)
            simp [rText, Sp.pText, hp, show ¬ ((t.length : Int) < n) by omega, e, Sp.skip]
        rw [hr]
        exact qText_long b (some s) hs n t hr0 hn w h
      · obtain ⟨k, rfl⟩ := Int.eq_ofNat_of_zero_le h0
        have hlt : k < t.length := by omega
        rcases hk : Sp.skip 44 (t.drop k) with _ | u
        · have hr : rText (some s) = ([], none) := by simp [rText, Sp.pText, hp, show ¬ ((t.length : Int) < (k : Int)) by omega, hk]
          rw [hr]
          exact qText_tail b (some s) hs k t hr0 hlt false none (by simp [rSkip, hk]) w h
        · have hr : rText (some s) = (t.take k, some u) := by simp [rText, Sp.pText, hp, show ¬ ((t.length : Int) < (k : Int)) by omega, hk]
          rw [hr]
          exact qText_tail b (some s) hs k t hr0 hlt true (some u) (by simp [rSkip, hk]) w h

set_option maxHeartbeats 2000000 in
theorem qNums_list (b : Nat) (n : Nat) (st : Option (List UInt8)) (t : List UInt8) (hs : (st.getD []).length ≤ 400) (ht : t.length ≤ 400) (hr : rNum 91 st = ((n : Int), some t)) (w : World) (h : RdAt 56 b st w) (res : List (Int) × Option (List UInt8))
    (hres : ∀ xs st', Prog (Sp.pInt 59) n t xs st' → (st' = none → res = ([], none)) ∧ (∀ u, st' = some u → xs.length = n → res = if (rSkip 93 (some u)).1 then (xs, (rSkip 93 (some u)).2) else ([], none))) :
    Calls Tryd.prog 32 #[.pointer (some ⟨b, 0, none⟩)] w (LeftList (fun z : Int => Value.int .i64 z) 56 b res.1 res.2 w) := by
  obtain ⟨i0, hi, hz0, hz1, hz2⟩ := info_parts int_info
  have hblt := h.lt
  have HN := qNumber_any b 91 st hs
  rw [hr] at HN
  have HN' := Lib.hid HN
  have HR := Lib.hid hres
  clear hr HN hres
  go_enter Tryd.func32, Tryd.ntmps32
  go_wp2_with (go_at_call 49; refine (HN'.out _ h).mono ?_; rintro x w1 ⟨rfl, h1, g1⟩; refine Hid.out ?_)
  refine Lib.hid ?_
  clear h
  go_wp2
  go_loopw [4, 5] (fun v i wr => ∃ (xs : List (Int)) (st' : Option (List UInt8)), i = .int .i64 xs.length ∧ xs.length ≤ t.length + 1 ∧ wr.ownsRow w.heap.size 3 1 v xs.length (xs.map (fun z : Int => Value.int .i64 z)) ∧ Hid (Prog (Sp.pInt 59) n t xs st') ∧ RdAt 56 b st' wr ∧ w.grownBy wr (some b)) (fun _ i _ => n - (intOf i).toNat)
  case atStart => exact ⟨[], some t, rfl, by simp, World.ownsRow_nil _ _ _ _, Lib.hid (Prog.start _ n t), h1, g1⟩
  case round =>
    obtain ⟨xs, st', rfl, hxl, hown, HP, hrd, gr⟩ := hrel
    clear h1 g1 w1
    have hsr := gr.size
    cases st' with
    | none =>
      have c1 : wr.cell? ⟨b, 1, none⟩ = some (.bool true) := hrd.c1
      have hr1 := (HR.out xs none HP.out).1 rfl
      subst hr1
      by_cases hlt : xs.length < n
      all_goals
        go_wp2
        go_ret
        exact ⟨_, rfl, listFrom_nil _ _ _, hrd, gr⟩
    | some u =>
      have c1 : wr.cell? ⟨b, 1, none⟩ = some (.bool false) := hrd.c1
      by_cases hlt : xs.length < n
      · have hxl2 : xs.length + u.length ≤ t.length := HP.out.2.1
        obtain ⟨a, st2, hR⟩ : ∃ a st2, rInt 59 (some u) = (a, st2) := ⟨_, _, rfl⟩
        have HP2 : Hid (Prog (Sp.pInt 59) n t (xs ++ [a]) st2) := by
          rcases hp : (Sp.pInt 59) u with _ | ⟨a', v'⟩
          · have : rInt 59 (some u) = (0, none) := by simp [rInt, hp]
            rw [this] at hR
            injection hR with e1 e2
            subst e1; subst e2
            exact Lib.hid (HP.out.bad hlt hp _)
          · have : rInt 59 (some u) = (a', some v') := by simp [rInt, hp]
            rw [this] at hR
            injection hR with e1 e2
            subst e1; subst e2
            exact Lib.hid (HP.out.good hlt hp (Sp.pInt_less hp))
        have HC := qrInt_any b (some u) (by simp; omega)
        rw [hR] at HC
        have HC' := Lib.hid HC
        clear HC hR
        go_wp2_with (go_at_call 27; refine (HC'.out _ hrd).mono ?_; rintro x w2 ⟨rfl, h2, g2⟩; refine Hid.out ?_)
        refine Lib.hid ?_
        have hown2 := hown.kept g2 (.inr (own_reader hown (by omega)))
        have gr2 := gb_trans gr g2
        have hs2 := gr2.size
        clear hrd gr g2 c1
        go_wp2_with (at_builtin; refine wpList_append_own _ rfl _ _ 22 rfl w.heap.size 3 i0 (.int .i64 0) 1 8 Tryd.underlying22 hi hz0 hz1 hz2 rfl (by decide) _ _ _ rfl (hown2.alloc _) ⟨w2.heap.size, 0, none⟩ 1 1 [.int .i64 a] rfl rfl ?c1 ?c2 ?c3 ?c4 ?c5 ?_)
        case c1 =>
          intro j y hj
          match j, hj with
          | 0, hj => simp at hj; subst hj; simp [Addr.add]
        case c2 => intro y hy; simp at hy; subst hy; rfl
        case c3 => unfold maxLen; omega
        case c4 => omega
        case c5 => simp; omega
        intro v' w3 hown3 hgrow _
        have h3 : RdAt 56 b st2 w3 := by
          refine RdAt.old (w := w2.alloc (.cells #[.int .i64 a] 3)) ?_ hgrow (fun e => own_reader hown2 (by omega) e.symm)
          exact RdAt.fresh h2 ((Below.refl _ _).alloc (Nat.le_refl _) _)
        have g3 : w.grownBy w3 (some b) := gb_own (gb_alloc gr2 _) hgrow (fun i hi => (hown2.lt i hi).1)
        have hown4 : w3.ownsRow w.heap.size 3 1 v' (xs ++ [a]).length ((xs ++ [a]).map (fun z : Int => Value.int .i64 z)) := by simpa using hown3
        clear hown hown2 hown3 hgrow h2 gr2
        go_wp2
        go_roundw
        case rel => exact ⟨xs ++ [a], st2, by simp, by simp; omega, hown4, HP2, h3, g3⟩
        case measure => simp [intOf]; omega
      · have hxn : xs.length = n := by have := HP.out.1; omega
        have hr1 := (HR.out xs (some u) HP.out).2 u rfl hxn
        obtain ⟨q, st2, hk⟩ : ∃ q st2, rSkip 93 (some u) = (q, st2) := ⟨_, _, rfl⟩
        have HK := qClose_any b 93 (some u)
        rw [hk] at HK hr1
        have HK' := Lib.hid HK
        clear HK hxn
        have hst : q = false → st2 = none := rSkip_false hk
        clear hk
        cases q
        all_goals
          simp only [if_true, if_false, Bool.false_eq_true] at hr1
          subst hr1
          go_wp2_with (go_at_call 56; refine (HK'.out _ hrd).mono ?_; rintro x w2 ⟨rfl, h2, g2⟩)
          go_ret
        · exact ⟨_, rfl, listFrom_nil _ _ _, hst (by simp) ▸ h2, gb_trans gr g2⟩
        · exact ⟨_, rfl, listFrom_own (hown.kept g2 (.inr (own_reader hown (by omega)))), h2, gb_trans gr g2⟩

theorem qNums_none (b : Nat) (st : Option (List UInt8)) (hs : (st.getD []).length ≤ 400) (hr : rNum 91 st = (0, none)) (w : World) (h : RdAt 56 b st w) :
    Calls Tryd.prog 32 #[.pointer (some ⟨b, 0, none⟩)] w (LeftList (fun z : Int => Value.int .i64 z) 56 b [] none w) := by
  have HN := qNumber_any b 91 st hs
  rw [hr] at HN
  have HN' := Lib.hid HN
  clear hr HN
  go_enter Tryd.func32, Tryd.ntmps32
  go_wp2_with (go_at_call 49; refine (HN'.out _ h).mono ?_; rintro x w1 ⟨rfl, h1, g1⟩; refine Hid.out ?_)
  refine Lib.hid ?_
  clear h
  go_wp2
  go_loopw [4, 5] (fun v i wr => i = .int .i64 0 ∧ v = .slice none 0 0 ∧ RdAt 56 b none wr ∧ w.grownBy wr (some b)) (fun _ _ _ => 0)
  case atStart => exact ⟨rfl, rfl, h1, g1⟩
  case round =>
    obtain ⟨rfl, rfl, hrd, gr⟩ := hrel
    clear h1 g1 w1
    have c1 : wr.cell? ⟨b, 1, none⟩ = some (.bool true) := hrd.c1
    go_wp2
    go_ret
    exact ⟨_, rfl, listFrom_nil _ _ _, hrd, gr⟩

theorem qrNums_any (b : Nat) (st : Option (List UInt8)) (hs : (st.getD []).length ≤ 400) (w : World) (h : RdAt 56 b st w) :
    Calls Tryd.prog 32 #[.pointer (some ⟨b, 0, none⟩)] w (LeftList (fun z : Int => Value.int .i64 z) 56 b (rList (Sp.pInt 59) st).1 (rList (Sp.pInt 59) st).2 w) := by
  cases st with
  | none => exact qNums_none b none hs rfl w h
  | some s =>
    rcases hp : Sp.pNum 91 s with _ | ⟨n, t⟩
    · have hr : rList (Sp.pInt 59) (some s) = ([], none) := by simp [rList, Sp.pList, hp]
      rw [hr]
      exact qNums_none b (some s) hs (by simp [rNum, hp]) w h
    · obtain ⟨h1, _, h2⟩ := Sp.pNum_some hp
      obtain ⟨k, rfl⟩ := Int.eq_ofNat_of_zero_le h2
      have ht : t.length ≤ 400 := by
        have : t.length ≤ s.length := by rw [h1]; simp; omega
        simp at hs; omega
      refine qNums_list b k (some s) t hs ht (by simp [rNum, hp]) w h _ (fun xs st' hP => ⟨fun e => ?_, fun u e hx => ?_⟩)
      · subst e
        have hm : Sp.pMany (Sp.pInt 59) k t = none := hP
        simp [rList, Sp.pList, hp, hm]
      · subst e
        have hm := hP.2.2
        rw [hx, Nat.sub_self] at hm
        simp only [Sp.pMany, Option.map_some, List.append_nil] at hm
        rcases hk : Sp.skip 93 u with _ | v
        · simp [rList, Sp.pList, hp, hm, rSkip, hk]
        · simp [rList, Sp.pList, hp, hm, rSkip, hk]

set_option maxHeartbeats 2000000 in
theorem qTexts_list (b : Nat) (n : Nat) (st : Option (List UInt8)) (t : List UInt8) (hs : (st.getD []).length ≤ 400) (ht : t.length ≤ 400) (hr : rNum 91 st = ((n : Int), some t)) (w : World) (h : RdAt 56 b st w) (res : List (List UInt8) × Option (List UInt8))
    (hres : ∀ xs st', Prog Sp.pText n t xs st' → (st' = none → res = ([], none)) ∧ (∀ u, st' = some u → xs.length = n → res = if (rSkip 93 (some u)).1 then (xs, (rSkip 93 (some u)).2) else ([], none))) :
    Calls Tryd.prog 35 #[.pointer (some ⟨b, 0, none⟩)] w (LeftList (fun z : List UInt8 => Value.string (bs z)) 56 b res.1 res.2 w) := by
  obtain ⟨i0, hi, hz0, hz1, hz2⟩ := info_parts string_info
  have hblt := h.lt
  have HN := qNumber_any b 91 st hs
  rw [hr] at HN
  have HN' := Lib.hid HN
  have HR := Lib.hid hres
  clear hr HN hres
  go_enter Tryd.func35, Tryd.ntmps35
  go_wp2_with (go_at_call 49; refine (HN'.out _ h).mono ?_; rintro x w1 ⟨rfl, h1, g1⟩; refine Hid.out ?_)
  refine Lib.hid ?_
  clear h
  go_wp2
  go_loopw [4, 5] (fun v i wr => ∃ (xs : List (List UInt8)) (st' : Option (List UInt8)), i = .int .i64 xs.length ∧ xs.length ≤ t.length + 1 ∧ wr.ownsRow w.heap.size 9 1 v xs.length (xs.map (fun z : List UInt8 => Value.string (bs z))) ∧ Hid (Prog Sp.pText n t xs st') ∧ RdAt 56 b st' wr ∧ w.grownBy wr (some b)) (fun _ i _ => n - (intOf i).toNat)
  case atStart => exact ⟨[], some t, rfl, by simp, World.ownsRow_nil _ _ _ _, Lib.hid (Prog.start _ n t), h1, g1⟩
  case round =>
    obtain ⟨xs, st', rfl, hxl, hown, HP, hrd, gr⟩ := hrel
    clear h1 g1 w1
    have hsr := gr.size
    cases st' with
    | none =>
      have c1 : wr.cell? ⟨b, 1, none⟩ = some (.bool true) := hrd.c1
      have hr1 := (HR.out xs none HP.out).1 rfl
      subst hr1
      by_cases hlt : xs.length < n
      all_goals
        go_wp2
        go_ret
        exact ⟨_, rfl, listFrom_nil _ _ _, hrd, gr⟩
    | some u =>
      have c1 : wr.cell? ⟨b, 1, none⟩ = some (.bool false) := hrd.c1
      by_cases hlt : xs.length < n
      · have hxl2 : xs.length + u.length ≤ t.length := HP.out.2.1
        obtain ⟨a, st2, hR⟩ : ∃ a st2, rText (some u) = (a, st2) := ⟨_, _, rfl⟩
        have HP2 : Hid (Prog Sp.pText n t (xs ++ [a]) st2) := by
          rcases hp : Sp.pText u with _ | ⟨a', v'⟩
          · have : rText (some u) = ([], none) := by simp [rText, hp]
            rw [this] at hR
            injection hR with e1 e2
            subst e1; subst e2
            exact Lib.hid (HP.out.bad hlt hp _)
          · have : rText (some u) = (a', some v') := by simp [rText, hp]
            rw [this] at hR
            injection hR with e1 e2
            subst e1; subst e2
            exact Lib.hid (HP.out.good hlt hp (Sp.pText_less hp))
        have HC := qrText_any b (some u) (by simp; omega)
        rw [hR] at HC
        have HC' := Lib.hid HC
        clear HC hR
        go_wp2_with (go_at_call 29; refine (HC'.out _ hrd).mono ?_; rintro x w2 ⟨rfl, h2, g2⟩; refine Hid.out ?_)
        refine Lib.hid ?_
        have hown2 := hown.kept g2 (.inr (own_reader hown (by omega)))
        have gr2 := gb_trans gr g2
        have hs2 := gr2.size
        clear hrd gr g2 c1
        go_wp2_with (at_builtin; refine wpList_append_own _ rfl _ _ 23 rfl w.heap.size 9 i0 (.string ⟨#[]⟩) 1 16 Tryd.underlying23 hi hz0 hz1 hz2 rfl (by decide) _ _ _ rfl (hown2.alloc _) ⟨w2.heap.size, 0, none⟩ 1 1 [.string (bs a)] rfl rfl ?c1 ?c2 ?c3 ?c4 ?c5 ?_)
        case c1 =>
          intro j y hj
          match j, hj with
          | 0, hj => simp at hj; subst hj; simp [Addr.add]
        case c2 => intro y hy; simp at hy; subst hy; rfl
        case c3 => unfold maxLen; omega
        case c4 => omega
        case c5 => simp; omega
        intro v' w3 hown3 hgrow _
        have h3 : RdAt 56 b st2 w3 := by
          refine RdAt.old (w := w2.alloc (.cells #[.string (bs a)] 9)) ?_ hgrow (fun e => own_reader hown2 (by omega) e.symm)
          exact RdAt.fresh h2 ((Below.refl _ _).alloc (Nat.le_refl _) _)
        have g3 : w.grownBy w3 (some b) := gb_own (gb_alloc gr2 _) hgrow (fun i hi => (hown2.lt i hi).1)
        have hown4 : w3.ownsRow w.heap.size 9 1 v' (xs ++ [a]).length ((xs ++ [a]).map (fun z : List UInt8 => Value.string (bs z))) := by simpa using hown3
        clear hown hown2 hown3 hgrow h2 gr2
        go_wp2
        go_roundw
        case rel => exact ⟨xs ++ [a], st2, by simp, by simp; omega, hown4, HP2, h3, g3⟩
        case measure => simp [intOf]; omega
      · have hxn : xs.length = n := by have := HP.out.1; omega
        have hr1 := (HR.out xs (some u) HP.out).2 u rfl hxn
        obtain ⟨q, st2, hk⟩ : ∃ q st2, rSkip 93 (some u) = (q, st2) := ⟨_, _, rfl⟩
        have HK := qClose_any b 93 (some u)
        rw [hk] at HK hr1
        have HK' := Lib.hid HK
        clear HK hxn
        have hst : q = false → st2 = none := rSkip_false hk
        clear hk
        cases q
        all_goals
          simp only [if_true, if_false, Bool.false_eq_true] at hr1
          subst hr1
          go_wp2_with (go_at_call 56; refine (HK'.out _ hrd).mono ?_; rintro x w2 ⟨rfl, h2, g2⟩)
          go_ret
        · exact ⟨_, rfl, listFrom_nil _ _ _, hst (by simp) ▸ h2, gb_trans gr g2⟩
        · exact ⟨_, rfl, listFrom_own (hown.kept g2 (.inr (own_reader hown (by omega)))), h2, gb_trans gr g2⟩

theorem qTexts_none (b : Nat) (st : Option (List UInt8)) (hs : (st.getD []).length ≤ 400) (hr : rNum 91 st = (0, none)) (w : World) (h : RdAt 56 b st w) :
    Calls Tryd.prog 35 #[.pointer (some ⟨b, 0, none⟩)] w (LeftList (fun z : List UInt8 => Value.string (bs z)) 56 b [] none w) := by
  have HN := qNumber_any b 91 st hs
  rw [hr] at HN
  have HN' := Lib.hid HN
  clear hr HN
  go_enter Tryd.func35, Tryd.ntmps35
  go_wp2_with (go_at_call 49; refine (HN'.out _ h).mono ?_; rintro x w1 ⟨rfl, h1, g1⟩; refine Hid.out ?_)
  refine Lib.hid ?_
  clear h
  go_wp2
  go_loopw [4, 5] (fun v i wr => i = .int .i64 0 ∧ v = .slice none 0 0 ∧ RdAt 56 b none wr ∧ w.grownBy wr (some b)) (fun _ _ _ => 0)
  case atStart => exact ⟨rfl, rfl, h1, g1⟩
  case round =>
    obtain ⟨rfl, rfl, hrd, gr⟩ := hrel
    clear h1 g1 w1
    have c1 : wr.cell? ⟨b, 1, none⟩ = some (.bool true) := hrd.c1
    go_wp2
    go_ret
    exact ⟨_, rfl, listFrom_nil _ _ _, hrd, gr⟩

theorem qrTexts_any (b : Nat) (st : Option (List UInt8)) (hs : (st.getD []).length ≤ 400) (w : World) (h : RdAt 56 b st w) :
    Calls Tryd.prog 35 #[.pointer (some ⟨b, 0, none⟩)] w (LeftList (fun z : List UInt8 => Value.string (bs z)) 56 b (rList Sp.pText st).1 (rList Sp.pText st).2 w) := by
  cases st with
  | none => exact qTexts_none b none hs rfl w h
  | some s =>
    rcases hp : Sp.pNum 91 s with _ | ⟨n, t⟩
    · have hr : rList Sp.pText (some s) = ([], none) := by simp [rList, Sp.pList, hp]
      rw [hr]
      exact qTexts_none b (some s) hs (by simp [rNum, hp]) w h
    · obtain ⟨h1, _, h2⟩ := Sp.pNum_some hp
      obtain ⟨k, rfl⟩ := Int.eq_ofNat_of_zero_le h2
      have ht : t.length ≤ 400 := by
        have : t.length ≤ s.length := by rw [h1]; simp; omega
        simp at hs; omega
      refine qTexts_list b k (some s) t hs ht (by simp [rNum, hp]) w h _ (fun xs st' hP => ⟨fun e => ?_, fun u e hx => ?_⟩)
      · subst e
        have hm : Sp.pMany Sp.pText k t = none := hP
        simp [rList, Sp.pList, hp, hm]
      · subst e
        have hm := hP.2.2
        rw [hx, Nat.sub_self] at hm
        simp only [Sp.pMany, Option.map_some, List.append_nil] at hm
        rcases hk : Sp.skip 93 u with _ | v
        · simp [rList, Sp.pList, hp, hm, rSkip, hk]
        · simp [rList, Sp.pList, hp, hm, rSkip, hk]
end Go.Proofs.YtplejiaddemjhaaDoor
