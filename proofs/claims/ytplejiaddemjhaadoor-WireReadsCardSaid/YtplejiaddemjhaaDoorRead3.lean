/-
  The reference's reader: fail, close, ahead, number.
  Conditions: the reader lies in a block of its own.
-/
import Derived.Test.YtplejiaddemjhaaDoorBackq
namespace Go.Proofs.YtplejiaddemjhaaDoor
open Go.RowKit Go.Shelf

theorem qFail_any (b : Nat) (st : Option (List UInt8)) (w : World) (h : RdAt 56 b st w) :
    Calls Tryd.prog 55 #[.pointer (some ⟨b, 0, none⟩)] w (Left 56 b (.int .i64 0) none w) := by
  have c0 := h.c0
  have c1 := h.c1
  have f0 := h.f 0
  have f1 := h.f 1
  go_enter Tryd.func55, Tryd.ntmps55
  go_wp2
  go_ret
  refine ⟨rfl, ?_, ?_⟩
  · exact h.failed
  · refine gb_set (p := ⟨b, 1, none⟩) ?_ (.inl rfl) _
    exact gb_set (p := ⟨b, 0, none⟩) (gb_refl _ _) (.inl rfl) _

theorem qClose_nil (b : Nat) (c : Int) (st : Option (List UInt8)) (hs : st.getD [] = []) (w : World) (h : RdAt 56 b st w) :
    Calls Tryd.prog 56 #[.pointer (some ⟨b, 0, none⟩), .int .u8 c] w (Left 56 b (.bool false) none w) := by
  have c0 := h.c0
  rw [hs] at c0
  have hl : (bs []).size = 0 := by rw [bs_size]; rfl
  clear hs
  go_enter Tryd.func56, Tryd.ntmps56
  go_wp2_with (go_at_call 55; refine (qFail_any b _ _ h).mono ?_; rintro e w1 ⟨rfl, h1, g1⟩)
  go_ret
  exact ⟨rfl, h1, g1⟩
theorem qClose_no (b : Nat) (c x : UInt8) (t : List UInt8) (hx : x ≠ c) (w : World) (h : RdAt 56 b (some (x :: t)) w) :
    Calls Tryd.prog 56 #[.pointer (some ⟨b, 0, none⟩), .int .u8 c.toNat] w (Left 56 b (.bool false) none w) := by
  have c0 : w.cell? ⟨b, 0, none⟩ = some (.string (bs (x :: t))) := h.c0
  have hz : 0 < (bs (x :: t)).size := by rw [bs_size]; simp
  have hd : ((((bs (x :: t))[0]'hz).toNat : Int) != (c.toNat : Int)) = true := by
    rw [bs_zero, bne_iff_ne]
    intro e
    exact hx (UInt8.toNat_inj.1 (by omega))
  go_enter Tryd.func56, Tryd.ntmps56
  go_wp2_with (go_at_call 55; refine (qFail_any b _ _ h).mono ?_; rintro e w1 ⟨rfl, h1, g1⟩)
  go_ret
  exact ⟨rfl, h1, g1⟩
theorem qClose_yes (b : Nat) (c : UInt8) (t : List UInt8) (w : World) (h : RdAt 56 b (some (c :: t)) w) :
    Calls Tryd.prog 56 #[.pointer (some ⟨b, 0, none⟩), .int .u8 c.toNat] w (Left 56 b (.bool true) (some t) w) := by
  have c0 : w.cell? ⟨b, 0, none⟩ = some (.string (bs (c :: t))) := h.c0
  have f0 := h.f 0
  have hz : 0 < (bs (c :: t)).size := by rw [bs_size]; simp
  have hz2 : 1 ≤ (bs (c :: t)).size := hz
  have hd : ((((bs (c :: t))[0]'hz).toNat : Int) != (c.toNat : Int)) = false := by
    rw [bs_zero]; simp
  have HE := Lib.hid (bs_extract (c :: t) 1 (bs (c :: t)).size)
  go_enter Tryd.func56, Tryd.ntmps56
  go_wp2
  go_ret
  refine ⟨rfl, ?_, gb_set (gb_refl _ _) (.inl rfl) _⟩
  rw [HE.out, bs_size]
  have := RdAt.set (t := t) h
  simpa using this
theorem qClose_any (b : Nat) (c : UInt8) (st : Option (List UInt8)) (w : World) (h : RdAt 56 b st w) :
    Calls Tryd.prog 56 #[.pointer (some ⟨b, 0, none⟩), .int .u8 c.toNat] w (Left 56 b (.bool (rSkip c st).1) (rSkip c st).2 w) := by
  cases st with
  | none => exact qClose_nil b c.toNat none rfl w h
  | some s =>
    cases s with
    | nil => exact qClose_nil b c.toNat (some []) rfl w h
    | cons x t =>
      by_cases hx : x = c
      · subst hx
        have hr : rSkip x (some (x :: t)) = (true, some t) := by simp [rSkip, Sp.skip]
        rw [hr]
        exact qClose_yes b x t w h
      · have hr : rSkip c (some (x :: t)) = (false, none) := by simp [rSkip, Sp.skip, hx]
        rw [hr]
        exact qClose_no b c x t hx w h

theorem notMem_take {s : List UInt8} {e c : UInt8} {k : Nat} (h : e ∉ s.take k) (hk : s[k]? = some c) (hc : c ≠ e) : e ∉ s.take (k + 1) := by
  rw [take_snoc hk]
  simp only [List.mem_append, List.mem_singleton, not_or]
  exact ⟨h, fun x => hc x.symm⟩
theorem pInt_none {s : List UInt8} {e : UInt8} (h : e ∉ s) : rInt e (some s) = (0, none) := by
  have hi : Lib.indexByte s e < 0 := by
    rcases Int.lt_or_le (Lib.indexByte s e) 0 with h' | h'
    · exact h'
    · obtain ⟨o, ho⟩ := Int.eq_ofNat_of_zero_le h'
      exact absurd (List.mem_of_getElem? (Lib.indexByte_some (o := o) ho).1) h
  simp only [rInt, Sp.pInt]; rw [if_pos hi]
theorem pInt_far {s : List UInt8} {e : UInt8} (h : e ∉ s.take 22) : rInt e (some s) = (0, none) := by
  by_cases hi : Lib.indexByte s e < 0
  · simp only [rInt, Sp.pInt]; rw [if_pos hi]
  · obtain ⟨o, ho⟩ := Int.eq_ofNat_of_zero_le (Int.not_lt.1 hi)
    have hge := (Lib.indexByte_some (o := o) ho).1
    have hlt : o < s.length := (List.getElem?_eq_some_iff.1 hge).1
    have ho2 : 22 ≤ o := by
      rcases Nat.lt_or_ge o 22 with h' | h'
      · refine absurd (List.mem_of_getElem? (i := o) ?_) h
        rw [List.getElem?_take_of_lt h']; exact hge
      · exact h'
    have hc : Sp.canon (s.take o) = none := by
      rcases hh : Sp.canon (s.take o) with _ | n
      · rfl
      · obtain ⟨h1, h2, h3⟩ := Sp.canon_some hh
        have h4 := Lib.itoa_length_le n h2 h3
        rw [h1, List.length_take] at h4
        omega
    simp only [rInt, Sp.pInt]
    rw [if_neg hi, ho, Int.toNat_natCast, hc]
    rfl
theorem pInt_at {s : List UInt8} {e : UInt8} {k : Nat} (h : e ∉ s.take k) (hk : s[k]? = some e) : rInt e (some s) = match Sp.canon (s.take k) with | none => (0, none) | some n => (n, some (s.drop (k + 1))) := by
  obtain ⟨hl, he⟩ := List.getElem?_eq_some_iff.1 hk
  have hs : s = s.take k ++ e :: s.drop (k + 1) := by rw [← he, ← List.drop_eq_getElem_cons hl, List.take_append_drop]
  have hi : Lib.indexByte s e = k := by
    have := Sp.index_app (s.take k) (s.drop (k + 1)) e h
    rw [← hs, List.length_take] at this
    rw [this]; congr 1; omega
  simp only [rInt, Sp.pInt]
  rw [if_neg (by omega), hi, Int.toNat_natCast]
  cases Sp.canon (s.take k) <;> rfl

theorem qAhead_none (b : Nat) (e : UInt8) (w : World) (h : RdAt 56 b none w) :
    Calls Tryd.prog 51 #[.pointer (some ⟨b, 0, none⟩), .int .u8 e.toNat] w (Left 56 b (.int .i64 0) none w) := by
  have c0 : w.cell? ⟨b, 0, none⟩ = some (.string (bs [])) := h.c0
  have hl : (bs []).size = 0 := by rw [bs_size]; rfl
  go_enter Tryd.func51, Tryd.ntmps51
  go_wp2
  go_loop [5] (fun n => n = .int .i64 0) (fun _ => 0)
  case atStart => rfl
  case round =>
    subst hrel
    go_wp2_with (go_at_call 55; refine (qFail_any b _ _ h).mono ?_; rintro x w1 ⟨rfl, h1, g1⟩)
    go_ret
    exact ⟨rfl, h1, g1⟩

set_option maxRecDepth 100000 in
set_option maxHeartbeats 2000000 in
theorem qAhead_some (b : Nat) (e : UInt8) (s : List UInt8) (hs : s.length ≤ 400) (w : World) (h : RdAt 56 b (some s) w) :
    Calls Tryd.prog 51 #[.pointer (some ⟨b, 0, none⟩), .int .u8 e.toNat] w (Left 56 b (.int .i64 (rInt e (some s)).1) (rInt e (some s)).2 w) := by
  have c0 : w.cell? ⟨b, 0, none⟩ = some (.string (bs s)) := h.c0
  have hz : (bs s).size = s.length := bs_size s
  generalize hR : rInt e (some s) = R
  have HR := Lib.hid hR
  clear hR
  go_enter Tryd.func51, Tryd.ntmps51
  go_wp2
  go_loop [5] (fun n => ∃ k : Nat, k ≤ s.length ∧ k ≤ 21 ∧ n = .int .i64 k ∧ Hid (e ∉ s.take k)) (fun n => 22 - (intOf n).toNat)
  case atStart => exact ⟨0, by omega, by omega, rfl, Lib.hid (by simp)⟩
  case round =>
    obtain ⟨k, hk1, hk2, rfl, HN⟩ := hrel
    by_cases hlt : k < s.length
    · have hks : k < (bs s).size := by omega
      obtain ⟨c, hc, hc2⟩ : ∃ c, (bs s)[k]'hks = c ∧ Hid (s[k]? = some c) := by
        have ht : s[k]? = some (s[k]'hlt) := List.getElem?_eq_getElem _
        exact ⟨_, bs_get _ _ hks _ ht, Lib.hid ht⟩
      by_cases hce : c = e
      · subst hce
        have hd : (((c.toNat : Int)) != (c.toNat : Int)) = false := by simp
        have hp := pInt_at HN.out hc2.out
        rw [HR.out] at hp
        have HE := Lib.hid (show (bs s).extract 0 k = bs (s.take k) by rw [bs_extract]; simp)
        have HE2 := Lib.hid (show (bs s).extract (k + 1) s.length = bs (s.drop (k + 1)) by rw [bs_extract, List.take_of_length_le (by simp)])
        have hB := back_any (s.take k) (by rw [List.length_take]; omega)
        cases hcn : Sp.canon (s.take k) with
        | none =>
          rw [hcn] at hp
          subst hp
          rw [okB_no hcn] at hB
          have HB := Lib.hid hB
          clear hB hcn HR
          go_wp2_with (first | (go_at_call 66; rw [HE.out]; refine (HB.out _).mono ?_; rintro x w1 ⟨v, rfl, hv, b1⟩; have h1 := h.fresh b1) | (go_at_call 55; refine (qFail_any b _ _ h1).mono ?_; rintro x w2 ⟨rfl, h2, g2⟩))
          all_goals
            go_ret
            exact ⟨rfl, h2, gb_trans (gb_of_below b1 _) g2⟩
        | some n =>
          rw [hcn] at hp
          subst hp
          rw [show okB (s.take k) = true by unfold okB; rw [hcn]; rfl] at hB
          have HB := Lib.hid hB
          have HC := Lib.hid hcn
          clear hB hcn HR
          go_wp2_with (go_at_call 66; rw [HE.out]; refine (HB.out _).mono ?_; rintro x w1 ⟨v, rfl, hv, b1⟩; have h1 := h.fresh b1; have c1 : w1.cell? ⟨b, 0, none⟩ = some (.string (bs s)) := h1.c0; have f1 := h1.f 0)
          all_goals
            have hvn := hv.out n HC.out
            go_ret
            refine ⟨by rw [hvn]; rfl, ?_, gb_set (p := ⟨b, 0, none⟩) (gb_of_below b1 _) (.inl rfl) _⟩
            rw [HE2.out]
            exact RdAt.set h1
      · have hd : (((c.toNat : Int)) != (e.toNat : Int)) = true := by
          rw [bne_iff_ne]; intro x; exact hce (UInt8.toNat_inj.1 (by omega))
        by_cases h21 : k < 21
        · go_wp2
          go_round
          case rel => exact ⟨k + 1, by omega, by omega, by go_num, Lib.hid (notMem_take HN.out hc2.out hce)⟩
          case measure => simp [intOf]; omega
        · have hk : k = 21 := by omega
          subst hk
          have hp := pInt_far (notMem_take HN.out hc2.out hce)
          rw [HR.out] at hp
          subst hp
          clear HR
          go_wp2_with (go_at_call 55; refine (qFail_any b _ _ h).mono ?_; rintro x w1 ⟨rfl, h1, g1⟩)
          go_ret
          exact ⟨rfl, h1, g1⟩
    · have hkl : k = s.length := by omega
      subst hkl
      have hp := pInt_none (s := s) (e := e) (by have := HN.out; rwa [List.take_length] at this)
      rw [HR.out] at hp
      subst hp
      clear HR HN
      go_wp2_with (go_at_call 55; refine (qFail_any b _ _ h).mono ?_; rintro x w1 ⟨rfl, h1, g1⟩)
      go_ret
      exact ⟨rfl, h1, g1⟩
theorem qAhead_any (b : Nat) (e : UInt8) (st : Option (List UInt8)) (hs : (st.getD []).length ≤ 400) (w : World) (h : RdAt 56 b st w) :
    Calls Tryd.prog 51 #[.pointer (some ⟨b, 0, none⟩), .int .u8 e.toNat] w (Left 56 b (.int .i64 (rInt e st).1) (rInt e st).2 w) := by
  cases st with
  | none => exact qAhead_none b e w h
  | some s => exact qAhead_some b e s hs w h

theorem qNumber_any (b : Nat) (e : UInt8) (st : Option (List UInt8)) (hs : (st.getD []).length ≤ 400) (w : World) (h : RdAt 56 b st w) :
    Calls Tryd.prog 49 #[.pointer (some ⟨b, 0, none⟩), .int .u8 e.toNat] w (Left 56 b (.int .i64 (rNum e st).1) (rNum e st).2 w) := by
  have HR := Lib.hid (rNum_eq e st)
  by_cases hn : (rInt e st).1 < 0
  · rw [HR.out, if_pos hn]
    go_enter Tryd.func49, Tryd.ntmps49
    go_wp2_with (go_at_call 51; refine (qAhead_any b e st hs _ h).mono ?_; rintro x w1 ⟨rfl, h1, g1⟩; refine Hid.out ?_)
    refine Lib.hid ?_
    go_wp2_with (go_at_call 55; refine (qFail_any b _ _ h1).mono ?_; rintro x w2 ⟨rfl, h2, g2⟩)
    go_ret
    exact ⟨rfl, h2, gb_trans g1 g2⟩
  · rw [HR.out, if_neg hn]
    go_enter Tryd.func49, Tryd.ntmps49
    go_wp2_with (go_at_call 51; refine (qAhead_any b e st hs _ h).mono ?_; rintro x w1 ⟨rfl, h1, g1⟩)
    go_ret
    exact ⟨rfl, h1, g1⟩

theorem qrNum_any (b : Nat) (st : Option (List UInt8)) (hs : (st.getD []).length ≤ 400) (w : World) (h : RdAt 56 b st w) :
    Calls Tryd.prog 25 #[.pointer (some ⟨b, 0, none⟩)] w (Left 56 b (.int .i64 (rNum 59 st).1) (rNum 59 st).2 w) := by
  go_enter Tryd.func25, Tryd.ntmps25
  go_wp2_with (go_at_call 49; refine (qNumber_any b 59 st hs _ h).mono ?_; rintro x w1 ⟨rfl, h1, g1⟩)
  go_ret
  exact ⟨rfl, h1, g1⟩
theorem qrInt_any (b : Nat) (st : Option (List UInt8)) (hs : (st.getD []).length ≤ 400) (w : World) (h : RdAt 56 b st w) :
    Calls Tryd.prog 27 #[.pointer (some ⟨b, 0, none⟩)] w (Left 56 b (.int .i64 (rInt 59 st).1) (rInt 59 st).2 w) := by
  go_enter Tryd.func27, Tryd.ntmps27
  go_wp2_with (go_at_call 51; refine (qAhead_any b 59 st hs _ h).mono ?_; rintro x w1 ⟨rfl, h1, g1⟩)
  go_ret
  exact ⟨rfl, h1, g1⟩

theorem qOpen_any (s : List UInt8) (w : World) :
    Calls Tryd.prog 22 #[.string (bs s)] w fun e w' => e = .returned (.pointer (some ⟨w.heap.size, 0, none⟩)) ∧ RdAt 56 w.heap.size (some s) w' ∧ Below w.heap.size w w' := by
  go_enter Tryd.func22, Tryd.ntmps22
  go_wp2
  go_ret
  exact ⟨rfl, heap_alloc_new w _, (Below.refl _ _).alloc (Nat.le_refl _) _⟩
theorem qLeft_any (b : Nat) (st : Option (List UInt8)) (w : World) (h : RdAt 56 b st w) :
    Calls Tryd.prog 37 #[.pointer (some ⟨b, 0, none⟩)] w fun x w' => x = .returned (.int .i64 (st.getD []).length) ∧ w = w' := by
  have c0 := h.c0
  have hz := bs_size (st.getD [])
  go_enter Tryd.func37, Tryd.ntmps37
  go_wp2
  go_ret
  exact ⟨rfl, rfl⟩
theorem qDone_any (b : Nat) (st : Option (List UInt8)) (w : World) (h : RdAt 56 b st w) :
    Calls Tryd.prog 39 #[.pointer (some ⟨b, 0, none⟩)] w fun x w' => x = .returned (.bool (rDone st)) ∧ w = w' := by
  cases st with
  | none =>
    have c1 : w.cell? ⟨b, 1, none⟩ = some (.bool true) := h.c1
    go_enter Tryd.func39, Tryd.ntmps39
    go_wp2
    go_ret
    exact ⟨rfl, rfl⟩
  | some s =>
    have c0 : w.cell? ⟨b, 0, none⟩ = some (.string (bs s)) := h.c0
    have c1 : w.cell? ⟨b, 1, none⟩ = some (.bool false) := h.c1
    have HL := Lib.hid (bs_toList s)
    cases hb : s.isEmpty
    · have hl : (bs s).toList.isEmpty = false := by rw [HL.out]; exact hb
      go_enter Tryd.func39, Tryd.ntmps39
      go_wp2
      go_ret
      exact ⟨by simp [rDone, hb], rfl⟩
    · have hl : (bs s).toList.isEmpty = true := by rw [HL.out]; exact hb
      have hl2 : (bs s).toList = [] := by rw [HL.out]; simpa using hb
      go_enter Tryd.func39, Tryd.ntmps39
      go_wp2
      go_ret
      exact ⟨by simp [rDone, hb], rfl⟩
theorem qTail_any (b : Nat) (st : Option (List UInt8)) (w : World) (h : RdAt 56 b st w) :
    Calls Tryd.prog 41 #[.pointer (some ⟨b, 0, none⟩)] w (Left 56 b (.string (bs (rRest st).1)) (rRest st).2 w) := by
  have c0 := h.c0
  have f0 := h.f 0
  have h1 := h.set_rest
  have g1 := gb_set (p := ⟨b, 0, none⟩) (gb_refl w (some b)) (.inl rfl) (.string ⟨#[]⟩)
  go_enter Tryd.func41, Tryd.ntmps41
  go_wp2
  go_ret
  exact ⟨rfl, h1, g1⟩
end Go.Proofs.YtplejiaddemjhaaDoor
