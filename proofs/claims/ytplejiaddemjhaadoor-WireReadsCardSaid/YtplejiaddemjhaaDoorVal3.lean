/- SameNums and SameTexts of the reference, and the helper equal. -/
import Derived.Test.YtplejiaddemjhaaDoorVal2
namespace Go.Proofs.YtplejiaddemjhaaDoor
open Go.RowKit Go.Shelf

theorem take_eq {α : Type} {l m : List α} {k : Nat} (h : l.take k = m.take k) (h1 : k < l.length) (h2 : k < m.length) (he : l[k] = m[k]) : l.take (k + 1) = m.take (k + 1) := by
  rw [List.take_succ_eq_append_getElem h1, List.take_succ_eq_append_getElem h2, h, he]

theorem sameNums_ne (a a' : Option Addr) (l m : List Int) (cap cap' : Nat) (hne : l.length ≠ m.length) (w : World) :
    Calls Tryd.prog 30 #[.slice a l.length cap, .slice a' m.length cap'] w fun e w' => e = .returned (.bool false) ∧ Below w.heap.size w w' := by
  have hb : ((l.length : Int) != (m.length : Int)) = true := by rw [bne_iff_ne]; omega
  clear hne
  go_enter Tryd.func30, Tryd.ntmps30
  go_wp2
  go_ret
  exact ⟨rfl, Below.refl _ _⟩

theorem sameNums_nil (a a' : Option Addr) (cap cap' : Nat) (w : World) :
    Calls Tryd.prog 30 #[.slice a 0 cap, .slice a' 0 cap'] w fun e w' => e = .returned (.bool true) ∧ Below w.heap.size w w' := by
  go_enter Tryd.func30, Tryd.ntmps30
  go_wp2
  go_loop [5] (fun i => i = .int .i64 0) (fun _ => 0)
  case atStart => exact rfl
  case round =>
    obtain rfl := hrel
    go_wp2
    go_ret
    exact ⟨rfl, Below.refl _ _⟩

set_option maxHeartbeats 1000000 in
theorem sameNums_some (l m : List Int) (n : Nat) (hn : m.length = n) (hl : l.length = n) (hb : n ≤ 1099511627776) (b off cap b' off' cap' : Nat) (w : World) (h1 : b < w.heap.size) (h2 : b' < w.heap.size)
    (hc : ∀ k, k < l.length → w.cell? ⟨b, off + k, none⟩ = some (.int .i64 (l.getD k 0))) (hc' : ∀ k, k < m.length → w.cell? ⟨b', off' + k, none⟩ = some (.int .i64 (m.getD k 0))) :
    Calls Tryd.prog 30 #[.slice (some ⟨b, off, none⟩) n cap, .slice (some ⟨b', off', none⟩) n cap'] w fun e w' => e = .returned (.bool (decide (l = m))) ∧ Below w.heap.size w w' := by
  have HC := Lib.hid hc
  have HC' := Lib.hid hc'
  have HN := Lib.hid hn
  have HL := Lib.hid hl
  clear hc hc' hn hl
  go_enter Tryd.func30, Tryd.ntmps30
  go_wp2
  go_loopw [5] (fun i wr => ∃ k : Nat, k ≤ n ∧ i = .int .i64 k ∧ Hid (l.take k = m.take k) ∧ Below w.heap.size w wr) (fun i _ => n - (intOf i).toNat)
  case atStart => exact ⟨0, Nat.zero_le _, rfl, Lib.hid rfl, Below.refl _ _⟩
  case round =>
    obtain ⟨k, hk, rfl, HT, kr⟩ := hrel
    by_cases hlt : k < n
    · have g1 : k < l.length := by rw [HL.out]; exact hlt
      have g2 : k < m.length := by rw [HN.out]; exact hlt
      have c1 : wr.cell? ⟨b, off + k, none⟩ = some (.int .i64 (l[k])) := by
        rw [kr.cell (p := ⟨b, off + k, none⟩) h1, HC.out k g1, List.getD_eq_getElem?_getD, List.getElem?_eq_getElem g1]; rfl
      have c2 : wr.cell? ⟨b', off' + k, none⟩ = some (.int .i64 (m[k])) := by
        rw [kr.cell (p := ⟨b', off' + k, none⟩) h2, HC'.out k g2, List.getD_eq_getElem?_getD, List.getElem?_eq_getElem g2]; rfl
      by_cases hd : l[k] = m[k]
      · have HX := Lib.hid (show ((l[k] : Int) != m[k]) = false from by rw [hd]; simp)
        have HT2 := Lib.hid (take_eq HT.out g1 g2 hd)
        clear hd
        go_wp2
        go_quiet (fail)
        have kr2 := below_drewN kr nq
        clear c1 c2 kr
        simp only [HX.out]
        go_wp2
        go_roundw
        case rel => exact ⟨k + 1, by omega, by go_num, HT2, kr2⟩
        case measure => simp [intOf]; omega
      · have HX := Lib.hid (show ((l[k] : Int) != m[k]) = true from by rw [bne_iff_ne]; exact hd)
        have HD : l ≠ m := by intro e; subst e; exact hd rfl
        clear hd
        go_wp2
        go_quiet (fail)
        have kr2 := below_drewN kr nq
        clear c1 c2 kr
        simp only [HX.out]
        go_wp2
        go_ret
        exact ⟨by simp [HD], kr2⟩
    · have he : l = m := by
        have := HT.out
        rwa [List.take_of_length_le (by have := HL.out; omega), List.take_of_length_le (by have := HN.out; omega)] at this
      have HE := Lib.hid he
      clear he
      go_wp2
      go_ret
      exact ⟨by rw [HE.out]; simp, kr⟩

theorem sameNums_any (v v' : Value) (l m : List Int) (hm : m.length ≤ 1099511627776) (w : World) (h : IntsAt w v l) (h' : IntsAt w v' m) :
    Calls Tryd.prog 30 #[v, v'] w fun e w' => e = .returned (.bool (decide (l = m))) ∧ Below w.heap.size w w' := by
  obtain ⟨a, cap, rfl, h⟩ := h
  obtain ⟨a', cap', rfl, h'⟩ := h'
  by_cases hne : l.length = m.length
  · rcases h with rfl | ⟨b, off, rfl, hb, hc⟩
    · have : m = [] := List.length_eq_zero_iff.1 hne.symm
      subst this
      exact sameNums_nil a a' cap cap' w
    · rcases h' with rfl | ⟨b', off', rfl, hb', hc'⟩
      · have : l = [] := List.length_eq_zero_iff.1 hne
        subst this
        exact sameNums_nil _ _ cap cap' w
      · have := sameNums_some l m m.length rfl hne hm b off cap b' off' cap' w hb hb' hc hc'
        rw [hne]
        exact this
  · have hd : decide (l = m) = false := by
      rw [decide_eq_false_iff_not]; intro e; exact hne (by rw [e])
    rw [hd]
    exact sameNums_ne a a' l m cap cap' hne w

theorem sameTexts_ne (a a' : Option Addr) (l m : List (List UInt8)) (cap cap' : Nat) (hne : l.length ≠ m.length) (w : World) :
    Calls Tryd.prog 33 #[.slice a l.length cap, .slice a' m.length cap'] w fun e w' => e = .returned (.bool false) ∧ Below w.heap.size w w' := by
  have hb : ((l.length : Int) != (m.length : Int)) = true := by rw [bne_iff_ne]; omega
  clear hne
  go_enter Tryd.func33, Tryd.ntmps33
  go_wp2
  go_ret
  exact ⟨rfl, Below.refl _ _⟩

theorem sameTexts_nil (a a' : Option Addr) (cap cap' : Nat) (w : World) :
    Calls Tryd.prog 33 #[.slice a 0 cap, .slice a' 0 cap'] w fun e w' => e = .returned (.bool true) ∧ Below w.heap.size w w' := by
  go_enter Tryd.func33, Tryd.ntmps33
  go_wp2
  go_loop [5] (fun i => i = .int .i64 0) (fun _ => 0)
  case atStart => exact rfl
  case round =>
    obtain rfl := hrel
    go_wp2
    go_ret
    exact ⟨rfl, Below.refl _ _⟩

set_option maxHeartbeats 1000000 in
theorem sameTexts_some (l m : List (List UInt8)) (n : Nat) (hn : m.length = n) (hl : l.length = n) (hb : n ≤ 1099511627776) (b off cap b' off' cap' : Nat) (w : World) (h1 : b < w.heap.size) (h2 : b' < w.heap.size)
    (hc : ∀ k, k < l.length → w.cell? ⟨b, off + k, none⟩ = some (.string (bs (l.getD k [])))) (hc' : ∀ k, k < m.length → w.cell? ⟨b', off' + k, none⟩ = some (.string (bs (m.getD k [])))) :
    Calls Tryd.prog 33 #[.slice (some ⟨b, off, none⟩) n cap, .slice (some ⟨b', off', none⟩) n cap'] w fun e w' => e = .returned (.bool (decide (l = m))) ∧ Below w.heap.size w w' := by
  have HC := Lib.hid hc
  have HC' := Lib.hid hc'
  have HN := Lib.hid hn
  have HL := Lib.hid hl
  clear hc hc' hn hl
  go_enter Tryd.func33, Tryd.ntmps33
  go_wp2
  go_loopw [5] (fun i wr => ∃ k : Nat, k ≤ n ∧ i = .int .i64 k ∧ Hid (l.take k = m.take k) ∧ Below w.heap.size w wr) (fun i _ => n - (intOf i).toNat)
  case atStart => exact ⟨0, Nat.zero_le _, rfl, Lib.hid rfl, Below.refl _ _⟩
  case round =>
    obtain ⟨k, hk, rfl, HT, kr⟩ := hrel
    by_cases hlt : k < n
    · have g1 : k < l.length := by rw [HL.out]; exact hlt
      have g2 : k < m.length := by rw [HN.out]; exact hlt
      have c1 : wr.cell? ⟨b, off + k, none⟩ = some (.string (bs (l[k]))) := by
        rw [kr.cell (p := ⟨b, off + k, none⟩) h1, HC.out k g1, List.getD_eq_getElem?_getD, List.getElem?_eq_getElem g1]; rfl
      have c2 : wr.cell? ⟨b', off' + k, none⟩ = some (.string (bs (m[k]))) := by
        rw [kr.cell (p := ⟨b', off' + k, none⟩) h2, HC'.out k g2, List.getD_eq_getElem?_getD, List.getElem?_eq_getElem g2]; rfl
      by_cases hd : l[k] = m[k]
      · have HX := Lib.hid (show (!((bs l[k]).toList == (bs m[k]).toList)) = false from by rw [hd]; simp)
        have HT2 := Lib.hid (take_eq HT.out g1 g2 hd)
        clear hd
        go_wp2
        go_quiet (fail)
        have kr2 := below_drewN kr nq
        clear c1 c2 kr
        simp only [HX.out]
        go_wp2
        go_roundw
        case rel => exact ⟨k + 1, by omega, by go_num, HT2, kr2⟩
        case measure => simp [intOf]; omega
      · have HX := Lib.hid (show (!((bs l[k]).toList == (bs m[k]).toList)) = true from by rw [bs_toList, bs_toList]; simpa using hd)
        have HD : l ≠ m := by intro e; subst e; exact hd rfl
        clear hd
        go_wp2
        go_quiet (fail)
        have kr2 := below_drewN kr nq
        clear c1 c2 kr
        simp only [HX.out]
        go_wp2
        go_ret
        exact ⟨by simp [HD], kr2⟩
    · have he : l = m := by
        have := HT.out
        rwa [List.take_of_length_le (by have := HL.out; omega), List.take_of_length_le (by have := HN.out; omega)] at this
      have HE := Lib.hid he
      clear he
      go_wp2
      go_ret
      exact ⟨by rw [HE.out]; simp, kr⟩

theorem sameTexts_any (v v' : Value) (l m : List (List UInt8)) (hm : m.length ≤ 1099511627776) (w : World) (h : TextsAt w v l) (h' : TextsAt w v' m) :
    Calls Tryd.prog 33 #[v, v'] w fun e w' => e = .returned (.bool (decide (l = m))) ∧ Below w.heap.size w w' := by
  obtain ⟨a, cap, rfl, h⟩ := h
  obtain ⟨a', cap', rfl, h'⟩ := h'
  by_cases hne : l.length = m.length
  · rcases h with rfl | ⟨b, off, rfl, hb, hc⟩
    · have : m = [] := List.length_eq_zero_iff.1 hne.symm
      subst this
      exact sameTexts_nil a a' cap cap' w
    · rcases h' with rfl | ⟨b', off', rfl, hb', hc'⟩
      · have : l = [] := List.length_eq_zero_iff.1 hne
        subst this
        exact sameTexts_nil _ _ cap cap' w
      · have := sameTexts_some l m m.length rfl hne hm b off cap b' off' cap' w hb hb' hc hc'
        rw [hne]
        exact this
  · have hd : decide (l = m) = false := by
      rw [decide_eq_false_iff_not]; intro e; exact hne (by rw [e])
    rw [hd]
    exact sameTexts_ne a a' l m cap cap' hne w

/-! ### equal -/
/-- Whether what a reader reads next is a value, and where it stands then. -/
def Val.eq (x : Val) (st : Option (List UInt8)) : Bool × Option (List UInt8) :=
  if x.K % 5 = 0 then (decide ((rNum 59 st).1 = num x.N), (rNum 59 st).2) else if x.K % 5 = 1 then (decide ((rInt 59 st).1 = x.N), (rInt 59 st).2)
  else if x.K % 5 = 2 then (decide ((rText st).1 = x.S), (rText st).2) else if x.K % 5 = 3 then (decide ((rList (Sp.pInt 59) st).1 = x.L), (rList (Sp.pInt 59) st).2)
  else (decide ((rList Sp.pText st).1 = x.T), (rList Sp.pText st).2)

theorem gb_cell {w w' : World} {g : Nat} (h : w.grownBy w' (some g)) {a : Addr} {v : Value} (hc : w.cell? a = some v) (hne : a.block ≠ g) : w'.cell? a = some v :=
  (World.cell?_of_block (h.block a.block (Lib.lt_of_cell hc) (by simpa using hne))).trans hc
theorem ret_eql {a b : Int} : Ending.returned (.bool (a == b)) = .returned (.bool (decide (a = b))) := by
  by_cases h : a = b <;> simp [h]
theorem ret_eqs {a b : List UInt8} : Ending.returned (.bool ((bs a).toList == (bs b).toList)) = .returned (.bool (decide (a = b))) := by
  rw [bs_toList, bs_toList]
  by_cases h : a = b <;> simp [h]
theorem env_drew {w : World} (h : Env w) : Env w.drew := h.fresh (Below.drew (Below.refl _ _))

set_option maxHeartbeats 1000000 in
theorem equal_0 (W : World) (x : Val) (h0 : x.K % 5 = 0) (vL vT : Value) (b : Nat) (st : Option (List UInt8)) (hst : (st.getD []).length ≤ 1099511627776) (w : World) (he : Env w) (ha : Aggs W x vL vT) (hW : Below W.heap.size W w) (hr : RdAt 54 b st w) :
    Calls Tryd.prog 43 #[.pointer (some ⟨b, 0, none⟩), .agg #[.int .i64 x.K, .int .i64 x.N, .string (bs x.S), vL, vT]] w (Left 54 b (.bool (x.eq st).1) (x.eq st).2 w) := by
    have hK := ha.ok.K
    have hN := ha.ok.N
    have hblt := hr.lt
    have HE := Lib.hid (show x.eq st = (decide ((rNum 59 st).1 = num x.N), (rNum 59 st).2) by unfold Val.eq; rw [if_pos h0])
    have HJ := Lib.hid h0
    clear h0
    rw [HE.out]
    go_enter Tryd.func43, Tryd.ntmps43
    go_wp2_with (go_at_call 23; refine (kind_at x.K 0 hK HJ.out _ _ _ _ _).mono ?_; rintro e w1 ⟨rfl, b1⟩; refine Hid.out ?_)
    refine Lib.hid ?_
    have c1 : w1.drew.cell? ⟨w.heap.size, 1, none⟩ = some (.int .i64 x.N) := box_cell (box_below b1) 1
    have k0 : Below w.heap.size w w1 := box_old b1
    have k1 : Below W.heap.size W w1.drew := (hW.trans (k0.mono hW.size)).drew
    have e1 : Env w1.drew := env_drew (he.fresh k0)
    have r1 : RdAt 54 b st w1.drew := hr.fresh k0.drew
    clear b1
    go_wp2
    go_region_held3 (fun w' => w'.cell? ⟨w.heap.size, 1, none⟩ = some (.int .i64 x.N)) (first | exact c1 | assumption)
      (first | (go_at_call 24; refine (num_any b st (by omega) _ e1 r1).mono ?_; rintro e w2 ⟨rfl, r2, g2⟩; have c2 : w2.cell? ⟨w.heap.size, 1, none⟩ = some (.int .i64 x.N) := gb_cell g2 c1 (by simp; omega)) | (go_at_call 59; refine (number_call _ hN _).mono ?_; rintro e w3 ⟨rfl, rfl⟩))
    have g3 : w.grownBy w2 (some b) := gb_trans (gb_of_below k0.drew (some b)) g2
    go_wp2
    go_ret
    exact ⟨ret_eql, r2, g3⟩

set_option maxHeartbeats 1000000 in
theorem equal_1 (W : World) (x : Val) (h0 : x.K % 5 = 1) (vL vT : Value) (b : Nat) (st : Option (List UInt8)) (hst : (st.getD []).length ≤ 1099511627776) (w : World) (he : Env w) (ha : Aggs W x vL vT) (hW : Below W.heap.size W w) (hr : RdAt 54 b st w) :
    Calls Tryd.prog 43 #[.pointer (some ⟨b, 0, none⟩), .agg #[.int .i64 x.K, .int .i64 x.N, .string (bs x.S), vL, vT]] w (Left 54 b (.bool (x.eq st).1) (x.eq st).2 w) := by
    have hK := ha.ok.K
    have hN := ha.ok.N
    have hblt := hr.lt
    have HE := Lib.hid (show x.eq st = (decide ((rInt 59 st).1 = x.N), (rInt 59 st).2) by unfold Val.eq; rw [if_neg (by omega)]; rw [if_pos h0])
    have HJ := Lib.hid h0
    clear h0
    rw [HE.out]
    go_enter Tryd.func43, Tryd.ntmps43
    go_wp2_with (go_at_call 23; refine (kind_at x.K 1 hK HJ.out _ _ _ _ _).mono ?_; rintro e w1 ⟨rfl, b1⟩; refine Hid.out ?_)
    refine Lib.hid ?_
    have c1 : w1.drew.cell? ⟨w.heap.size, 1, none⟩ = some (.int .i64 x.N) := box_cell (box_below b1) 1
    have k0 : Below w.heap.size w w1 := box_old b1
    have k1 : Below W.heap.size W w1.drew := (hW.trans (k0.mono hW.size)).drew
    have e1 : Env w1.drew := env_drew (he.fresh k0)
    have r1 : RdAt 54 b st w1.drew := hr.fresh k0.drew
    clear b1
    go_wp2
    go_region_held3 (fun w' => w'.cell? ⟨w.heap.size, 1, none⟩ = some (.int .i64 x.N)) (first | exact c1 | assumption)
      (first | (go_at_call 26; refine (int_any b st (by omega) _ e1 r1).mono ?_; rintro e w2 ⟨rfl, r2, g2⟩; have c2 : w2.cell? ⟨w.heap.size, 1, none⟩ = some (.int .i64 x.N) := gb_cell g2 c1 (by simp; omega)))
    have g3 : w.grownBy w2 (some b) := gb_trans (gb_of_below k0.drew (some b)) g2
    go_wp2
    go_ret
    exact ⟨ret_eql, r2, g3⟩

set_option maxHeartbeats 1000000 in
theorem equal_2 (W : World) (x : Val) (h0 : x.K % 5 = 2) (vL vT : Value) (b : Nat) (st : Option (List UInt8)) (hst : (st.getD []).length ≤ 1099511627776) (w : World) (he : Env w) (ha : Aggs W x vL vT) (hW : Below W.heap.size W w) (hr : RdAt 54 b st w) :
    Calls Tryd.prog 43 #[.pointer (some ⟨b, 0, none⟩), .agg #[.int .i64 x.K, .int .i64 x.N, .string (bs x.S), vL, vT]] w (Left 54 b (.bool (x.eq st).1) (x.eq st).2 w) := by
    have hK := ha.ok.K
    have hN := ha.ok.N
    have hblt := hr.lt
    have HE := Lib.hid (show x.eq st = (decide ((rText st).1 = x.S), (rText st).2) by unfold Val.eq; rw [if_neg (by omega)]; rw [if_neg (by omega)]; rw [if_pos h0])
    have HJ := Lib.hid h0
    clear h0
    rw [HE.out]
    go_enter Tryd.func43, Tryd.ntmps43
    go_wp2_with (go_at_call 23; refine (kind_at x.K 2 hK HJ.out _ _ _ _ _).mono ?_; rintro e w1 ⟨rfl, b1⟩; refine Hid.out ?_)
    refine Lib.hid ?_
    have c1 : w1.drew.cell? ⟨w.heap.size, 2, none⟩ = some (.string (bs x.S)) := box_cell (box_below b1) 2
    have k0 : Below w.heap.size w w1 := box_old b1
    have k1 : Below W.heap.size W w1.drew := (hW.trans (k0.mono hW.size)).drew
    have e1 : Env w1.drew := env_drew (he.fresh k0)
    have r1 : RdAt 54 b st w1.drew := hr.fresh k0.drew
    clear b1
    go_wp2
    go_region_held3 (fun w' => w'.cell? ⟨w.heap.size, 2, none⟩ = some (.string (bs x.S))) (first | exact c1 | assumption)
      (first | (go_at_call 28; refine (text_any b st (by omega) _ e1 r1).mono ?_; rintro e w2 ⟨rfl, r2, g2⟩; have c2 : w2.cell? ⟨w.heap.size, 2, none⟩ = some (.string (bs x.S)) := gb_cell g2 c1 (by simp; omega)))
    have g3 : w.grownBy w2 (some b) := gb_trans (gb_of_below k0.drew (some b)) g2
    go_wp2
    go_ret
    exact ⟨ret_eqs, r2, g3⟩

set_option maxHeartbeats 1000000 in
theorem equal_3 (W : World) (x : Val) (h0 : x.K % 5 = 3) (vL vT : Value) (b : Nat) (st : Option (List UInt8)) (hst : (st.getD []).length ≤ 1099511627776) (w : World) (he : Env w) (ha : Aggs W x vL vT) (hs : Small x) (hW : Below W.heap.size W w) (hb : W.heap.size ≤ b) (hG : G0 ≤ b) (hr : RdAt 54 b st w) :
    Calls Tryd.prog 43 #[.pointer (some ⟨b, 0, none⟩), .agg #[.int .i64 x.K, .int .i64 x.N, .string (bs x.S), vL, vT]] w (Left 54 b (.bool (x.eq st).1) (x.eq st).2 w) := by
    have hK := ha.ok.K
    have hN := ha.ok.N
    have hblt := hr.lt
    have hsz : x.L.length ≤ 1099511627776 := by have := hs.2.1; omega
    have HE := Lib.hid (show x.eq st = (decide ((rList (Sp.pInt 59) st).1 = x.L), (rList (Sp.pInt 59) st).2) by unfold Val.eq; rw [if_neg (by omega)]; rw [if_neg (by omega)]; rw [if_neg (by omega)]; rw [if_pos h0])
    have HJ := Lib.hid h0
    clear h0
    rw [HE.out]
    go_enter Tryd.func43, Tryd.ntmps43
    go_wp2_with (go_at_call 23; refine (kind_at x.K 3 hK HJ.out _ _ _ _ _).mono ?_; rintro e w1 ⟨rfl, b1⟩; refine Hid.out ?_)
    refine Lib.hid ?_
    have c1 : w1.drew.cell? ⟨w.heap.size, 3, none⟩ = some (vL) := box_cell (box_below b1) 3
    have k0 : Below w.heap.size w w1 := box_old b1
    have k1 : Below W.heap.size W w1.drew := (hW.trans (k0.mono hW.size)).drew
    have e1 : Env w1.drew := env_drew (he.fresh k0)
    have r1 : RdAt 54 b st w1.drew := hr.fresh k0.drew
    clear b1
    go_wp2
    go_region_held3 (fun w' => w'.cell? ⟨w.heap.size, 3, none⟩ = some (vL)) (first | exact c1 | assumption)
      (first | (go_at_call 31; refine (rNums_any b st (by omega) _ e1 hG r1).mono ?_; rintro e w2 ⟨v, rfl, l2, r2, g2⟩; have c2 : w2.cell? ⟨w.heap.size, 3, none⟩ = some (vL) := gb_cell g2 c1 (by simp; omega)) | (go_at_call 30; refine (sameNums_any _ _ _ _ hsz _ (intsAt_of l2) (ha.L.keep (below_trans_gb k1 g2 hb (Nat.le_refl _)))).mono ?_; rintro e w4 ⟨rfl, b4⟩; have c4 := (b4.cell (p := ⟨w.heap.size, 3, none⟩) (Lib.lt_of_cell c2)).trans c2))
    have g3 : w.grownBy w2 (some b) := gb_trans (gb_of_below k0.drew (some b)) g2
    go_wp2
    go_ret
    exact ⟨rfl, r2.fresh b4, gb_below g3 b4⟩

set_option maxHeartbeats 1000000 in
theorem equal_4 (W : World) (x : Val) (h0 : x.K % 5 = 4) (vL vT : Value) (b : Nat) (st : Option (List UInt8)) (hst : (st.getD []).length ≤ 1099511627776) (w : World) (he : Env w) (ha : Aggs W x vL vT) (hs : Small x) (hW : Below W.heap.size W w) (hb : W.heap.size ≤ b) (hG : G0 ≤ b) (hr : RdAt 54 b st w) :
    Calls Tryd.prog 43 #[.pointer (some ⟨b, 0, none⟩), .agg #[.int .i64 x.K, .int .i64 x.N, .string (bs x.S), vL, vT]] w (Left 54 b (.bool (x.eq st).1) (x.eq st).2 w) := by
    have hK := ha.ok.K
    have hN := ha.ok.N
    have hblt := hr.lt
    have hsz : x.T.length ≤ 1099511627776 := by have := hs.2.2.1; omega
    have HE := Lib.hid (show x.eq st = (decide ((rList Sp.pText st).1 = x.T), (rList Sp.pText st).2) by unfold Val.eq; rw [if_neg (by omega), if_neg (by omega), if_neg (by omega), if_neg (by omega)])
    have HJ := Lib.hid h0
    clear h0
    rw [HE.out]
    go_enter Tryd.func43, Tryd.ntmps43
    go_wp2_with (go_at_call 23; refine (kind_at x.K 4 hK HJ.out _ _ _ _ _).mono ?_; rintro e w1 ⟨rfl, b1⟩; refine Hid.out ?_)
    refine Lib.hid ?_
    have c1 : w1.drew.cell? ⟨w.heap.size, 4, none⟩ = some (vT) := box_cell (box_below b1) 4
    have k0 : Below w.heap.size w w1 := box_old b1
    have k1 : Below W.heap.size W w1.drew := (hW.trans (k0.mono hW.size)).drew
    have e1 : Env w1.drew := env_drew (he.fresh k0)
    have r1 : RdAt 54 b st w1.drew := hr.fresh k0.drew
    clear b1
    go_wp2
    go_region_held3 (fun w' => w'.cell? ⟨w.heap.size, 4, none⟩ = some (vT)) (first | exact c1 | assumption)
      (first | (go_at_call 34; refine (rTexts_any b st (by omega) _ e1 hG r1).mono ?_; rintro e w2 ⟨v, rfl, l2, r2, g2⟩; have c2 : w2.cell? ⟨w.heap.size, 4, none⟩ = some (vT) := gb_cell g2 c1 (by simp; omega)) | (go_at_call 33; refine (sameTexts_any _ _ _ _ hsz _ (textsAt_of l2) (ha.T.keep (below_trans_gb k1 g2 hb (Nat.le_refl _)))).mono ?_; rintro e w4 ⟨rfl, b4⟩; have c4 := (b4.cell (p := ⟨w.heap.size, 4, none⟩) (Lib.lt_of_cell c2)).trans c2))
    have g3 : w.grownBy w2 (some b) := gb_trans (gb_of_below k0.drew (some b)) g2
    go_wp2
    go_ret
    exact ⟨rfl, r2.fresh b4, gb_below g3 b4⟩

theorem equal_any (W : World) (x : Val) (vL vT : Value) (b : Nat) (st : Option (List UInt8)) (hst : (st.getD []).length ≤ 1099511627776) (w : World) (he : Env w) (ha : Aggs W x vL vT) (hs : Small x) (hW : Below W.heap.size W w) (hb : W.heap.size ≤ b) (hG : G0 ≤ b) (hr : RdAt 54 b st w) :
    Calls Tryd.prog 43 #[.pointer (some ⟨b, 0, none⟩), .agg #[.int .i64 x.K, .int .i64 x.N, .string (bs x.S), vL, vT]] w (Left 54 b (.bool (x.eq st).1) (x.eq st).2 w) := by
  by_cases h0 : x.K % 5 = 0
  · exact equal_0 W x h0 vL vT b st hst w he ha hW hr
  by_cases h1 : x.K % 5 = 1
  · exact equal_1 W x h1 vL vT b st hst w he ha hW hr
  by_cases h2 : x.K % 5 = 2
  · exact equal_2 W x h2 vL vT b st hst w he ha hW hr
  by_cases h3 : x.K % 5 = 3
  · exact equal_3 W x h3 vL vT b st hst w he ha hs hW hb hG hr
  · exact equal_4 W x (by omega) vL vT b st hst w he ha hs hW hb hG hr
end Go.Proofs.YtplejiaddemjhaaDoor
