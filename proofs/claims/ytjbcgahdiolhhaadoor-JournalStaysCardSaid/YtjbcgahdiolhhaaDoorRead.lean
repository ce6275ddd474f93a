/- What wire's readers do. -/
import Derived.Test.YtjbcgahdiolhhaaDoorWrite
import Derived.Deep.RegionHeld3
namespace Go.Proofs.YtjbcgahdiolhhaaDoor
open Go.RowKit Go.Shelf

/-- A reader in block b: what is left, or that it has failed. -/
def RdAt (T : TypeId) (b : Nat) (st : Option (List UInt8)) (w : World) : Prop := w.heap[b]? = some (.cells #[.string (bs (st.getD [])), .bool st.isNone] T (0, 0))

theorem RdAt.lt {T : TypeId} {b : Nat} {st : Option (List UInt8)} {w : World} (h : RdAt T b st w) : b < w.heap.size := (Array.getElem?_eq_some_iff.1 h).1
theorem RdAt.c0 {T : TypeId} {b : Nat} {st : Option (List UInt8)} {w : World} (h : RdAt T b st w) : w.cell? ⟨b, 0, none⟩ = some (.string (bs (st.getD []))) := by rw [Lib.cell_of_heap h]; rfl
theorem RdAt.c1 {T : TypeId} {b : Nat} {st : Option (List UInt8)} {w : World} (h : RdAt T b st w) : w.cell? ⟨b, 1, none⟩ = some (.bool st.isNone) := by rw [Lib.cell_of_heap h]; rfl
theorem RdAt.f {T : TypeId} {b : Nat} {st : Option (List UInt8)} {w : World} (h : RdAt T b st w) (j : Nat) : w.frozen? ⟨b, j, none⟩ = false := Lib.frozen_of_heap h j
theorem RdAt.fresh {T : TypeId} {b : Nat} {st : Option (List UInt8)} {w w' : World} (h : RdAt T b st w) (hb : Below w.heap.size w w') : RdAt T b st w' := (hb.block b h.lt).trans h
theorem RdAt.other {T : TypeId} {b g : Nat} {st : Option (List UInt8)} {w w' : World} (h : RdAt T b st w) (hb : w.grownBy w' (some g)) (hne : b ≠ g) : RdAt T b st w' := (hb.block b h.lt (by simpa using hne)).trans h

/-- Storing what is left. -/
theorem heap_set (w : World) (b j : Nat) (x : Value) {cs : Array Value} {T : TypeId} {fr : Nat × Nat} (h : w.heap[b]? = some (.cells cs T fr)) : (w.setCell ⟨b, j, none⟩ x).heap[b]? = some (.cells (cs.setIfInBounds j x) T fr) := by
  simp only [World.setCell, Array.getElem?_modify]
  simp [h]
theorem RdAt.set {T : TypeId} {b : Nat} {s t : List UInt8} {w : World} (h : RdAt T b (some s) w) : RdAt T b (some t) (w.setCell ⟨b, 0, none⟩ (.string (bs t))) := by
  unfold RdAt
  rw [heap_set w b 0 _ h]
  rfl
theorem RdAt.failed {T : TypeId} {b : Nat} {st : Option (List UInt8)} {w : World} (h : RdAt T b st w) : RdAt T b none ((w.setCell ⟨b, 0, none⟩ (.string ⟨#[]⟩)).setCell ⟨b, 1, none⟩ (.bool true)) := by
  unfold RdAt
  rw [heap_set _ b 1 _ (heap_set w b 0 _ h)]
  rfl

theorem fail_any (b : Nat) (st : Option (List UInt8)) (w : World) (h : RdAt 80 b st w) :
    Calls Tryd.prog 45 #[.pointer (some ⟨b, 0, none⟩)] w fun e w' => e = .returned (.tuple #[]) ∧ RdAt 80 b none w' ∧ w.grownBy w' (some b) := by
  have c0 := h.c0
  have c1 := h.c1
  have f0 := h.f 0
  have f1 := h.f 1
  go_enter Tryd.func45, Tryd.ntmps45
  go_wp2
  go_end0
  refine ⟨rfl, ?_, ?_⟩
  · exact h.failed
  · refine gb_set (p := ⟨b, 1, none⟩) ?_ (.inl rfl) _
    exact gb_set (p := ⟨b, 0, none⟩) (gb_refl _ _) (.inl rfl) _

theorem skip_nil (b : Nat) (c : Int) (st : Option (List UInt8)) (hs : st.getD [] = []) (w : World) (h : RdAt 80 b st w) :
    Calls Tryd.prog 46 #[.pointer (some ⟨b, 0, none⟩), .int .u8 c] w fun e w' => e = .returned (.bool false) ∧ RdAt 80 b none w' ∧ w.grownBy w' (some b) := by
  have c0 := h.c0
  rw [hs] at c0
  have hl : (bs []).toList = [] := bs_toList []
  clear hs
  go_enter Tryd.func46, Tryd.ntmps46
  go_wp2_with (go_at_call 45; refine (fail_any b _ _ h).mono ?_; rintro e w1 ⟨rfl, h1, g1⟩)
  go_ret
  exact ⟨rfl, h1, g1⟩

theorem bs_zero (x : UInt8) (t : List UInt8) (hz : 0 < (bs (x :: t)).size) : (bs (x :: t))[0]'hz = x := rfl

theorem skip_no (b : Nat) (c x : UInt8) (t : List UInt8) (hx : x ≠ c) (w : World) (h : RdAt 80 b (some (x :: t)) w) :
    Calls Tryd.prog 46 #[.pointer (some ⟨b, 0, none⟩), .int .u8 c.toNat] w fun e w' => e = .returned (.bool false) ∧ RdAt 80 b none w' ∧ w.grownBy w' (some b) := by
  have c0 : w.cell? ⟨b, 0, none⟩ = some (.string (bs (x :: t))) := h.c0
  have hl : (!(bs (x :: t)).toList.isEmpty) = true := by rw [bs_toList]; rfl
  have hl2 : ((bs (x :: t)).toList.isEmpty) = false := by rw [bs_toList]; rfl
  have hz : 0 < (bs (x :: t)).size := by rw [bs_size]; simp
  have hd : ((((bs (x :: t))[0]'hz).toNat : Int) != (c.toNat : Int)) = true := by
    rw [bs_zero, bne_iff_ne]
    intro e
    exact hx (UInt8.toNat_inj.1 (by omega))
  go_enter Tryd.func46, Tryd.ntmps46
  go_wp2_with (go_at_call 45; refine (fail_any b _ _ h).mono ?_; rintro e w1 ⟨rfl, h1, g1⟩)
  go_ret
  exact ⟨rfl, h1, g1⟩

theorem skip_yes (b : Nat) (c : UInt8) (t : List UInt8) (w : World) (h : RdAt 80 b (some (c :: t)) w) :
    Calls Tryd.prog 46 #[.pointer (some ⟨b, 0, none⟩), .int .u8 c.toNat] w fun e w' => e = .returned (.bool true) ∧ RdAt 80 b (some t) w' ∧ w.grownBy w' (some b) := by
  have c0 : w.cell? ⟨b, 0, none⟩ = some (.string (bs (c :: t))) := h.c0
  have f0 := h.f 0
  have hl : (!(bs (c :: t)).toList.isEmpty) = true := by rw [bs_toList]; rfl
  have hl2 : ((bs (c :: t)).toList.isEmpty) = false := by rw [bs_toList]; rfl
  have hz : 0 < (bs (c :: t)).size := by rw [bs_size]; simp
  have hz2 : 1 ≤ (bs (c :: t)).size := hz
  have hd : ((((bs (c :: t))[0]'hz).toNat : Int) != (c.toNat : Int)) = false := by
    rw [bs_zero]; simp
  have HE := Lib.hid (bs_extract (c :: t) 1 (bs (c :: t)).size)
  go_enter Tryd.func46, Tryd.ntmps46
  go_wp2
  go_ret
  refine ⟨rfl, ?_, gb_set (gb_refl _ _) (.inl rfl) _⟩
  rw [HE.out, bs_size]
  have := RdAt.set (t := t) h
  simpa using this

/-! ### integer, number -/
def rInt (e : UInt8) : Option (List UInt8) → Int × Option (List UInt8)
  | none => (0, none)
  | some s => match Sp.pInt e s with
    | none => (0, none)
    | some (n, t) => (n, some t)
def rNum (e : UInt8) : Option (List UInt8) → Int × Option (List UInt8)
  | none => (0, none)
  | some s => match Sp.pNum e s with
    | none => (0, none)
    | some (n, t) => (n, some t)

/-- What a method of a reader leaves. -/
def Left (T : TypeId) (b : Nat) (v : Value) (st : Option (List UInt8)) (w : World) (x : Ending) (w' : World) : Prop := x = .returned v ∧ RdAt T b st w' ∧ w.grownBy w' (some b)

theorem index_any (l : List UInt8) (e : UInt8) (w : World) : Calls Tryd.prog 56 #[.string (bs l), .int .u8 e.toNat] w fun x w' => x = .returned (.int .i64 (Lib.indexByte l e)) ∧ w = w' :=
  (Tryd.strings_IndexByte (bs l) e.toNat w).mono fun x w' ⟨h1, h2⟩ => ⟨by rw [h1, bs_list]; simp, h2.symm⟩

theorem integer_none (b : Nat) (e : UInt8) (st : Option (List UInt8)) (hi : Lib.indexByte (st.getD []) e < 0) (w : World) (h : RdAt 80 b st w) :
    Calls Tryd.prog 53 #[.pointer (some ⟨b, 0, none⟩), .int .u8 e.toNat] w (Left 80 b (.int .i64 0) none w) := by
  have c0 := h.c0
  go_enter Tryd.func53, Tryd.ntmps53
  go_wp2_with (first | (go_at_call 56; refine (index_any _ _ _).mono ?_; rintro x w1 ⟨rfl, rfl⟩) | (go_at_call 45; refine (fail_any b _ _ h).mono ?_; rintro x w1 ⟨rfl, h1, g1⟩))
  go_ret
  exact ⟨rfl, h1, g1⟩

theorem atoi_ok (t : List UInt8) (ht : t.length ≤ 281474976710656) (n : Int) (h : Lib.atoiAll t = .ok n) (w : World) :
    Calls Tryd.prog 57 #[.string (bs t)] w fun x w' => x = .returned (.tuple #[.int .i64 n, .nilIface]) ∧ Below w.heap.size w w' :=
  (Tryd.strconv_Atoi_ok (bs t) (by rw [bs_size]; omega) n h w).mono fun x w' ⟨h1, h2⟩ => ⟨h1, by
    rcases h2 with rfl | ⟨u, rfl⟩
    · exact Below.refl _ _
    · exact Lib.bytesWorld_below _ _ _⟩
theorem atoi_no (t : List UInt8) (ht : t.length ≤ 281474976710656) (h : ∀ n, Lib.atoiAll t ≠ .ok n) (w : World) (he : Env w) :
    Calls Tryd.prog 57 #[.string (bs t)] w fun x w' => ∃ n N, x = .returned (.tuple #[.int .i64 n, .iface 101 (.pointer (some ⟨N, 0, none⟩))]) ∧ Below w.heap.size w w' := by
  obtain ⟨tp, p, h1⟩ := he.syn
  obtain ⟨tq, q, h2⟩ := he.rng
  have hl : (bs t).size ≤ 281474976710656 := by rw [bs_size]; exact ht
  rcases hh : Lib.atoiAll t with n | _ | _
  · exact absurd hh (h n)
  · exact (Tryd.strconv_Atoi_syntax_var (bs t) hl hh tp p w h1).mono fun x w' ⟨N, a, _, _, d⟩ => ⟨_, N, a, d⟩
  · exact (Tryd.strconv_Atoi_range_var (bs t) hl hh tq q w h2).mono fun x w' ⟨N, a, _, _, d⟩ => ⟨_, N, a, d⟩

/-- The world w' is w1, with nothing that was there changed. -/
structure Same (w1 w' : World) : Prop where
  env : Env w'
  below : Below w1.heap.size w1 w'
theorem Same.start {w1 : World} (h : Env w1) : Same w1 w1.drew := ⟨h.fresh (Below.drew (Below.refl _ _)), Below.drew (Below.refl _ _)⟩
theorem held_fresh {b : Nat} {v : Value} {w1 W w2 : World} (h : W.cell? ⟨b, 0, none⟩ = some v ∧ Same w1 W) (hb : Below W.heap.size W w2) : w2.cell? ⟨b, 0, none⟩ = some v ∧ Same w1 w2 :=
  ⟨(hb.cell (p := ⟨b, 0, none⟩) (Lib.lt_of_cell h.1)).trans h.1, h.2.env.fresh hb, h.2.below.trans (hb.mono h.2.below.size)⟩
theorem Same.fresh {w1 w2 w3 : World} (h : Same w1 w2) (hb : Below w2.heap.size w2 w3) : Same w1 w3 := ⟨h.env.fresh hb, h.below.trans (hb.mono h.below.size)⟩

set_option maxHeartbeats 1000000 in
theorem integer_bad (b : Nat) (e : UInt8) (s : List UInt8) (hs : s.length ≤ 281474976710656) (o : Nat) (hi : Lib.indexByte s e = o) (ho : o < s.length) (hno : ∀ n, Lib.atoiAll (s.take o) ≠ .ok n) (w : World) (he : Env w) (h : RdAt 80 b (some s) w) :
    Calls Tryd.prog 53 #[.pointer (some ⟨b, 0, none⟩), .int .u8 e.toNat] w (Left 80 b (.int .i64 0) none w) := by
  have c0 : w.cell? ⟨b, 0, none⟩ = some (.string (bs s)) := h.c0
  have HI := Lib.hid hi
  have HE := Lib.hid (show (bs s).extract 0 o = bs (s.take o) by rw [bs_extract]; simp)
  have hsz : o ≤ (bs s).size := by rw [bs_size]; omega
  have hno' := hno
  have HN := Lib.hid hno
  clear hi hno hno'
  have hto : (s.take o).length ≤ 281474976710656 := by rw [List.length_take]; omega
  go_enter Tryd.func53, Tryd.ntmps53
  go_wp2_with (go_at_call 56; refine (index_any _ _ _).mono ?_; rintro x w1 ⟨rfl, rfl⟩; rw [HI.out]; refine Hid.out ?_)
  refine Lib.hid ?_
  go_wp2_with (go_at_call 57; rw [HE.out]; refine (atoi_no _ hto HN.out _ he).mono ?_; rintro x w1 ⟨n, N, rfl, hb1⟩; refine Hid.out ?_)
  refine Lib.hid ?_
  have h1 := h.fresh hb1
  have g1 := gb_of_below hb1 (some b)
  clear hb1
  go_wp2
  go_quiet (fail)
  have h2 : RdAt 80 b (some s) (w1.drewN nq) := h1
  have g2 := gb_drewN g1 nq
  clear h1 g1
  go_wp2_with (go_at_call 45; refine (fail_any b _ _ h2).mono ?_; rintro x w3 ⟨rfl, h3, g3⟩)
  go_ret
  exact ⟨rfl, h3, gb_trans g2 g3⟩

set_option maxHeartbeats 1000000 in
theorem integer_odd (b : Nat) (e : UInt8) (s : List UInt8) (hs : s.length ≤ 281474976710656) (o : Nat) (hi : Lib.indexByte s e = o) (ho : o < s.length) (n : Int) (hn : Lib.atoiAll (s.take o) = .ok n) (hd : Lib.itoa n ≠ s.take o) (w : World) (he : Env w) (h : RdAt 80 b (some s) w) :
    Calls Tryd.prog 53 #[.pointer (some ⟨b, 0, none⟩), .int .u8 e.toNat] w (Left 80 b (.int .i64 0) none w) := by
  have c0 : w.cell? ⟨b, 0, none⟩ = some (.string (bs s)) := h.c0
  have HI := Lib.hid hi
  have HE := Lib.hid (show (bs s).extract 0 o = bs (s.take o) by rw [bs_extract]; simp)
  have hsz : o ≤ (bs s).size := by rw [bs_size]; omega
  have hsz1 : o + 1 ≤ (bs s).size := by rw [bs_size]; omega
  have hto : (s.take o).length ≤ 281474976710656 := by rw [List.length_take]; omega
  have HN := Lib.hid hn
  have hn2 := Lib.atoiAll_bounds hn
  have hne : (!((bs (Lib.itoa n)).toList == ((bs s).extract 0 o).toList)) = true := by rw [bs_extract, bs_toList, bs_toList]; simpa using hd
  have HX := Lib.hid hne
  clear hi hn hd hne
  go_enter Tryd.func53, Tryd.ntmps53
  go_wp2_with (go_at_call 56; refine (index_any _ _ _).mono ?_; rintro x w1 ⟨rfl, rfl⟩; rw [HI.out]; refine Hid.out ?_)
  refine Lib.hid ?_
  go_wp2_with (go_at_call 57; rw [HE.out]; refine (atoi_ok _ hto _ HN.out _).mono ?_; rintro x w1 ⟨rfl, hb1⟩; refine Hid.out ?_)
  refine Lib.hid ?_
  have h1 := h.fresh hb1
  have e1 := he.fresh hb1
  have g1 := gb_of_below hb1 (some b)
  have c1 : w1.cell? ⟨b, 0, none⟩ = some (.string (bs s)) := h1.c0
  clear hb1
  go_wp2
  have s1 := Same.start e1
  go_region_held3 (fun w' => w'.cell? ⟨b, 0, none⟩ = some (.string (bs s)) ∧ Same w1 w') (first | exact ⟨c1, s1⟩ | assumption)
    (first | (go_at_call 48; refine (itoa_any n hn2 _ (Same.env (And.right (by assumption)))).mono ?_; rintro x w2 ⟨rfl, hb2⟩; have hS2 := held_fresh (by assumption) hb2))
  have h2 := h1.fresh hS2.2.below
  have g2 := gb_below g1 hS2.2.below
  have hx := HX.out
  simp only [hx]
  clear h1 e1 g1 c1 s1 hS2 hb2 c0 he h
  go_wp2_with (go_at_call 45; refine (fail_any b _ _ h2).mono ?_; rintro x w3 ⟨rfl, h3, g3⟩)
  go_ret
  exact ⟨rfl, h3, gb_trans g2 g3⟩

set_option maxHeartbeats 1000000 in
theorem integer_good (b : Nat) (e : UInt8) (s : List UInt8) (hs : s.length ≤ 281474976710656) (o : Nat) (hi : Lib.indexByte s e = o) (ho : o < s.length) (n : Int) (hn : Lib.atoiAll (s.take o) = .ok n) (hd : Lib.itoa n = s.take o) (w : World) (he : Env w) (h : RdAt 80 b (some s) w) :
    Calls Tryd.prog 53 #[.pointer (some ⟨b, 0, none⟩), .int .u8 e.toNat] w (Left 80 b (.int .i64 n) (some (s.drop (o + 1))) w) := by
  have c0 : w.cell? ⟨b, 0, none⟩ = some (.string (bs s)) := h.c0
  have HI := Lib.hid hi
  have HE := Lib.hid (show (bs s).extract 0 o = bs (s.take o) by rw [bs_extract]; simp)
  have hsz : o ≤ (bs s).size := by rw [bs_size]; omega
  have hsz1 : o + 1 ≤ (bs s).size := by rw [bs_size]; omega
  have hto : (s.take o).length ≤ 281474976710656 := by rw [List.length_take]; omega
  have HN := Lib.hid hn
  have hn2 := Lib.atoiAll_bounds hn
  have hne : (!((bs (Lib.itoa n)).toList == ((bs s).extract 0 o).toList)) = false := by rw [bs_extract, bs_toList, bs_toList]; simpa using hd
  have HX := Lib.hid hne
  clear hi hn hd hne
  go_enter Tryd.func53, Tryd.ntmps53
  go_wp2_with (go_at_call 56; refine (index_any _ _ _).mono ?_; rintro x w1 ⟨rfl, rfl⟩; rw [HI.out]; refine Hid.out ?_)
  refine Lib.hid ?_
  go_wp2_with (go_at_call 57; rw [HE.out]; refine (atoi_ok _ hto _ HN.out _).mono ?_; rintro x w1 ⟨rfl, hb1⟩; refine Hid.out ?_)
  refine Lib.hid ?_
  have h1 := h.fresh hb1
  have e1 := he.fresh hb1
  have g1 := gb_of_below hb1 (some b)
  have c1 : w1.cell? ⟨b, 0, none⟩ = some (.string (bs s)) := h1.c0
  clear hb1
  go_wp2
  have s1 := Same.start e1
  go_region_held3 (fun w' => w'.cell? ⟨b, 0, none⟩ = some (.string (bs s)) ∧ Same w1 w') (first | exact ⟨c1, s1⟩ | assumption)
    (first | (go_at_call 48; refine (itoa_any n hn2 _ (Same.env (And.right (by assumption)))).mono ?_; rintro x w2 ⟨rfl, hb2⟩; have hS2 := held_fresh (by assumption) hb2))
  have h2 := h1.fresh hS2.2.below
  have g2 := gb_below g1 hS2.2.below
  have hx := HX.out
  simp only [hx]
  have f2 := h2.f 0
  have c2 := hS2.1
  have HE2 := Lib.hid (bs_extract s (o + 1) (bs s).size)
  clear h1 e1 g1 c1 s1 hS2 hb2 c0 he h
  go_wp2
  go_ret
  refine ⟨rfl, ?_, gb_set (p := ⟨b, 0, none⟩) g2 (.inl rfl) _⟩
  rw [HE2.out, bs_size, List.take_of_length_le (by simp)]
  exact RdAt.set h2

theorem integer_any (b : Nat) (e : UInt8) (st : Option (List UInt8)) (hs : (st.getD []).length ≤ 281474976710656) (w : World) (he : Env w) (h : RdAt 80 b st w) :
    Calls Tryd.prog 53 #[.pointer (some ⟨b, 0, none⟩), .int .u8 e.toNat] w (Left 80 b (.int .i64 (rInt e st).1) (rInt e st).2 w) := by
  cases st with
  | none => exact integer_none b e none (by show Lib.indexByte [] e < 0; simp [Lib.indexByte]) w h
  | some s =>
    by_cases hi : Lib.indexByte s e < 0
    · have hr : rInt e (some s) = (0, none) := by simp only [rInt, Sp.pInt]; rw [if_pos hi]
      rw [hr]
      exact integer_none b e (some s) hi w h
    · obtain ⟨o, ho⟩ := Int.eq_ofNat_of_zero_le (Int.not_lt.1 hi)
      have hlt : o < s.length := (List.getElem?_eq_some_iff.1 (Lib.indexByte_some (o := o) ho).1).1
      have hp : Sp.pInt e s = (Sp.canon (s.take o)).map fun n => (n, s.drop (o + 1)) := by
        unfold Sp.pInt
        rw [if_neg hi, ho, Int.toNat_natCast]
      by_cases hok : ∃ n, Lib.atoiAll (s.take o) = .ok n
      · obtain ⟨n, hn⟩ := hok
        by_cases hd : Lib.itoa n = s.take o
        · have hr : rInt e (some s) = (n, some (s.drop (o + 1))) := by
            simp only [rInt, hp, Sp.canon, hn]
            rw [if_pos hd]; rfl
          rw [hr]
          exact integer_good b e s hs o ho hlt n hn hd w he h
        · have hr : rInt e (some s) = (0, none) := by
            simp only [rInt, hp, Sp.canon, hn]
            rw [if_neg hd]; rfl
          rw [hr]
          exact integer_odd b e s hs o ho hlt n hn hd w he h
      · have hr : rInt e (some s) = (0, none) := by
          have hc : Sp.canon (s.take o) = none := by
            unfold Sp.canon
            split
            · rename_i n hn
              exact absurd ⟨n, hn⟩ hok
            · rfl
          simp only [rInt, hp, hc]; rfl
        rw [hr]
        exact integer_bad b e s hs o ho hlt (fun n hn => hok ⟨n, hn⟩) w he h

theorem rNum_eq (e : UInt8) (st : Option (List UInt8)) : rNum e st = if (rInt e st).1 < 0 then (0, none) else rInt e st := by
  cases st with
  | none => rfl
  | some s =>
    rcases h : Sp.pInt e s with _ | ⟨n, t⟩
    · simp [rNum, rInt, Sp.pNum, h]
    · by_cases hn : n < 0 <;> simp [rNum, rInt, Sp.pNum, h, hn]

theorem number_any (b : Nat) (e : UInt8) (st : Option (List UInt8)) (hs : (st.getD []).length ≤ 281474976710656) (w : World) (he : Env w) (h : RdAt 80 b st w) :
    Calls Tryd.prog 44 #[.pointer (some ⟨b, 0, none⟩), .int .u8 e.toNat] w (Left 80 b (.int .i64 (rNum e st).1) (rNum e st).2 w) := by
  have HR := Lib.hid (rNum_eq e st)
  by_cases hn : (rInt e st).1 < 0
  · rw [HR.out, if_pos hn]
    go_enter Tryd.func44, Tryd.ntmps44
    go_wp2_with (go_at_call 53; refine (integer_any b e st hs _ he h).mono ?_; rintro x w1 ⟨rfl, h1, g1⟩; refine Hid.out ?_)
    refine Lib.hid ?_
    go_wp2_with (go_at_call 45; refine (fail_any b _ _ h1).mono ?_; rintro x w2 ⟨rfl, h2, g2⟩)
    go_ret
    exact ⟨rfl, h2, gb_trans g1 g2⟩
  · rw [HR.out, if_neg hn]
    go_enter Tryd.func44, Tryd.ntmps44
    go_wp2_with (go_at_call 53; refine (integer_any b e st hs _ he h).mono ?_; rintro x w1 ⟨rfl, h1, g1⟩)
    go_ret
    exact ⟨rfl, h1, g1⟩

theorem num_any (b : Nat) (st : Option (List UInt8)) (hs : (st.getD []).length ≤ 281474976710656) (w : World) (he : Env w) (h : RdAt 80 b st w) :
    Calls Tryd.prog 26 #[.pointer (some ⟨b, 0, none⟩)] w (Left 80 b (.int .i64 (rNum 59 st).1) (rNum 59 st).2 w) := by
  go_enter Tryd.func26, Tryd.ntmps26
  go_wp2_with (go_at_call 44; refine (number_any b 59 st hs _ he h).mono ?_; rintro x w1 ⟨rfl, h1, g1⟩)
  go_ret
  exact ⟨rfl, h1, g1⟩
/-! ### skip, Text -/
def rSkip (c : UInt8) : Option (List UInt8) → Bool × Option (List UInt8)
  | none => (false, none)
  | some s => match Sp.skip c s with
    | none => (false, none)
    | some t => (true, some t)
theorem skip_any (b : Nat) (c : UInt8) (st : Option (List UInt8)) (w : World) (h : RdAt 80 b st w) :
    Calls Tryd.prog 46 #[.pointer (some ⟨b, 0, none⟩), .int .u8 c.toNat] w (Left 80 b (.bool (rSkip c st).1) (rSkip c st).2 w) := by
  cases st with
  | none => exact skip_nil b c.toNat none rfl w h
  | some s =>
    cases s with
    | nil => exact skip_nil b c.toNat (some []) rfl w h
    | cons x t =>
      by_cases hx : x = c
      · subst hx
        have hr : rSkip x (some (x :: t)) = (true, some t) := by simp [rSkip, Sp.skip]
        rw [hr]
        exact skip_yes b x t w h
      · have hr : rSkip c (some (x :: t)) = (false, none) := by simp [rSkip, Sp.skip, hx]
        rw [hr]
        exact skip_no b c x t hx w h

def rText : Option (List UInt8) → List UInt8 × Option (List UInt8)
  | none => ([], none)
  | some s => match Sp.pText s with
    | none => ([], none)
    | some (l, t) => (l, some t)

theorem RdAt.set_none {T : TypeId} {b : Nat} {w : World} (h : RdAt T b none w) : RdAt T b none (w.setCell ⟨b, 0, none⟩ (.string (bs []))) := by
  unfold RdAt
  rw [heap_set w b 0 _ h]
  rfl

/-- The number in front was none. -/
theorem text_none (b : Nat) (st : Option (List UInt8)) (hs : (st.getD []).length ≤ 281474976710656) (hr : rNum 58 st = (0, none)) (w : World) (he : Env w) (h : RdAt 80 b st w) :
    Calls Tryd.prog 25 #[.pointer (some ⟨b, 0, none⟩)] w (Left 80 b (.string (bs [])) none w) := by
  have hl : (bs []).size = 0 := bs_size []
  have HL := Lib.hid hl
  have HE := Lib.hid (show (bs []).extract 0 0 = bs [] by rw [bs_extract]; rfl)
  have HR := Lib.hid hr
  have HN := number_any b 58 st hs
  rw [hr] at HN
  have HN' := Lib.hid HN
  clear hl hr HN
  go_enter Tryd.func25, Tryd.ntmps25
  go_wp2_with (go_at_call 44; refine (HN'.out _ he h).mono ?_; rintro x w1 ⟨rfl, h1, g1⟩; refine Hid.out ?_)
  refine Lib.hid ?_
  have c1 : w1.cell? ⟨b, 0, none⟩ = some (.string (bs [])) := h1.c0
  have f1 := h1.f 0
  have h2 := h1.set_none
  have g2 := gb_set (p := ⟨b, 0, none⟩) g1 (.inl rfl) (.string (bs []))
  have hz : (bs []).size ≤ 0 := by rw [HL.out]; exact Nat.le_refl _
  clear h1 g1
  go_wp2_with (go_at_call 46; refine (skip_nil b 44 none rfl _ h2).mono ?_; rintro x w3 ⟨rfl, h3, g3⟩)
  go_ret
  exact ⟨rfl, h3, gb_trans g2 g3⟩

/-- The string would be longer than what is left. -/
theorem text_long (b : Nat) (st : Option (List UInt8)) (hs : (st.getD []).length ≤ 281474976710656) (n : Int) (t : List UInt8) (hr : rNum 58 st = (n, some t)) (hn : (t.length : Int) < n) (w : World) (he : Env w) (h : RdAt 80 b st w) :
    Calls Tryd.prog 25 #[.pointer (some ⟨b, 0, none⟩)] w (Left 80 b (.string (bs [])) none w) := by
  have HN := number_any b 58 st hs
  rw [hr] at HN
  have HN' := Lib.hid HN
  have hz : ((bs t).size : Int) < n := by rw [bs_size]; exact hn
  clear hr HN
  go_enter Tryd.func25, Tryd.ntmps25
  go_wp2_with (go_at_call 44; refine (HN'.out _ he h).mono ?_; rintro x w1 ⟨rfl, h1, g1⟩; refine Hid.out ?_)
  refine Lib.hid ?_
  have c1 : w1.cell? ⟨b, 0, none⟩ = some (.string (bs t)) := h1.c0
  go_wp2_with (go_at_call 45; refine (fail_any b _ _ h1).mono ?_; rintro x w2 ⟨rfl, h2, g2⟩)
  go_ret
  exact ⟨rfl, h2, gb_trans g1 g2⟩

set_option maxHeartbeats 400000 in
theorem text_tail (b : Nat) (st : Option (List UInt8)) (hs : (st.getD []).length ≤ 281474976710656) (n : Nat) (t : List UInt8) (hr : rNum 58 st = ((n : Int), some t)) (hn : n ≤ t.length) (ht : t.length ≤ 281474976710656) (q : Bool) (st' : Option (List UInt8)) (hk : rSkip 44 (some (t.drop n)) = (q, st')) (w : World) (he : Env w) (h : RdAt 80 b st w) :
    Calls Tryd.prog 25 #[.pointer (some ⟨b, 0, none⟩)] w (Left 80 b (.string (bs (if q then t.take n else []))) st' w) := by
  have HN := number_any b 58 st hs
  rw [hr] at HN
  have HN' := Lib.hid HN
  have HK := skip_any b 44 (some (t.drop n))
  rw [hk] at HK
  have HK' := Lib.hid HK
  have hz : n ≤ (bs t).size := by rw [bs_size]; exact hn
  have HT := Lib.hid (show (bs t).extract 0 n = bs (t.take n) by rw [bs_extract]; simp)
  have HD := Lib.hid (show (bs t).extract n (bs t).size = bs (t.drop n) by rw [bs_extract, bs_size, List.take_of_length_le (by simp)])
  have hc : (bs (t.take n)).size ≤ 281474976710656 := by rw [bs_size, List.length_take]; omega
  clear hr HN hk HK
  cases q
  all_goals
    go_enter Tryd.func25, Tryd.ntmps25
    go_wp2_with (go_at_call 44; refine (HN'.out _ he h).mono ?_; rintro x w1 ⟨rfl, h1, g1⟩; refine Hid.out ?_)
    refine Lib.hid ?_
    have c1 : w1.cell? ⟨b, 0, none⟩ = some (.string (bs t)) := h1.c0
    have f1 := h1.f 0
    have h2 := RdAt.set (t := t.drop n) h1
    have g2 := gb_set (p := ⟨b, 0, none⟩) g1 (.inl rfl) (.string (bs (t.drop n)))
    go_wp2_with (go_at_call 46; rw [HD.out]; refine (HK'.out _ h2).mono ?_; rintro x w3 ⟨rfl, h3, g3⟩; refine Hid.out ?_)
    refine Lib.hid ?_
    have g4 := gb_trans g2 g3
    clear h1 g1 c1 f1 h2 g2 g3
  · go_wp2
    go_ret
    exact ⟨rfl, h3, g4⟩
  · go_wp2_with (go_at_call 47; rw [HT.out]; refine (clone_any _ hc _).mono ?_; rintro x w5 ⟨rfl, hb5⟩)
    go_ret
    exact ⟨rfl, h3.fresh hb5, gb_below g4 hb5⟩
end Go.Proofs.YtjbcgahdiolhhaaDoor
