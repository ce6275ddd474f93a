/- WirePrefix: the walk. -/
import Derived.Test.YtplejiaddemjhaaDoorVal3
import Derived.Handy
namespace Go.Proofs.YtplejiaddemjhaaDoor
open Go.RowKit Go.Shelf

/-- Reading inverts writing. -/
theorem eq_enc (x : Val) (hx : x.Ok) (hs : Small x) (t : List UInt8) : x.eq (some (x.enc ++ t)) = (true, some t) := by
  obtain ⟨s1, s2, s3, s4⟩ := hs
  unfold Val.eq Val.enc
  by_cases h0 : x.K % 5 = 0
  · simp only [if_pos h0, rNum, Sp.pNum_e (num x.N) (num_i64 hx.N) (num_pos _)]
    simp
  by_cases h1 : x.K % 5 = 1
  · simp only [if_neg h0, if_pos h1, rInt, Sp.pInt_e x.N hx.N]
    simp
  by_cases h2 : x.K % 5 = 2
  · simp only [if_neg h0, if_neg h1, if_pos h2, rText, Sp.pText_e x.S (by omega)]
    simp
  by_cases h3 : x.K % 5 = 3
  · simp only [if_neg h0, if_neg h1, if_neg h2, if_pos h3, rList, Sp.pList_e Sp.eInt (Sp.pInt 59) x.L (by omega) (fun a ha t => Sp.pInt_e a (hx.L a ha) t)]
    simp
  · simp only [if_neg h0, if_neg h1, if_neg h2, if_neg h3, rList, Sp.pList_e Sp.eText Sp.pText x.T (by omega) (fun a ha t => Sp.pText_e a (by have := s4 a ha; omega) t)]
    simp
theorem eq_kind (x y : Val) (h : x.K % 5 = y.K % 5) (st : Option (List UInt8)) : (x.eq st).2 = (y.eq st).2 := by
  unfold Val.eq
  rw [h]
  repeat' (split <;> try rfl)
theorem enc_prefix {x y : Val} (hx : x.Ok) (hy : y.Ok) (sx : Small x) (sy : Small y) (h : x.K % 5 = y.K % 5) {t : List UInt8} (he : y.enc = x.enc ++ t) : t = [] := by
  have e1 := eq_enc x hx sx t
  have e2 := eq_enc y hy sy []
  rw [List.append_nil, he] at e2
  have e3 := eq_kind x y h (some (x.enc ++ t))
  rw [e1, e2] at e3
  simpa using e3

/-- A slice of one value. -/
theorem vals_one (w : World) (x : Val) (vL vT : Value) (hL : IntsAt w vL x.L) (hT : TextsAt w vT x.T) :
    ValsAt (w.alloc (.cells #[.int .i64 x.K, .int .i64 x.N, .string (bs x.S), vL, vT] 25)) (.slice (some ⟨w.heap.size, 0, none⟩) 1 1) [x] := by
  have hb : Below w.heap.size w (w.alloc (.cells #[.int .i64 x.K, .int .i64 x.N, .string (bs x.S), vL, vT] 25)) := (Below.refl _ _).alloc (Nat.le_refl _) _
  refine ⟨_, 1, rfl, .inr ⟨w.heap.size, 0, rfl, by simp, fun i y hi => ?_⟩⟩
  match i, hi with
  | 0, hi =>
    simp only [List.getElem?_cons_zero, Option.some.injEq] at hi
    subst hi
    have hc := Lib.cell_of_heap (heap_alloc_new w (.cells #[.int .i64 x.K, .int .i64 x.N, .string (bs x.S), vL, vT] 25))
    exact ⟨vL, vT, ⟨hc 0, hc 1, hc 2, hc 3, hc 4⟩, hL.keep hb, hT.keep hb⟩

theorem few_at (v : Value) (xs : List Val) (q : Bool) (hq : fewB xs = q) (w : World) (h : ValsAt w v xs) : Calls Tryd.prog 10 #[v] w fun e w' => e = .returned (.bool q) ∧ Below w.heap.size w w' := hq ▸ few_any v xs w h

theorem below_step {B : Nat} {w1 X w2 : World} {Z : Prop} (h : Below B w1 X ∧ Z) (hB : B ≤ w1.heap.size) (hb : Below X.heap.size X w2) : Below B w1 w2 := h.1.trans (hb.mono (Nat.le_trans hB h.1.size))

theorem box2_x {w w1 : World} {cs : Array Value} {T : TypeId} {o : Obj} (hb : Below (w.heap.size + 1 + 1) ((w.alloc (.cells cs T)).alloc o) w1) (j : Nat) : w1.cell? ⟨w.heap.size, j, none⟩ = cs[j]? := by
  rw [hb.cell (p := ⟨w.heap.size, j, none⟩) (by simp; omega), World.cell?_alloc_lt _ _ _ (by simp)]
  exact Lib.cell_of_heap (heap_alloc_new w _) j
theorem box2_y {w w1 : World} {cs : Array Value} {T : TypeId} {o : Obj} (hb : Below (w.heap.size + 1 + 1) ((w.alloc o).alloc (.cells cs T)) w1) (j : Nat) : w1.cell? ⟨w.heap.size + 1, j, none⟩ = cs[j]? := by
  rw [hb.cell (p := ⟨w.heap.size + 1, j, none⟩) (by simp), show w.heap.size + 1 = (w.alloc o).heap.size by simp]
  exact Lib.cell_of_heap (heap_alloc_new (w.alloc o) (.cells cs T)) j
theorem box2_below {w w1 : World} {o o' : Obj} (hb : Below (w.heap.size + 1 + 1) ((w.alloc o).alloc o') w1) : Below w.heap.size w w1 :=
  (((Below.refl _ _).alloc (Nat.le_refl _) _).alloc (by simp) _).trans (hb.mono (by omega))

/-- What stands in both boxes while nothing below them changes. -/
def Boxes (w : World) (x y : Val) (vL vT uL uT : Value) (w1 w' : World) : Prop :=
  Below (w.heap.size + 1 + 1) w1 w' ∧
  w'.cell? ⟨w.heap.size, 0, none⟩ = some (.int .i64 x.K) ∧ w'.cell? ⟨w.heap.size, 1, none⟩ = some (.int .i64 x.N) ∧ w'.cell? ⟨w.heap.size, 2, none⟩ = some (.string (bs x.S)) ∧ w'.cell? ⟨w.heap.size, 3, none⟩ = some vL ∧ w'.cell? ⟨w.heap.size, 4, none⟩ = some vT ∧
  w'.cell? ⟨w.heap.size + 1, 0, none⟩ = some (.int .i64 y.K) ∧ w'.cell? ⟨w.heap.size + 1, 1, none⟩ = some (.int .i64 y.N) ∧ w'.cell? ⟨w.heap.size + 1, 2, none⟩ = some (.string (bs y.S)) ∧ w'.cell? ⟨w.heap.size + 1, 3, none⟩ = some uL ∧ w'.cell? ⟨w.heap.size + 1, 4, none⟩ = some uT

theorem Boxes.step {w : World} {x y : Val} {vL vT uL uT : Value} {w1 X w' : World} (h : Boxes w x y vL vT uL uT w1 X) (hb : Below (w.heap.size + 1 + 1) X w') : Boxes w x y vL vT uL uT w1 w' := by
  obtain ⟨h, a0, a1, a2, a3, a4, c0, c1, c2, c3, c4⟩ := h
  have e : ∀ j, w'.cell? ⟨w.heap.size, j, none⟩ = X.cell? ⟨w.heap.size, j, none⟩ := fun j => hb.cell (p := ⟨w.heap.size, j, none⟩) (by simp; omega)
  have f : ∀ j, w'.cell? ⟨w.heap.size + 1, j, none⟩ = X.cell? ⟨w.heap.size + 1, j, none⟩ := fun j => hb.cell (p := ⟨w.heap.size + 1, j, none⟩) (by simp)
  exact ⟨h.trans hb, (e 0).trans a0, (e 1).trans a1, (e 2).trans a2, (e 3).trans a3, (e 4).trans a4, (f 0).trans c0, (f 1).trans c1, (f 2).trans c2, (f 3).trans c3, (f 4).trans c4⟩

theorem ValsAt.keep {w w' : World} {v : Value} {xs : List Val} (h : ValsAt w v xs) (hb : Below w.heap.size w w') : ValsAt w' v xs := by
  obtain ⟨a, cap, h1, h2⟩ := h
  refine ⟨a, cap, h1, ?_⟩
  rcases h2 with h2 | ⟨b, off, h3, h4, h5⟩
  · exact .inl h2
  · refine .inr ⟨b, off, h3, Nat.lt_of_lt_of_le h4 hb.size, fun i x hi => ?_⟩
    obtain ⟨vL, vT, hc, hL, hT⟩ := h5 i x hi
    have e : ∀ o, w'.cell? ⟨b, o, none⟩ = w.cell? ⟨b, o, none⟩ := fun o => hb.cell (p := ⟨b, o, none⟩) h4
    exact ⟨vL, vT, ⟨(e _).trans hc.c0, (e _).trans hc.c1, (e _).trans hc.c2, (e _).trans hc.c3, (e _).trans hc.c4⟩, hL.keep hb, hT.keep hb⟩
theorem ValsAt.drew {w : World} {v : Value} {xs : List Val} (h : ValsAt w v xs) : ValsAt w.drew v xs := h.keep (Below.drew (Below.refl _ _))

theorem prefix_of {a b : List UInt8} (h : ¬ (bs b).size < (bs a).size ∧ (!(((bs b).extract 0 (min ((bs a).size : Int) ((bs b).size : Int)).toNat).toList == (bs a).toList)) = false) : ∃ t, b = a ++ t := by
  obtain ⟨h1, h2⟩ := h
  rw [bs_size, bs_size] at h1
  rw [bs_size, bs_size, bs_extract, bs_toList, bs_toList] at h2
  have e : (min (a.length : Int) (b.length : Int)).toNat = a.length := by omega
  rw [e] at h2
  have h3 : b.take a.length = a := by simpa using h2
  exact ⟨b.drop a.length, by rw [← h3, List.length_take, Nat.min_eq_left (by omega), List.take_append_drop]⟩
theorem enc_len (x : Val) (hs : Small x) (hx : x.Ok) : x.enc.length ≤ 1099511627776 := by
  obtain ⟨s1, s2, s3, s4⟩ := hs
  have h1 := Lib.itoa_length_le x.N hx.N.1 hx.N.2
  have h2 := Lib.itoa_length_le (num x.N) (num_i64 hx.N).1 (num_i64 hx.N).2
  have h3 := ints_len x.L hx.L
  have h4 := texts_len x.T s4
  have h5 := list_len _ s1
  have h6 := list_len _ s2
  have h7 := list_len _ s3
  unfold Val.enc
  split
  · unfold Sp.eNum Sp.eInt; split <;> simp; omega
  split
  · unfold Sp.eInt; simp; omega
  split
  · unfold Sp.eText; simp; omega
  split
  · rw [eList_length]; omega
  · rw [eList_length]; omega

set_option maxRecDepth 100000 in
set_option maxHeartbeats 2000000 in
theorem prefix_A (x y : Val) (vL vT uL uT : Value) (w : World) (he : Env w) (hx : Aggs w x vL vT) (hy : Aggs w y uL uT) (hf : fewB [x] = false) :
    Calls Tryd.prog 7 #[.agg #[.int .i64 x.K, .int .i64 x.N, .string (bs x.S), vL, vT], .agg #[.int .i64 y.K, .int .i64 y.N, .string (bs y.S), uL, uT]] w fun e w' => e = .returned (.bool true) ∧ Below w.heap.size w w' := by
  have HX := Lib.hid hf
  clear hf
  go_enter Tryd.func7, Tryd.ntmps7
  go_wp2_with (go_at_call 9; refine (small_any _ ((he.alloc _).alloc _)).mono ?_; rintro e w1 ⟨rfl, b1⟩; refine Hid.out ?_)
  refine Lib.hid ?_
  have b1 : Below (w.heap.size + 1 + 1) ((w.alloc (.cells #[.int .i64 x.K, .int .i64 x.N, .string (bs x.S), vL, vT] 25)).alloc (.cells #[.int .i64 y.K, .int .i64 y.N, .string (bs y.S), uL, uT] 25)) w1 := by simpa using b1
  have hB : w.heap.size + 1 + 1 ≤ w1.heap.size := by simpa using b1.size
  have k1 := box2_below b1
  have S0 : Boxes w x y vL vT uL uT w1 w1 := ⟨Below.refl _ _, box2_x b1 0, box2_x b1 1, box2_x b1 2, box2_x b1 3, box2_x b1 4, box2_y b1 0, box2_y b1 1, box2_y b1 2, box2_y b1 3, box2_y b1 4⟩
  have S1 : Boxes w x y vL vT uL uT w1 w1.drew := S0.step (Below.drew (Below.refl _ _))
  have SA : Boxes w x y vL vT uL uT w1 (w1.alloc (.cells #[.int .i64 x.K, .int .i64 x.N, .string (bs x.S), vL, vT] 25)).drew := S0.step (Below.drew ((Below.refl _ _).alloc hB _))
  have x1 := hx.keep k1
  have y1 := hy.keep k1
  clear b1
  go_wp2
  obtain ⟨q0, q1, q2, q3, q4⟩ := (show w1.cell? ⟨w.heap.size, 0, none⟩ = some (.int .i64 x.K) ∧ w1.cell? ⟨w.heap.size, 1, none⟩ = some (.int .i64 x.N) ∧ w1.cell? ⟨w.heap.size, 2, none⟩ = some (.string (bs x.S)) ∧ w1.cell? ⟨w.heap.size, 3, none⟩ = some vL ∧ w1.cell? ⟨w.heap.size, 4, none⟩ = some vT from ⟨S0.2.1, S0.2.2.1, S0.2.2.2.1, S0.2.2.2.2.1, S0.2.2.2.2.2.1⟩)
  go_region_with (first | (go_at_call_of 10 w1.heap.size; refine (few_at _ [x] false HX.out _ (vals_one _ x vL vT x1.L x1.T).drew).mono ?_; rintro e w2 ⟨rfl, b2⟩; have S2 : Boxes w x y vL vT uL uT w1 w2 := SA.step (b2.mono (by simp; omega)); have z2 : w1.heap.size ≤ w2.heap.size := S2.1.size; have m2 : Below w.heap.size w w2 := k1.trans (S2.1.mono (by omega))))
  all_goals
    go_wp2
    go_ret
    exact ⟨rfl, m2⟩

set_option maxRecDepth 100000 in
set_option maxHeartbeats 2000000 in
theorem prefix_B (x y : Val) (vL vT uL uT : Value) (w : World) (he : Env w) (hx : Aggs w x vL vT) (hy : Aggs w y uL uT) (hf : fewB [x] = true) (hg : fewB [y] = false) :
    Calls Tryd.prog 7 #[.agg #[.int .i64 x.K, .int .i64 x.N, .string (bs x.S), vL, vT], .agg #[.int .i64 y.K, .int .i64 y.N, .string (bs y.S), uL, uT]] w fun e w' => e = .returned (.bool true) ∧ Below w.heap.size w w' := by
  have HX := Lib.hid hf
  have HY := Lib.hid hg
  clear hf hg
  go_enter Tryd.func7, Tryd.ntmps7
  go_wp2_with (go_at_call 9; refine (small_any _ ((he.alloc _).alloc _)).mono ?_; rintro e w1 ⟨rfl, b1⟩; refine Hid.out ?_)
  refine Lib.hid ?_
  have b1 : Below (w.heap.size + 1 + 1) ((w.alloc (.cells #[.int .i64 x.K, .int .i64 x.N, .string (bs x.S), vL, vT] 25)).alloc (.cells #[.int .i64 y.K, .int .i64 y.N, .string (bs y.S), uL, uT] 25)) w1 := by simpa using b1
  have hB : w.heap.size + 1 + 1 ≤ w1.heap.size := by simpa using b1.size
  have k1 := box2_below b1
  have S0 : Boxes w x y vL vT uL uT w1 w1 := ⟨Below.refl _ _, box2_x b1 0, box2_x b1 1, box2_x b1 2, box2_x b1 3, box2_x b1 4, box2_y b1 0, box2_y b1 1, box2_y b1 2, box2_y b1 3, box2_y b1 4⟩
  have S1 : Boxes w x y vL vT uL uT w1 w1.drew := S0.step (Below.drew (Below.refl _ _))
  have SA : Boxes w x y vL vT uL uT w1 (w1.alloc (.cells #[.int .i64 x.K, .int .i64 x.N, .string (bs x.S), vL, vT] 25)).drew := S0.step (Below.drew ((Below.refl _ _).alloc hB _))
  have x1 := hx.keep k1
  have y1 := hy.keep k1
  clear b1
  go_wp2
  obtain ⟨q0, q1, q2, q3, q4⟩ := (show w1.cell? ⟨w.heap.size, 0, none⟩ = some (.int .i64 x.K) ∧ w1.cell? ⟨w.heap.size, 1, none⟩ = some (.int .i64 x.N) ∧ w1.cell? ⟨w.heap.size, 2, none⟩ = some (.string (bs x.S)) ∧ w1.cell? ⟨w.heap.size, 3, none⟩ = some vL ∧ w1.cell? ⟨w.heap.size, 4, none⟩ = some vT from ⟨S0.2.1, S0.2.2.1, S0.2.2.2.1, S0.2.2.2.2.1, S0.2.2.2.2.2.1⟩)
  go_region_with (first | (go_at_call_of 10 w1.heap.size; refine (few_at _ [x] true HX.out _ (vals_one _ x vL vT x1.L x1.T).drew).mono ?_; rintro e w2 ⟨rfl, b2⟩; have S2 : Boxes w x y vL vT uL uT w1 w2 := SA.step (b2.mono (by simp; omega)); have z2 : w1.heap.size ≤ w2.heap.size := S2.1.size; have m2 : Below w.heap.size w w2 := k1.trans (S2.1.mono (by omega)); have S3 : Boxes w x y vL vT uL uT w1 (w2.alloc (.cells #[.int .i64 y.K, .int .i64 y.N, .string (bs y.S), uL, uT] 25)) := S2.step ((Below.refl _ _).alloc (by omega) _); obtain ⟨r0, r1, r2, r3, r4⟩ := (show w2.cell? ⟨w.heap.size + 1, 0, none⟩ = some (.int .i64 y.K) ∧ w2.cell? ⟨w.heap.size + 1, 1, none⟩ = some (.int .i64 y.N) ∧ w2.cell? ⟨w.heap.size + 1, 2, none⟩ = some (.string (bs y.S)) ∧ w2.cell? ⟨w.heap.size + 1, 3, none⟩ = some uL ∧ w2.cell? ⟨w.heap.size + 1, 4, none⟩ = some uT from S2.2.2.2.2.2.2)) | (go_at_call 10; refine (few_at _ [y] false HY.out _ (vals_one _ y uL uT (hy.L.keep m2) (hy.T.keep m2))).mono ?_; rintro e w3 ⟨rfl, b3⟩; have S4 : Boxes w x y vL vT uL uT w1 w3 := S3.step (b3.mono (by simp; omega)); have m3 : Below w.heap.size w w3 := k1.trans (S4.1.mono (by omega))))
  all_goals
    go_wp2
    go_ret
    exact ⟨rfl, m3⟩

set_option maxRecDepth 100000 in
set_option maxHeartbeats 2000000 in
theorem prefix_C (x y : Val) (vL vT uL uT : Value) (w : World) (he : Env w) (hx : Aggs w x vL vT) (hy : Aggs w y uL uT) (hf : fewB [x] = true) (hg : fewB [y] = true) (i j : Int) (ha : x.K % 5 = i) (hc : y.K % 5 = j) :
    Calls Tryd.prog 7 #[.agg #[.int .i64 x.K, .int .i64 x.N, .string (bs x.S), vL, vT], .agg #[.int .i64 y.K, .int .i64 y.N, .string (bs y.S), uL, uT]] w fun e w' => e = .returned (.bool true) ∧ Below w.heap.size w w' := by
  have HX := Lib.hid hf
  have HY := Lib.hid hg
  have HA := Lib.hid ha
  have HC := Lib.hid hc
  clear hf hg ha hc
  go_enter Tryd.func7, Tryd.ntmps7
  go_wp2_with (go_at_call 9; refine (small_any _ ((he.alloc _).alloc _)).mono ?_; rintro e w1 ⟨rfl, b1⟩; refine Hid.out ?_)
  refine Lib.hid ?_
  have b1 : Below (w.heap.size + 1 + 1) ((w.alloc (.cells #[.int .i64 x.K, .int .i64 x.N, .string (bs x.S), vL, vT] 25)).alloc (.cells #[.int .i64 y.K, .int .i64 y.N, .string (bs y.S), uL, uT] 25)) w1 := by simpa using b1
  have hB : w.heap.size + 1 + 1 ≤ w1.heap.size := by simpa using b1.size
  have k1 := box2_below b1
  have S0 : Boxes w x y vL vT uL uT w1 w1 := ⟨Below.refl _ _, box2_x b1 0, box2_x b1 1, box2_x b1 2, box2_x b1 3, box2_x b1 4, box2_y b1 0, box2_y b1 1, box2_y b1 2, box2_y b1 3, box2_y b1 4⟩
  have S1 : Boxes w x y vL vT uL uT w1 w1.drew := S0.step (Below.drew (Below.refl _ _))
  have SA : Boxes w x y vL vT uL uT w1 (w1.alloc (.cells #[.int .i64 x.K, .int .i64 x.N, .string (bs x.S), vL, vT] 25)).drew := S0.step (Below.drew ((Below.refl _ _).alloc hB _))
  have x1 := hx.keep k1
  have y1 := hy.keep k1
  clear b1
  go_wp2
  go_region_held3 (fun w' => Below (w.heap.size + 1 + 1) w1 w' ∧
  w'.cell? ⟨w.heap.size, 0, none⟩ = some (.int .i64 x.K) ∧ w'.cell? ⟨w.heap.size, 1, none⟩ = some (.int .i64 x.N) ∧ w'.cell? ⟨w.heap.size, 2, none⟩ = some (.string (bs x.S)) ∧ w'.cell? ⟨w.heap.size, 3, none⟩ = some vL ∧ w'.cell? ⟨w.heap.size, 4, none⟩ = some vT ∧
  w'.cell? ⟨w.heap.size + 1, 0, none⟩ = some (.int .i64 y.K) ∧ w'.cell? ⟨w.heap.size + 1, 1, none⟩ = some (.int .i64 y.N) ∧ w'.cell? ⟨w.heap.size + 1, 2, none⟩ = some (.string (bs y.S)) ∧ w'.cell? ⟨w.heap.size + 1, 3, none⟩ = some uL ∧ w'.cell? ⟨w.heap.size + 1, 4, none⟩ = some uT)
    (first | exact S1 | exact SA | exact S2 | exact S3 | exact S4 | exact S5 | exact S6 | assumption)
    (first | (go_at_call_of 10 w1.heap.size; refine (few_at _ [x] true HX.out _ (vals_one _ x vL vT x1.L x1.T).drew).mono ?_; rintro e w2 ⟨rfl, b2⟩; have S2 : Boxes w x y vL vT uL uT w1 w2 := SA.step (b2.mono (by simp; omega)); have z2 : w1.heap.size ≤ w2.heap.size := S2.1.size; have m2 : Below w.heap.size w w2 := k1.trans (S2.1.mono (by omega)); have S3 : Boxes w x y vL vT uL uT w1 (w2.alloc (.cells #[.int .i64 y.K, .int .i64 y.N, .string (bs y.S), uL, uT] 25)) := S2.step ((Below.refl _ _).alloc (by omega) _)) | (go_at_call 10; refine (few_at _ [y] true HY.out _ (vals_one _ y uL uT (hy.L.keep m2) (hy.T.keep m2))).mono ?_; rintro e w3 ⟨rfl, b3⟩; have S4 : Boxes w x y vL vT uL uT w1 w3 := S3.step (b3.mono (by simp; omega)); have m3 : Below w.heap.size w w3 := k1.trans (S4.1.mono (by omega))) | (go_at_call_of 23 x.K; refine (kind_at x.K i x1.ok.K HA.out _ _ _ _ _).mono ?_; rintro e w4 ⟨rfl, b4⟩; have S5 : Boxes w x y vL vT uL uT w1 w4 := S4.step (b4.mono (by have := S4.1.size; omega))) | (go_at_call_of 23 y.K; refine (kind_at y.K j y1.ok.K HC.out _ _ _ _ _).mono ?_; rintro e w5 ⟨rfl, b5⟩; have S6 : Boxes w x y vL vT uL uT w1 w5 := S5.step (b5.mono (by have := S5.1.size; omega))))
  have m5 : Below w.heap.size w w5 := k1.trans (S6.1.mono (by omega))
  have e5 : Env w5 := he.fresh m5
  have sx : Small x := (fewB_true HX.out).2.1 x (by simp)
  have sy : Small y := (fewB_true HY.out).2.1 y (by simp)
  clear S0 S1 SA S2 S3 S4 S5 b2 b3 b4 b5 m2 m3 z2
  by_cases hij : i = j
  · have hj : (i != j) = false := by rw [hij]; simp
    have HIJ := Lib.hid hij
    clear hij
    simp only [hj]
    go_wp2_with (go_at_call 42; refine (write_any x vL vT _ e5 (hx.keep m5) sx).mono ?_; rintro e w6 ⟨rfl, b6⟩; refine Hid.out ?_)
    refine Lib.hid ?_
    have S7 : Boxes w x y vL vT uL uT w1 w6 := S6.step (b6.mono (by have := S6.1.size; omega))
    have m6 : Below w.heap.size w w6 := m5.trans (b6.mono m5.size)
    have e6 : Env w6 := he.fresh m6
    have S7' := S7
    obtain ⟨_, _, _, _, _, _, r0, r1, r2, r3, r4⟩ := S7'
    go_wp2_with (go_at_call 42; refine (write_any y uL uT _ e6 (hy.keep m6) sy).mono ?_; rintro e w7 ⟨rfl, b7⟩; refine Hid.out ?_)
    refine Lib.hid ?_
    have S8 : Boxes w x y vL vT uL uT w1 w7 := S7.step (b7.mono (by have := S7.1.size; omega))
    have m7 : Below w.heap.size w w7 := m6.trans (b7.mono m6.size)
    have e7 : Env w7 := he.fresh m7
    clear S6 S7 b6 b7 e5 e6 m5 m6 r0 r1 r2 r3 r4
    by_cases hp : ∃ t, y.enc = x.enc ++ t
    · obtain ⟨t, ht⟩ := hp
      have ht0 := enc_prefix hx.ok hy.ok sx sy (by rw [HA.out, HC.out]; exact HIJ.out) ht
      rw [ht0, List.append_nil] at ht
      have HT := Lib.hid ht
      rw [ht]
      have heq := eq_enc y hy.ok sy []
      rw [List.append_nil, ht] at heq
      have HQ := Lib.hid heq
      clear ht ht0 heq
      go_wp2_with (go_at_call 21; refine (open_any x.enc _).mono ?_; rintro e w8 ⟨rfl, r8, b8⟩; refine Hid.out ?_)
      refine Lib.hid ?_
      have S9 : Boxes w x y vL vT uL uT w1 w8 := S8.step (b8.mono (by have := S8.1.size; omega))
      have m8 : Below w.heap.size w w8 := m7.trans (b8.mono m7.size)
      have e8 : Env w8 := he.fresh m8
      have hlen : x.enc.length ≤ 1099511627776 := by rw [← HT.out]; exact enc_len y sy hy.ok
      have hE := equal_any w y uL uT w7.heap.size (some x.enc) hlen w8 e8 hy sy m8 m7.size e7.size r8
      rw [HQ.out] at hE
      have HE := Lib.hid hE
      obtain ⟨_, _, _, _, _, _, r0, r1, r2, r3, r4⟩ := S9
      clear hE S8 b8 e7
      go_wp2_with (go_at_call 43; refine HE.out.mono ?_; rintro e w9 ⟨rfl, _, g9⟩)
      go_ret
      exact ⟨rfl, below_trans_gb m8 g9 m7.size (Nat.le_refl _)⟩
    · have HP := Lib.hid hp
      clear hp
      go_wp2_with fail
      · go_ret
        exact ⟨rfl, m7⟩
      · exact absurd (prefix_of ‹_›) HP.out
      · go_ret
        exact ⟨rfl, m7⟩
  · have hj : (i != j) = true := by rw [bne_iff_ne]; exact hij
    simp only [hj]
    go_wp2
    go_ret
    exact ⟨rfl, m5⟩

theorem prefix_walk (x y : Val) (vL vT uL uT : Value) (w : World) (he : Env w) (hx : Aggs w x vL vT) (hy : Aggs w y uL uT) :
    Calls Tryd.prog 7 #[.agg #[.int .i64 x.K, .int .i64 x.N, .string (bs x.S), vL, vT], .agg #[.int .i64 y.K, .int .i64 y.N, .string (bs y.S), uL, uT]] w fun e w' => e = .returned (.bool true) ∧ Below w.heap.size w w' := by
  cases hf : fewB [x] with
  | false => exact prefix_A x y vL vT uL uT w he hx hy hf
  | true =>
    cases hg : fewB [y] with
    | false => exact prefix_B x y vL vT uL uT w he hx hy hf hg
    | true => exact prefix_C x y vL vT uL uT w he hx hy hf hg _ _ rfl rfl
end Go.Proofs.YtplejiaddemjhaaDoor
