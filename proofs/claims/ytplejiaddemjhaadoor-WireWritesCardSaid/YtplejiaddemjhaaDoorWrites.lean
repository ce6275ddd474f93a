/-
  WireWrites' walk: whatever the value, the Go function returns true and turns nothing that was there.
  Conditions: what the library's own variables hold, and the value lies whole in memory.
-/
import Derived.Test.YtplejiaddemjhaaDoorRef
namespace Go.Proofs.YtplejiaddemjhaaDoor
open Go.RowKit Go.Shelf

/-- What stands in the box while nothing below it changes. -/
def WBox (w : World) (x : Val) (vL vT : Value) (w1 w' : World) : Prop :=
  Below (w.heap.size + 1) w1 w' ∧ w'.cell? ⟨w.heap.size, 1, none⟩ = some (.int .i64 x.N) ∧ w'.cell? ⟨w.heap.size, 2, none⟩ = some (.string (bs x.S)) ∧ w'.cell? ⟨w.heap.size, 3, none⟩ = some vL ∧ w'.cell? ⟨w.heap.size, 4, none⟩ = some vT
theorem WBox.step {w : World} {x : Val} {vL vT : Value} {w1 X w' : World} (hB : w.heap.size + 1 ≤ w1.heap.size) (h : WBox w x vL vT w1 X) (hb : Below X.heap.size X w') : WBox w x vL vT w1 w' := by
  obtain ⟨h, a1, a2, a3, a4⟩ := h
  have hb := hb.mono (Nat.le_trans hB h.size)
  have e : ∀ j, w'.cell? ⟨w.heap.size, j, none⟩ = X.cell? ⟨w.heap.size, j, none⟩ := fun j => hb.cell (p := ⟨w.heap.size, j, none⟩) (by simp)
  exact ⟨h.trans hb, (e 1).trans a1, (e 2).trans a2, (e 3).trans a3, (e 4).trans a4⟩
theorem WBox.below {w : World} {x : Val} {vL vT : Value} {w1 X : World} (k1 : Below w.heap.size w w1) (h : WBox w x vL vT w1 X) : Below w.heap.size w X := k1.trans (h.1.mono (by omega))
theorem WBox.env {w : World} {x : Val} {vL vT : Value} {w1 X : World} (he : Env w) (k1 : Below w.heap.size w w1) (h : WBox w x vL vT w1 X) : Env X := he.fresh (h.below k1)
theorem WBox.aggs {w : World} {x : Val} {vL vT : Value} {w1 X : World} (ha : Aggs w x vL vT) (k1 : Below w.heap.size w w1) (h : WBox w x vL vT w1 X) : Aggs X x vL vT := ha.keep (h.below k1)

theorem wNums_x {w : World} {x : Val} {vL vT : Value} {w1 X : World} (he : Env w) (ha : Aggs w x vL vT) (hs : Small x) (k1 : Below w.heap.size w w1) (h : WBox w x vL vT w1 X) :
    Calls Tryd.prog 17 #[vL] X fun e w' => e = .returned (.string (bs (Sp.eList Sp.eInt x.L))) ∧ Below X.heap.size X w' := by
  have hm := ints_len x.L ha.ok.L
  have hl := list_len _ hs.2.1
  have hk := eList_length Sp.eInt x.L
  have := hs.2.1
  exact wNums_any _ _ _ (h.env he k1) (h.aggs ha k1).L ha.ok.L (by omega) (by omega)
theorem wTexts_x {w : World} {x : Val} {vL vT : Value} {w1 X : World} (he : Env w) (ha : Aggs w x vL vT) (hs : Small x) (k1 : Below w.heap.size w w1) (h : WBox w x vL vT w1 X) :
    Calls Tryd.prog 19 #[vT] X fun e w' => e = .returned (.string (bs (Sp.eList Sp.eText x.T))) ∧ Below X.heap.size X w' := by
  have hm := texts_len x.T hs.2.2.2
  have hl := list_len _ hs.2.2.1
  have hk := eList_length Sp.eText x.T
  have := hs.2.2.1
  exact wTexts_any _ _ _ (h.env he k1) (h.aggs ha k1).T (fun z hz => by have := hs.2.2.2 z hz; omega) (by omega) (by omega)
theorem wText_x {w : World} {x : Val} {vL vT : Value} {w1 X : World} (he : Env w) (hs : Small x) (k1 : Below w.heap.size w w1) (h : WBox w x vL vT w1 X) :
    Calls Tryd.prog 15 #[.string (bs x.S)] X fun e w' => e = .returned (.string (bs (Sp.eText x.S))) ∧ Below X.heap.size X w' := by
  have := hs.1
  exact wText_any _ (by omega) _ (h.env he k1)
theorem qNums_x {w : World} {x : Val} {vL vT : Value} {w1 X : World} (ha : Aggs w x vL vT) (hs : Small x) (k1 : Below w.heap.size w w1) (h : WBox w x vL vT w1 X) :
    Calls Tryd.prog 18 #[vL] X fun e w' => e = .returned (.string (bs (Sp.eList Sp.eInt x.L))) ∧ Below X.heap.size X w' :=
  qNums_any _ _ _ (h.aggs ha k1).L ha.ok.L hs.2.1
theorem qTexts_x {w : World} {x : Val} {vL vT : Value} {w1 X : World} (ha : Aggs w x vL vT) (hs : Small x) (k1 : Below w.heap.size w w1) (h : WBox w x vL vT w1 X) :
    Calls Tryd.prog 20 #[vT] X fun e w' => e = .returned (.string (bs (Sp.eList Sp.eText x.T))) ∧ Below X.heap.size X w' :=
  qTexts_any _ _ _ (h.aggs ha k1).T hs.2.2.2 hs.2.2.1

set_option maxRecDepth 100000 in
theorem writes_few (x : Val) (vL vT : Value) (w : World) (he : Env w) (hx : Aggs w x vL vT) (hf : fewB [x] = false) :
    Calls Tryd.prog 3 #[.agg #[.int .i64 x.K, .int .i64 x.N, .string (bs x.S), vL, vT]] w fun e w' => e = .returned (.bool true) ∧ Below w.heap.size w w' := by
  have HX := Lib.hid hf
  clear hf
  go_enter Tryd.func3, Tryd.ntmps3
  go_wp2_with (go_at_call 9; refine (small_any _ (he.alloc _)).mono ?_; rintro e w1 ⟨rfl, b1⟩; refine Hid.out ?_)
  refine Lib.hid ?_
  have k1 := box_old b1
  have x1 := hx.keep k1
  have m1 : w.heap.size ≤ w1.heap.size := k1.size
  obtain ⟨c0, c1, c2, c3, c4⟩ := (show w1.cell? ⟨w.heap.size, 0, none⟩ = some (.int .i64 x.K) ∧ w1.cell? ⟨w.heap.size, 1, none⟩ = some (.int .i64 x.N) ∧ w1.cell? ⟨w.heap.size, 2, none⟩ = some (.string (bs x.S)) ∧ w1.cell? ⟨w.heap.size, 3, none⟩ = some vL ∧ w1.cell? ⟨w.heap.size, 4, none⟩ = some vT from ⟨box_cell (box_below b1) 0, box_cell (box_below b1) 1, box_cell (box_below b1) 2, box_cell (box_below b1) 3, box_cell (box_below b1) 4⟩)
  clear b1
  go_wp2_with (go_at_call 10; refine (few_at _ [x] false HX.out _ (vals_one _ x vL vT x1.L x1.T)).mono ?_; rintro e w2 ⟨rfl, b2⟩; have m2 : Below w.heap.size w w2 := k1.trans (((Below.refl _ _).alloc m1 _).trans (b2.mono (by simp; omega))))
  go_ret
  exact ⟨rfl, m2⟩

set_option maxRecDepth 100000 in
set_option maxHeartbeats 4000000 in
theorem writes_some (x : Val) (vL vT : Value) (w : World) (he : Env w) (hx : Aggs w x vL vT) (hf : fewB [x] = true) :
    Calls Tryd.prog 3 #[.agg #[.int .i64 x.K, .int .i64 x.N, .string (bs x.S), vL, vT]] w fun e w' => e = .returned (.bool true) ∧ Below w.heap.size w w' := by
  have hs : Small x := (fewB_true hf).2.1 x (by simp)
  have hN := hx.ok.N
  have HX := Lib.hid hf
  clear hf
  go_enter Tryd.func3, Tryd.ntmps3
  go_wp2_with (go_at_call 9; refine (small_any _ (he.alloc _)).mono ?_; rintro e w1 ⟨rfl, b1⟩; refine Hid.out ?_)
  refine Lib.hid ?_
  have k1 := box_old b1
  have x1 := hx.keep k1
  have m1 : w.heap.size + 1 ≤ w1.heap.size := by simpa using b1.size
  have S0 : WBox w x vL vT w1 w1 := ⟨Below.refl _ _, box_cell (box_below b1) 1, box_cell (box_below b1) 2, box_cell (box_below b1) 3, box_cell (box_below b1) 4⟩
  obtain ⟨c0, c1, c2, c3, c4⟩ := (show w1.cell? ⟨w.heap.size, 0, none⟩ = some (.int .i64 x.K) ∧ w1.cell? ⟨w.heap.size, 1, none⟩ = some (.int .i64 x.N) ∧ w1.cell? ⟨w.heap.size, 2, none⟩ = some (.string (bs x.S)) ∧ w1.cell? ⟨w.heap.size, 3, none⟩ = some vL ∧ w1.cell? ⟨w.heap.size, 4, none⟩ = some vT from ⟨box_cell (box_below b1) 0, box_cell (box_below b1) 1, box_cell (box_below b1) 2, box_cell (box_below b1) 3, box_cell (box_below b1) 4⟩)
  clear b1
  go_wp2_with (go_at_call 10; refine (few_at _ [x] true HX.out _ (vals_one _ x vL vT x1.L x1.T)).mono ?_; rintro e w2 ⟨rfl, b2⟩; refine Hid.out ?_)
  refine Lib.hid ?_
  have S2 : WBox w x vL vT w1 w2 := (S0.step m1 ((Below.refl _ _).alloc (Nat.le_refl _) _)).step m1 b2
  have S2d : WBox w x vL vT w1 w2.drew := S2.step m1 (Below.drew (Below.refl _ _))
  clear S0 c0 c1 c2 c3 c4 b2 x1
  go_wp2
  go_region_held3 (fun w' => Below (w.heap.size + 1) w1 w' ∧ w'.cell? ⟨w.heap.size, 1, none⟩ = some (.int .i64 x.N) ∧ w'.cell? ⟨w.heap.size, 2, none⟩ = some (.string (bs x.S)) ∧ w'.cell? ⟨w.heap.size, 3, none⟩ = some vL ∧ w'.cell? ⟨w.heap.size, 4, none⟩ = some vT)
    (first | assumption | (unfold WBox at *; assumption))
    (first | (go_at_call 11; refine (wNum_any _ hN _ (WBox.env (x := x) (vL := vL) (vT := vT) (w1 := w1) he k1 ?_)).mono ?_; assumption; rintro e w3 ⟨rfl, b3⟩; have S3 : WBox w x vL vT w1 w3 := WBox.step m1 ‹_› b3) | (go_at_call 12; refine (qNum_any _ hN _).mono ?_; rintro e w4 ⟨rfl, b4⟩; have S4 : WBox w x vL vT w1 w4 := WBox.step m1 ‹_› b4) | (go_at_call 13; refine (wInt_any _ hN _ (WBox.env (x := x) (vL := vL) (vT := vT) (w1 := w1) he k1 ?_)).mono ?_; assumption; rintro e w5 ⟨rfl, b5⟩; have S5 : WBox w x vL vT w1 w5 := WBox.step m1 ‹_› b5) | (go_at_call 14; refine (qInt_any _ hN _).mono ?_; rintro e w6 ⟨rfl, b6⟩; have S6 : WBox w x vL vT w1 w6 := WBox.step m1 ‹_› b6) | (go_at_call 15; refine (wText_x (x := x) (vL := vL) (vT := vT) (w1 := w1) he hs k1 ?_).mono ?_; assumption; rintro e w7 ⟨rfl, b7⟩; have S7 : WBox w x vL vT w1 w7 := WBox.step m1 ‹_› b7) | (go_at_call 16; refine (qText_any _ hs.1 _).mono ?_; rintro e w8 ⟨rfl, b8⟩; have S8 : WBox w x vL vT w1 w8 := WBox.step m1 ‹_› b8))
  have S8d : WBox w x vL vT w1 w8.drew := S8.step m1 (Below.drew (Below.refl _ _))
  have hI := hx.ok.L
  clear b3 b4 b5 b6 b7 b8 S2 S2d S3 S4 S5 S6 S7
  go_wp2
  go_region_held3 (fun w' => Below (w.heap.size + 1) w1 w' ∧ w'.cell? ⟨w.heap.size, 1, none⟩ = some (.int .i64 x.N) ∧ w'.cell? ⟨w.heap.size, 2, none⟩ = some (.string (bs x.S)) ∧ w'.cell? ⟨w.heap.size, 3, none⟩ = some vL ∧ w'.cell? ⟨w.heap.size, 4, none⟩ = some vT)
    (first | assumption | (unfold WBox at *; assumption))
    (first | (go_at_call 17; refine (wNums_x (x := x) (vL := vL) (vT := vT) (w1 := w1) he hx hs k1 ?_).mono ?_; assumption; rintro e w9 ⟨rfl, b9⟩; have S9 : WBox w x vL vT w1 w9 := WBox.step m1 ‹_› b9) | (go_at_call 18; refine (qNums_x (x := x) (vL := vL) (vT := vT) (w1 := w1) hx hs k1 ?_).mono ?_; assumption; rintro e w10 ⟨rfl, b10⟩; have S10 : WBox w x vL vT w1 w10 := WBox.step m1 ‹_› b10) | (go_at_call 19; refine (wTexts_x (x := x) (vL := vL) (vT := vT) (w1 := w1) he hx hs k1 ?_).mono ?_; assumption; rintro e w11 ⟨rfl, b11⟩; have S11 : WBox w x vL vT w1 w11 := WBox.step m1 ‹_› b11) | (go_at_call 20; refine (qTexts_x (x := x) (vL := vL) (vT := vT) (w1 := w1) hx hs k1 ?_).mono ?_; assumption; rintro e w12 ⟨rfl, b12⟩; have S12 : WBox w x vL vT w1 w12 := WBox.step m1 ‹_› b12))
  go_wp2
  go_ret
  exact ⟨rfl, S12.below k1⟩

theorem writes_walk (x : Val) (vL vT : Value) (w : World) (he : Env w) (hx : Aggs w x vL vT) :
    Calls Tryd.prog 3 #[.agg #[.int .i64 x.K, .int .i64 x.N, .string (bs x.S), vL, vT]] w fun e w' => e = .returned (.bool true) ∧ Below w.heap.size w w' := by
  cases hf : fewB [x] with
  | false => exact writes_few x vL vT w he hx hf
  | true => exact writes_some x vL vT w he hx hf
end Go.Proofs.YtplejiaddemjhaaDoor
