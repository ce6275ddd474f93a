/- The walk of LexJoins. -/
import Derived.Test.YtenbdnkipkfpkaaDoorLErrs
namespace Go.Proofs.YtenbdnkipkfpkaaDoor
open Go.RowKit Go.Maps Go.ChangeMaps Go.MapKept
open Lx
attribute [local go_sem ↓] Go.wp_at_zero Go.wp_at_succ
theorem lex_pos {s : S} : ∀ {p : Int} {ts : List Tk}, lex s p = .ok ts → ∀ t ∈ ts, p ≤ t.pos ∧ t.pos ≤ p + s.length := by
  induction s using lex_ind with
  | h0 => intro p ts h t ht; cases h; simp at ht; subst ht; simp
  | h1 c r hb ih =>
    intro p ts h t ht
    rw [lex_blank hb] at h
    have := ih h t ht
    rw [List.length_cons]; omega
  | h2 c r e hb ht => intro p ts h; rw [lex_bad hb ht] at h; cases h
  | h3 c r k w n hb ht ih =>
    intro p ts h t hm
    rw [lex_tok hb ht] at h
    have hl := tok_len ht
    cases hd : lex ((c :: r).drop w.length) (p + w.length) with
    | error v => rw [hd] at h; cases h
    | ok vs =>
      rw [hd] at h
      cases h
      rcases List.mem_cons.1 hm with rfl | q
      · simp; omega
      · have := ih hd t q
        rw [List.length_drop] at this
        omega
/-- Both texts with a blank between them. -/
theorem join_err {x y : S} {b : UInt8} (hb : Lx.blank b = true) {p e : Int} (h : lex x 0 = .error (p, e)) : lex (x ++ b :: y) 0 = .error (p, e) := by rw [lex_join hb, h]
theorem join_err2 {x y : S} {b : UInt8} (hb : Lx.blank b = true) {ts : List Tk} {p e : Int} (h : lex x 0 = .ok ts) (h2 : lex y 0 = .error (p, e)) : lex (x ++ b :: y) 0 = .error ((x.length : Int) + 1 + p, e) := by
  rw [lex_join hb, h]
  simp only
  rw [show 0 + (x.length : Int) + 1 = 0 + ((x.length : Int) + 1) by omega, lex_shift, h2]
  simp only
  rw [Int.add_comm]
def both (x : S) (ts us : List Tk) : List Tk := ts.dropLast ++ us.map (later ((x.length : Int) + 1))
theorem join_ok {x y : S} {b : UInt8} (hb : Lx.blank b = true) {ts us : List Tk} (h : lex x 0 = .ok ts) (h2 : lex y 0 = .ok us) : lex (x ++ b :: y) 0 = .ok (both x ts us) := by
  rw [lex_join hb, h]
  simp only
  rw [show 0 + (x.length : Int) + 1 = 0 + ((x.length : Int) + 1) by omega, lex_shift, h2]
  rfl
theorem both_len {x : S} {ts us : List Tk} : (both x ts us).length = ts.length - 1 + us.length := by
  unfold both; rw [List.length_append, List.length_dropLast, List.length_map]
theorem both_left {x : S} {ts us : List Tk} {j : Nat} {t : Tk} (h : j < ts.length - 1) (ht : ts[j]? = some t) : (both x ts us)[j]? = some t := by
  unfold both
  rw [List.getElem?_append_left (by rw [List.length_dropLast]; exact h), List.getElem?_dropLast, if_pos h, ht]
theorem both_right {x : S} {ts us : List Tk} {j jj : Nat} {u : Tk} (h : jj + (ts.length - 1) = j) (hu : us[jj]? = some u) : (both x ts us)[j]? = some ⟨u.kind, u.text, u.n, u.pos + (x.length : Int) + 1⟩ := by
  unfold both
  rw [List.getElem?_append_right (by rw [List.length_dropLast]; omega), List.length_dropLast, show j - (ts.length - 1) = jj by omega, List.getElem?_map, hu]
  show some (later _ u) = _
  unfold later
  rw [show u.pos + ((x.length : Int) + 1) = u.pos + (x.length : Int) + 1 by omega]
/-- The token's own block. -/
theorem tk_new (w : World) (p : Tk) : TkCells (w.alloc (.cells #[.int .i64 p.kind, .string (bs p.text), .int .i64 p.n, .int .i64 p.pos] 25)) w.heap.size 0 p :=
  ⟨by rw [Lib.cell_of_heap (MapKept.heap_alloc _ _).1]; rfl, by rw [Lib.cell_of_heap (MapKept.heap_alloc _ _).1]; rfl, by rw [Lib.cell_of_heap (MapKept.heap_alloc _ _).1]; rfl, by rw [Lib.cell_of_heap (MapKept.heap_alloc _ _).1]; rfl⟩
theorem TkCells.keep {w w' : World} {b o : Nat} {p : Tk} (h : TkCells w b o p) (hb : Below w.heap.size w w') : TkCells w' b o p := ⟨below_cell h.1 hb, below_cell h.2.1 hb, below_cell h.2.2.1 hb, below_cell h.2.2.2 hb⟩
set_option maxHeartbeats 8000000 in
set_option maxRecDepth 100000 in
theorem joins_walk {E : World → Prop} (A : LApi E) {w : World} {s t : S} {q : Int} (hE : E w) (hq : 0 ≤ q ∧ q ≤ 255) :
    Calls Tryd.prog 6 #[.string (bs s), .string (bs t), .int .u8 q] w fun e w' => e = .returned (.bool true) ∧ Below w.heap.size w w' := by
  have HE := Lib.hid hE
  clear hE
  obtain ⟨x, hx⟩ : ∃ x, s.take 900 = x := ⟨_, rfl⟩
  have HC := fun w1 => @cut_any w1 s
  rw [hx] at HC
  have hxl : x.length ≤ 900 := by rw [← hx, List.length_take]; omega
  have HC := Lib.hid HC
  have zx := bs_size x
  obtain ⟨y, hy⟩ : ∃ y, t.take 900 = y := ⟨_, rfl⟩
  have HD := fun w1 => @cut_any w1 t
  rw [hy] at HD
  have hyl : y.length ≤ 900 := by rw [← hy, List.length_take]; omega
  have HD := Lib.hid HD
  have zy := bs_size y
  obtain ⟨r, hr⟩ : ∃ r : Nat, q.tmod 3 = (r : Int) := ⟨(q % 3).toNat, by rw [Int.tmod_eq_emod_of_nonneg hq.1]; omega⟩
  have hr3 : r ≤ 2 := by rw [Int.tmod_eq_emod_of_nonneg hq.1] at hr; omega
  obtain ⟨b, hb, hsep⟩ : ∃ b, Lx.blank b = true ∧ (⟨#[9, 10, 32]⟩ : ByteArray).extract r (r + 1) = bs [b] := by
    have hr4 : r = 0 ∨ r = 1 ∨ r = 2 := by omega
    rcases hr4 with rfl | rfl | rfl
    · exact ⟨9, by decide, by decide +kernel⟩
    · exact ⟨10, by decide, by decide +kernel⟩
    · exact ⟨32, by decide, by decide +kernel⟩
  have zb : (bs [b]).size = 1 := bs_size [b]
  have g1 : bs x ++ bs [b] = bs (x ++ [b]) := bs_append _ _
  have z1 : (bs (x ++ [b])).size = x.length + 1 := by rw [bs_size, List.length_append]; rfl
  have g2 : bs (x ++ [b]) ++ bs y = bs (x ++ b :: y) := by rw [bs_append]; simp
  have hjl : (x ++ b :: y).length = x.length + 1 + y.length := by rw [List.length_append, List.length_cons]; omega
  have HB := Lib.hid hb
  clear hx hy hb
  rcases lexRes_cases x (by omega) with ⟨ts, ha, ha2⟩ | ⟨p, er, ha, ha2⟩
  · have HR1 := Lib.hid ha2
    have hne := List.length_pos_iff.2 (lex_ne ha)
    have hl1 := (lex_len ha).1
    rcases lexRes_cases y (by omega) with ⟨us, hu, hu2⟩ | ⟨p, er, hu, hu2⟩
    · have HR2 := Lib.hid hu2
      have HR3 := Lib.hid (lexRes_ok (by omega) (join_ok HB.out ha hu))
      have hl2 := (lex_len hu).1
      have hne2 := List.length_pos_iff.2 (lex_ne hu)
      have HPOS := Lib.hid (lex_pos hu)
      have HBL := Lib.hid (both_len (x := x) (us := us) (ts := ts))
      have HLT := Lib.hid (fun (j : Nat) (t : Tk) => @both_left x ts us j t)
      have HRT := Lib.hid (fun (j jj : Nat) (u : Tk) => @both_right x ts us j jj u)
      generalize both x ts us = C at *
      generalize x ++ b :: y = X2 at *
      generalize x ++ [b] = X1 at *
      have hcl : C.length = ts.length - 1 + us.length := HBL.out
      have hcl2 : (C.length : Int) = (ts.length : Int) - 1 + (us.length : Int) := by omega
      have HCL := Lib.hid hcl
      have HCL2 := Lib.hid hcl2
      clear ha ha2 hu hu2 HBL hcl hcl2
      go_enter Tryd.func6, Tryd.ntmps6
      go_wp2_with (go_at_call 9; refine (small_any A HE.out).mono ?_; rintro e w1 ⟨rfl, b1⟩; refine Hid.out ?_)
      refine Lib.hid ?_
      have HE := Lib.hid (A.keep HE.out b1)
      have B := Lib.hid b1
      clear b1
      go_wp2_with (go_at_call 10; refine (HC.out _).mono ?_; rintro e w2 ⟨rfl, rfl⟩; refine Hid.out ?_)
      refine Lib.hid ?_
      go_wp2_with (go_at_call 10; refine (HD.out _).mono ?_; rintro e w2 ⟨rfl, rfl⟩; refine Hid.out ?_)
      refine Lib.hid ?_
      have H := Lib.hid (A.lex_ok HR1.out HE.out (by omega))
      go_wp2_with (go_at_call 11; refine (H.out).mono ?_; rintro e w3 ⟨a3, c3, rfl, h3, b1⟩; refine Hid.out ?_)
      refine Lib.hid ?_
      have HE := Lib.hid (A.keep HE.out b1)
      have B := Lib.hid (B.out.trans (b1.mono B.out.size))
      clear b1
      have HA := Lib.hid h3
      have H := Lib.hid (A.lex_ok HR2.out HE.out (by omega))
      clear h3
      go_wp2_with (go_at_call 11; refine (H.out).mono ?_; rintro e w4 ⟨a4, c4, rfl, h4, b1⟩; refine Hid.out ?_)
      refine Lib.hid ?_
      have HA := Lib.hid (HA.out.keep b1)
      have HE := Lib.hid (A.keep HE.out b1)
      have B := Lib.hid (B.out.trans (b1.mono B.out.size))
      clear b1
      have HU := Lib.hid h4
      have H := Lib.hid (A.lex_ok HR3.out HE.out (by omega))
      clear h4
      go_wp2_with (go_at_call 11; refine (H.out).mono ?_; rintro e w5 ⟨a5, c5, rfl, h5, b1⟩; refine Hid.out ?_)
      refine Lib.hid ?_
      have HA := Lib.hid (HA.out.keep b1)
      have HU := Lib.hid (HU.out.keep b1)
      have HE := Lib.hid (A.keep HE.out b1)
      have B := Lib.hid (B.out.trans (b1.mono B.out.size))
      clear b1
      have HCC := Lib.hid h5
      clear h5 H
      have q1 : ¬ (ts.length : Int) < 1 := by omega
      have q2 := HCL2.out
      go_wp2
      go_loopw [21] (fun i wr => ∃ j : Nat, j ≤ C.length ∧ i = .int .i64 j ∧ Hid (Below w5.heap.size w5 wr)) (fun i _ => C.length - (intOf i).toNat)
      case atStart => exact ⟨0, Nat.zero_le _, rfl, Lib.hid (Below.refl _ _)⟩
      case round =>
        obtain ⟨j, hj, rfl, HB5⟩ := hrel
        by_cases hlt : j < C.length
        · have hlt' : (j : Int) < (C.length : Int) := by omega
          have hn := (Below.refl wr.heap.size wr).alloc (Nat.le_refl _) (.cells #[.int .i64 0, .string ⟨#[]⟩, .int .i64 0, .int .i64 0] 25)
          by_cases hja : j < ts.length - 1
          · obtain ⟨p, hp⟩ : ∃ p, ts[j]? = some p := ⟨_, List.getElem?_eq_getElem (by omega)⟩
            have hcp := HLT.out j p hja hp
            have hja' : (j : Int) < (ts.length : Int) - 1 := by omega
            obtain ⟨ga, offa, capa, h1, _, hc⟩ := (HA.out.keep HB5.out).form (by omega)
            cases h1
            have k0 := (show TkCells _ _ _ _ from hc j p hp).keep hn
            obtain ⟨c0, c1, c2, c3⟩ := k0
            obtain ⟨gc, offc, capc, h1, _, hd⟩ := (HCC.out.keep HB5.out).form (by omega)
            cases h1
            have hb3 := (Below.refl wr.heap.size wr).alloc (Nat.le_refl _) (.cells #[.int .i64 p.kind, .string (bs p.text), .int .i64 p.n, .int .i64 p.pos] 25)
            obtain ⟨d0, d1, d2, d3⟩ := (show TkCells _ _ _ _ from hd j p hcp).keep hb3
            obtain ⟨t0, t1, t2, t3⟩ := tk_new wr p
            have HB6 := Lib.hid (HB5.out.trans (hb3.mono HB5.out.size))
            clear hc hd hp hcp hn hb3
            go_wp2
            go_quiet (fail)
            go_wp2
            go_roundw
            case rel => exact ⟨j + 1, by omega, by go_num, Lib.hid (HB6.out.trans ((drewN_below _ _).mono HB6.out.size))⟩
            case measure => simp [intOf]; omega
          · obtain ⟨jj, hjj⟩ : ∃ jj : Nat, (j : Int) - (ts.length : Int) + 1 = (jj : Int) := ⟨j + 1 - ts.length, by omega⟩
            obtain ⟨u, hu⟩ : ∃ u, us[jj]? = some u := ⟨_, List.getElem?_eq_getElem (by have := HCL.out; omega)⟩
            have hcp := HRT.out j jj u (by omega) hu
            have hja' : ¬ (j : Int) < (ts.length : Int) - 1 := by omega
            have hjj2 : (jj : Int) < (us.length : Int) := by have := HCL.out; omega
            obtain ⟨hp1, hp2⟩ := HPOS.out u (List.mem_of_getElem? hu)
            obtain ⟨ga, offa, capa, h1, _, hc⟩ := (HU.out.keep HB5.out).form (by omega)
            cases h1
            have k0 := (show TkCells _ _ _ _ from hc jj u hu).keep hn
            obtain ⟨c0, c1, c2, c3⟩ := k0
            obtain ⟨gc, offc, capc, h1, _, hd⟩ := (HCC.out.keep HB5.out).form (by omega)
            cases h1
            have hb3 := (Below.refl wr.heap.size wr).alloc (Nat.le_refl _) (.cells #[.int .i64 u.kind, .string (bs u.text), .int .i64 u.n, .int .i64 (u.pos + (x.length : Int) + 1)] 25)
            obtain ⟨d0, d1, d2, d3⟩ := (show TkCells _ _ _ _ from hd j _ hcp).keep hb3
            obtain ⟨t0, t1, t2, t3⟩ := tk_new wr ⟨u.kind, u.text, u.n, u.pos + (x.length : Int) + 1⟩
            have HB6 := Lib.hid (HB5.out.trans (hb3.mono HB5.out.size))
            clear hc hd hu hcp hn hb3
            go_wp2
            go_quiet (fail)
            go_wp2
            go_roundw
            case rel => exact ⟨j + 1, by omega, by go_num, Lib.hid (HB6.out.trans ((drewN_below _ _).mono HB6.out.size))⟩
            case measure => simp [intOf]; omega
        · obtain rfl : j = C.length := by omega
          have B := Lib.hid (B.out.trans (HB5.out.mono B.out.size))
          go_wp2
          go_ret
          exact ⟨rfl, B.out⟩
    · have HR2 := Lib.hid hu2
      have HR3 := Lib.hid (lexRes_err (by omega) (join_err2 HB.out ha hu))
      have hne := err_ne hu
      obtain ⟨m, hm, hm2, -⟩ := lex_error hu
      have hm3 : 0 ≤ p ∧ p < (y.length : Int) := by omega
      generalize x ++ b :: y = X2 at *
      generalize x ++ [b] = X1 at *
      clear ha ha2 hu hu2 hm hm2
      go_enter Tryd.func6, Tryd.ntmps6
      go_wp2_with (go_at_call 9; refine (small_any A HE.out).mono ?_; rintro e w1 ⟨rfl, b1⟩; refine Hid.out ?_)
      refine Lib.hid ?_
      have HE := Lib.hid (A.keep HE.out b1)
      have B := Lib.hid b1
      clear b1
      go_wp2_with (go_at_call 10; refine (HC.out _).mono ?_; rintro e w2 ⟨rfl, rfl⟩; refine Hid.out ?_)
      refine Lib.hid ?_
      go_wp2_with (go_at_call 10; refine (HD.out _).mono ?_; rintro e w2 ⟨rfl, rfl⟩; refine Hid.out ?_)
      refine Lib.hid ?_
      have H := Lib.hid (A.lex_ok HR1.out HE.out (by omega))
      go_wp2_with (go_at_call 11; refine (H.out).mono ?_; rintro e w3 ⟨a3, c3, rfl, h3, b1⟩; refine Hid.out ?_)
      refine Lib.hid ?_
      have HE := Lib.hid (A.keep HE.out b1)
      have B := Lib.hid (B.out.trans (b1.mono B.out.size))
      clear b1
      have H := Lib.hid (A.lex_err HR2.out HE.out (by omega))
      clear h3
      go_wp2_with (go_at_call 11; refine (H.out).mono ?_; rintro e w4 ⟨a4, c4, rfl, b1⟩; refine Hid.out ?_)
      refine Lib.hid ?_
      have HE := Lib.hid (A.keep HE.out b1)
      have B := Lib.hid (B.out.trans (b1.mono B.out.size))
      clear b1
      have H := Lib.hid (A.lex_err HR3.out HE.out (by omega))
      go_wp2_with (go_at_call 11; refine (H.out).mono ?_; rintro e w5 ⟨a5, c5, rfl, b1⟩; refine Hid.out ?_)
      refine Lib.hid ?_
      have HE := Lib.hid (A.keep HE.out b1)
      have B := Lib.hid (B.out.trans (b1.mono B.out.size))
      clear b1
      go_wp2
      go_ret
      exact ⟨rfl, B.out⟩
  · have HR1 := Lib.hid ha2
    have HR3 := Lib.hid (lexRes_err (by omega) (join_err (y := y) HB.out ha))
    have hne := err_ne ha
    obtain ⟨us, p2, e2, hu⟩ : ∃ us p2 e2, lexRes y = (us, p2, e2) := ⟨_, _, _, rfl⟩
    have HR2 := Lib.hid hu
    generalize x ++ b :: y = X2 at *
    generalize x ++ [b] = X1 at *
    clear ha ha2 hu
    go_enter Tryd.func6, Tryd.ntmps6
    go_wp2_with (go_at_call 9; refine (small_any A HE.out).mono ?_; rintro e w1 ⟨rfl, b1⟩; refine Hid.out ?_)
    refine Lib.hid ?_
    have HE := Lib.hid (A.keep HE.out b1)
    have B := Lib.hid b1
    clear b1
    go_wp2_with (go_at_call 10; refine (HC.out _).mono ?_; rintro e w2 ⟨rfl, rfl⟩; refine Hid.out ?_)
    refine Lib.hid ?_
    go_wp2_with (go_at_call 10; refine (HD.out _).mono ?_; rintro e w2 ⟨rfl, rfl⟩; refine Hid.out ?_)
    refine Lib.hid ?_
    have H := Lib.hid (A.lex_err HR1.out HE.out (by omega))
    go_wp2_with (go_at_call 11; refine (H.out).mono ?_; rintro e w3 ⟨a3, c3, rfl, b1⟩; refine Hid.out ?_)
    refine Lib.hid ?_
    have HE := Lib.hid (A.keep HE.out b1)
    have B := Lib.hid (B.out.trans (b1.mono B.out.size))
    clear b1
    have H := Lib.hid (A.lex_gen HR2.out HE.out (by omega))
    go_wp2_with (go_at_call 11; refine (H.out).mono ?_; rintro e w4 ⟨a4, c4, rfl, h4, b1⟩; refine Hid.out ?_)
    refine Lib.hid ?_
    have HE := Lib.hid (A.keep HE.out b1)
    have B := Lib.hid (B.out.trans (b1.mono B.out.size))
    clear b1
    have H := Lib.hid (A.lex_err HR3.out HE.out (by omega))
    clear h4
    go_wp2_with (go_at_call 11; refine (H.out).mono ?_; rintro e w5 ⟨a5, c5, rfl, b1⟩; refine Hid.out ?_)
    refine Lib.hid ?_
    have HE := Lib.hid (A.keep HE.out b1)
    have B := Lib.hid (B.out.trans (b1.mono B.out.size))
    clear b1
    go_wp2
    go_ret
    exact ⟨rfl, B.out⟩
end Go.Proofs.YtenbdnkipkfpkaaDoor
