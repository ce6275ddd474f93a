/- Several texts in one: LApi, YApi, Yex, YSmall, Yne, Yfp, Ybp. -/
import Derived.Test.YtlefgffnjcmfoaaGreatDoorMB
import Derived.Test.YtlefgffnjcmfoaaGreatDoorMF
import Derived.Test.YtlefgffnjcmfoaaGreatDoorMA
namespace Go.Proofs.YtlefgffnjcmfoaaGreatDoor
open Go.RowKit Go.Maps Go.ChangeMaps Go.MapKept
open Lx
/-- What Lex leaves: the tokens, the position and the number of the error. -/
def Lexed (w : World) (r : List Tk × Int × Int) (e : Ending) (w' : World) : Prop :=
  ∃ a c, e = .returned (.tuple #[.slice a r.1.length c, .int .i64 r.2.1, .int .i64 r.2.2]) ∧ TkAt w' (.slice a r.1.length c) r.1 ∧ Below w.heap.size w w'
def Reads (w : World) (r : Value) (e : Ending) (w' : World) : Prop := e = .returned r ∧ Below w.heap.size w w'
end Go.Proofs.YtlefgffnjcmfoaaGreatDoor
namespace Go.Proofs.YtlefgffnjcmfoaaGreatDoor
open Go.RowKit Go.Maps Go.ChangeMaps Go.MapKept
open Lx Sy
/-- What Parse leaves: a profile, the position and the number of the error. -/
def Parsed (w : World) (r : Pf × Int × Int) (e : Ending) (w' : World) : Prop :=
  ∃ cs : Array Value, e = .returned (.tuple #[.agg cs, .int .i64 r.2.1, .int .i64 r.2.2]) ∧ PfAt w' (.agg cs) r.1 ∧ Below w.heap.size w w'
/-- The contracts of packages syntax and lex; E: what the library's variables hold. -/
structure YApi (E : World → Prop) : Prop where
  keep : ∀ {w w' : World}, E w → Below w.heap.size w w' → E w'
  lex_ : ∀ {w : World} {s : S}, E w → s.length ≤ 10000 → Calls Tryz.prog 15 #[.string (bs s)] w (Lexed w (lexRes s))
  parse_ : ∀ {w : World} {s : S}, E w → s.length ≤ 10000 → Calls Tryz.prog 6 #[.string (bs s)] w (Parsed w (parseS s))
  print_ : ∀ {w : World} {x : Value} {p : Pf}, E w → PfAt w x p → fewP p = true → Calls Tryz.prog 8 #[x] w (Reads w (.tuple #[.string (bs (printS p).1), .int .i64 (printS p).2]))
  right_ : ∀ {w : World} {x : Value} {p : Pf}, E w → PfAt w x p → fewP p = true → Calls Tryz.prog 11 #[x] w (Reads w (.bool (decide (Rt p))))
  same_ : ∀ {w : World} {x y : Value} {p q : Pf}, E w → PfAt w x p → PfAt w y q → fewP p = true → fewP q = true → Calls Tryz.prog 13 #[x, y] w (Reads w (.bool (decide (p = q))))
theorem few_len {p : Pf} (h : fewP p = true) : p.types.length ≤ 100000 := by
  have := (of_decide_eq_true h).1; omega
theorem few_of {p : Pf} (h : Rt p) : fewP p = true := by
  unfold fewP
  refine decide_eq_true ?_
  have hw : ∀ s : S, wordOk s = true → s.length ≤ 40 := fun s h => by have := Sy.word_len h; omega
  obtain ⟨-, -, hn, -, hf⟩ := h
  unfold filesOk at hf
  by_cases h0 : p.files = 0
  · rw [(hf.1 h0).2]
    exact ⟨by simp, hw _ hn, fun x hx => by simp at hx⟩
  · exact ⟨by have := (hf.2 h0).1.2; omega, hw _ hn, fun x hx => hw _ ((hf.2 h0).2 x hx)⟩
theorem few_zero : fewP zero = true := by decide
section
variable {E : World → Prop} {w : World} {s : S} {x y : Value} {p q : Pf}
theorem YApi.parse_eq (A : YApi E) {r : Pf} {i e : Int} (h : parseS s = (r, i, e)) (hE : E w) (hs : s.length ≤ 10000) : Calls Tryz.prog 6 #[.string (bs s)] w (Parsed w (r, i, e)) := by
  have := A.parse_ hE hs; rwa [h] at this
theorem q_parse {r : Pf} {i e : Int} (h : parseS s = (r, i, e)) (hs : s.length ≤ 10000) : Calls Tryz.prog 7 #[.string (bs s)] w (Parsed w (r, i, e)) := by
  have := y_parse (w := w) (s := s) (by omega)
  rw [h] at this
  refine this.mono ?_
  rintro u w' ⟨v, rfl, h1, h2⟩
  obtain ⟨cs, rfl, _⟩ := h1.cells
  exact ⟨cs, rfl, h1, h2⟩
theorem YApi.print_eq (A : YApi E) {t : S} {e : Int} (h : printS p = (t, e)) (hE : E w) (hx : PfAt w x p) (hf : fewP p = true) : Calls Tryz.prog 8 #[x] w (Reads w (.tuple #[.string (bs t), .int .i64 e])) := by
  have := A.print_ hE hx hf; rwa [h] at this
theorem q_print {t : S} {e : Int} (h : printS p = (t, e)) (hx : PfAt w x p) (hf : fewP p = true) : Calls Tryz.prog 9 #[x] w (Reads w (.tuple #[.string (bs t), .int .i64 e])) := by
  have := y_print hx hf; rw [h] at this; exact this
theorem YApi.right_eq (A : YApi E) {b : Bool} (h : decide (Rt p) = b) (hE : E w) (hx : PfAt w x p) (hf : fewP p = true) : Calls Tryz.prog 11 #[x] w (Reads w (.bool b)) := by
  have := A.right_ hE hx hf; rwa [h] at this
theorem q_right {b : Bool} (h : decide (Rt p) = b) (hx : PfAt w x p) (hf : fewP p = true) : Calls Tryz.prog 12 #[x] w (Reads w (.bool b)) := by
  have := y_right hx hf; rw [h] at this; exact this
theorem YApi.same_eq (A : YApi E) {b : Bool} (h : decide (p = q) = b) (hE : E w) (hx : PfAt w x p) (hy : PfAt w y q) (hf : fewP p = true) (hg : fewP q = true) : Calls Tryz.prog 13 #[x, y] w (Reads w (.bool b)) := by
  have := A.same_ hE hx hy hf hg; rwa [h] at this
theorem q_same {b : Bool} (h : decide (p = q) = b) (hx : PfAt w x p) (hy : PfAt w y q) (hf : fewP p = true) : Calls Tryz.prog 10 #[x, y] w (Reads w (.bool b)) := by
  have := y_same hx hy (few_len hf); rw [h] at this; exact this
theorem q_few {b : Bool} (h : fewP p = b) (hx : PfAt w x p) : Calls Tryz.prog 5 #[x] w (Reads w (.bool b)) := by
  have := y_few hx; rw [h] at this; exact this
theorem YApi.lex_gen (A : YApi E) {ts : List Tk} {i e : Int} (h : lexRes s = (ts, i, e)) (hE : E w) (hs : s.length ≤ 10000) : Calls Tryz.prog 15 #[.string (bs s)] w (Lexed w (ts, i, e)) := by
  have := A.lex_ hE hs; rwa [h] at this
end
end Go.Proofs.YtlefgffnjcmfoaaGreatDoor
namespace Go.Proofs.YtlefgffnjcmfoaaGreatDoor
namespace Sy
open Lx
def exT : S := [110, 101, 116, 119, 111, 114, 107, 32, 109, 97, 105, 108, 32, 59, 32, 101, 100, 105, 116, 32, 110, 111, 32, 59, 32, 100, 101, 108, 101, 116, 101, 32, 110, 111, 32, 59, 32, 114, 101, 97, 99, 116, 32, 110, 111, 32, 59, 32, 116, 104, 114, 101, 97, 100, 32, 116, 114, 101, 101, 32, 59, 32, 113, 117, 111, 116, 101, 32, 121, 101, 115, 32, 59, 32, 109, 101, 110, 116, 105, 111, 110, 32, 110, 111, 32, 59, 32, 115, 105, 122, 101, 32, 57, 48, 48, 32, 112, 97, 114, 116, 115, 32, 51, 32, 59, 32, 102, 105, 108, 101, 115, 32, 50, 32, 98, 121, 116, 101, 115, 32, 53, 48, 48, 48, 32, 116, 121, 112, 101, 115, 32, 112, 110, 103, 32, 112, 100, 102, 32, 59, 32, 106, 111, 105, 110, 32, 105, 110, 118, 105, 116, 101, 32, 59, 32, 104, 105, 115, 116, 111, 114, 121, 32, 115, 105, 110, 99, 101, 32, 59, 32, 114, 101, 109, 111, 118, 101, 32, 110, 111, 119, 32, 59, 32, 114, 101, 99, 101, 105, 112, 116, 115, 32, 115, 101, 110, 116, 32, 59, 32, 114, 97, 116, 101, 32, 52, 32, 100, 111, 119, 110, 32, 50, 32, 111, 102, 32, 49, 48, 32, 59]
def exP : Pf := ⟨[109, 97, 105, 108], 0, 0, 0, false, 2, true, false, 900, 3, 2, 5000, [[112, 110, 103], [112, 100, 102]], 0, 0, 0, 1, false, 4, 2, 10, 0⟩
set_option maxRecDepth 100000
theorem ex_len : exT.length = 221 := by decide +kernel
theorem ex_parse : parseS exT = (exP, 0, 0) := by decide +kernel
theorem ex_right : Rt exP := by decide +kernel
theorem ex_a : parseS [110, 101, 116, 119, 111, 114, 107] = (zero, 7, 12) := by decide +kernel
theorem ex_b : parseS [110, 101, 116, 119, 111, 114, 107, 32, 109, 97, 105, 108, 32, 59, 32, 101, 100, 105, 116, 32, 121, 101, 115, 32, 119, 105, 116, 104, 105, 110, 32, 48, 32, 59] = (zero, 31, 3) := by decide +kernel
theorem ex_c : parseS [110, 101, 116, 119, 111, 114, 107, 32, 109, 97, 105, 108, 32, 59, 32, 100, 101, 108, 101, 116, 101, 32, 110, 111, 32, 59] = (zero, 15, 12) := by decide +kernel
theorem ex_d : parseS (exT ++ [110, 101, 116, 119, 111, 114, 107]) = (zero, 221, 12) := by decide +kernel
theorem d4 : Lib.decDigits 4 = [52] := by rw [dec_small (by decide)]; rfl
theorem d2 : Lib.decDigits 2 = [50] := by rw [dec_small (by decide)]; rfl
theorem d3 : Lib.decDigits 3 = [51] := by rw [dec_small (by decide)]; rfl
theorem d10 : Lib.decDigits 10 = [49, 48] := by rw [dec_big (by decide), dec_small (by decide)]; rfl
theorem d900 : Lib.decDigits 900 = [57, 48, 48] := by rw [dec_big (by decide), dec_big (by decide), dec_small (by decide)]; rfl
theorem d5000 : Lib.decDigits 5000 = [53, 48, 48, 48] := by rw [dec_big (by decide), dec_big (by decide), dec_big (by decide), dec_small (by decide)]; rfl
theorem ex_text : (text exP).length = 222 := by
  have e : ∀ L : List B, (flat L).length = (L.map fun b => b.2.1.length + 1).sum := by
    intro L
    induction L with
    | nil => rfl
    | cons b L ih => rw [flat_cons, List.length_append, List.length_cons, ih]; simp; omega
  unfold text
  rw [e]
  simp [pb, exP, bEdit, bPart, bFiles, bLevel, bKeep, nu, kw, semi, ynw, d2, d3, d4, d10, d900, d5000, deW, thW, joW, hiW, reW, leW]
end Sy
end Go.Proofs.YtlefgffnjcmfoaaGreatDoor
namespace Go.Proofs.YtlefgffnjcmfoaaGreatDoor
open Go.RowKit Go.Maps Go.ChangeMaps Go.MapKept
open Lx Sy Ch
attribute [local go_sem ↓] Go.wp_at_zero Go.wp_at_succ
theorem cut_at (s : S) (n : Nat) : (bs s).extract 0 (s.take n).length = bs (s.take n) := by
  rw [bs_extract, List.drop_zero, Nat.sub_zero, List.length_take]
  rcases Nat.le_total n s.length with h | h
  · rw [Nat.min_eq_left h]
  · rw [Nat.min_eq_right h, List.take_length, List.take_of_length_le h]
theorem few_ex : fewP exP = true := few_of ex_right
section
variable {E : World → Prop} {w : World}
set_option maxHeartbeats 4000000 in
set_option maxRecDepth 100000 in
theorem l_text : Calls Tryz.prog 14 #[] w (Reads w (.string (bs exT))) := by
  unfold Reads
  go_enter Tryz.func14, Tryz.ntmps14
  go_wp2
  go_ret
  exact ⟨rfl, Below.refl _ _⟩
set_option maxHeartbeats 8000000 in
set_option maxRecDepth 100000 in
theorem small_any (A : YApi E) (hE : E w) : Calls Tryz.prog 4 #[] w (Reads w (.bool true)) := by
  have HE := Lib.hid hE
  have HB := Lib.hid (Below.refl w.heap.size w)
  clear hE
  unfold Reads
  go_enter Tryz.func4, Tryz.ntmps4
  go_upto_region 1 with fail
  refine wp_region_lit ?_
  refine list_callP rfl (ev_call0 (enters_of Tryz.func14 (by kernel_rfl) rfl)) (l_text) ?_
  rintro e1 u1 ⟨rfl, b1⟩
  refine ⟨_, rfl, ?_⟩
  replace HE := Lib.hid (A.keep HE.out b1)
  replace HB := Lib.hid (HB.out.trans (b1.mono HB.out.size))
  clear b1
  simp only [Act.put, List.setIfInBounds_toArray, List.set_cons_zero, List.set_cons_succ]
  refine list_callP rfl (ev_call1 rfl (enters_of Tryz.func6 (by kernel_rfl) rfl)) (A.parse_eq ex_parse HE.out (by rw [ex_len]; omega)) ?_
  rintro e2 u2 ⟨c1, rfl, p1, b2⟩
  refine ⟨_, rfl, ?_⟩
  replace HE := Lib.hid (A.keep HE.out b2)
  replace HB := Lib.hid (HB.out.trans (b2.mono HB.out.size))
  clear b2
  simp only [Act.put, List.setIfInBounds_toArray, List.set_cons_zero, List.set_cons_succ]
  refine list_ev (v := .tuple #[.agg c1, .int .i64 0, .int .i64 0]) rfl (ev_move rfl rfl) ?_
  simp only [Act.put, List.setIfInBounds_toArray, List.set_cons_zero, List.set_cons_succ]
  refine list_ev (v := .agg c1) rfl (by go_simp) ?_
  simp only [Act.put, List.setIfInBounds_toArray, List.set_cons_zero, List.set_cons_succ]
  refine list_ev (v := .int .i64 0) rfl (by go_simp) ?_
  simp only [Act.put, List.setIfInBounds_toArray, List.set_cons_zero, List.set_cons_succ]
  refine list_ev (v := .int .i64 0) rfl (by go_simp) ?_
  simp only [Act.put, List.setIfInBounds_toArray, List.set_cons_zero, List.set_cons_succ]
  refine list_new p1 (by simp) (by decide) rfl ?_
  simp only [Act.put, List.setIfInBounds_toArray, List.set_cons_zero, List.set_cons_succ]
  have K1 := Lib.hid (Box.new p1)
  have b3 : Below u2.heap.size u2 (u2.alloc (.cells c1 24)) := (Below.refl _ _).alloc (Nat.le_refl _) _
  replace HE := Lib.hid (A.keep HE.out b3)
  replace HB := Lib.hid (HB.out.trans (b3.mono HB.out.size))
  clear b3
  obtain ⟨k1, hk1⟩ : ∃ q, q = u2.heap.size := ⟨_, rfl⟩
  rw [← hk1] at K1 ⊢
  clear hk1
  generalize u2.alloc (.cells c1 24) = u3 at *
  refine list_ev (v := .int .i64 0) rfl (ev_assign rfl rfl) ?_
  simp only [Act.put, List.setIfInBounds_toArray, List.set_cons_zero, List.set_cons_succ]
  refine list_ev (v := .int .i64 0) rfl (ev_assign rfl rfl) ?_
  simp only [Act.put, List.setIfInBounds_toArray, List.set_cons_zero, List.set_cons_succ]
  go_upto_region 2 with fail
  refine wp_region_lit ?_
  have HT := Lib.hid (txts_lit u3 [[112, 110, 103], [112, 100, 102]] (by decide))
  have b9 : Below u3.heap.size u3 (u3.alloc (.cells (txVs [[112, 110, 103], [112, 100, 102]]).toArray 9)) := (Below.refl _ _).alloc (Nat.le_refl _) _
  replace K1 := Lib.hid (K1.out.keep b9)
  replace HE := Lib.hid (A.keep HE.out b9)
  replace HB := Lib.hid (HB.out.trans (b9.mono HB.out.size))
  clear b9
  refine list_evw (v := .slice (some ⟨u3.heap.size, 0, none⟩) 2 2) (w' := u3.alloc (.cells (txVs [[112, 110, 103], [112, 100, 102]]).toArray 9)) rfl (by unfold txVs; go_simp; rfl) ?_
  simp only [Act.put, List.setIfInBounds_toArray, List.set_cons_zero, List.set_cons_succ]
  refine list_ev (v := .agg #[.string (bs [109, 97, 105, 108]), .int .i64 0, .int .i64 0, .int .i64 0, .bool false, .int .i64 2, .bool true, .bool false, .int .i64 900, .int .i64 3, .int .i64 2, .int .i64 5000, .slice (some ⟨u3.heap.size, 0, none⟩) 2 2, .int .i64 0, .int .i64 0, .int .i64 0, .int .i64 1, .bool false, .int .i64 4, .int .i64 2, .int .i64 10, .int .i64 0]) rfl (by go_simp; try rfl) ?_
  simp only [Act.put, List.setIfInBounds_toArray, List.set_cons_zero, List.set_cons_succ]
  generalize u3.alloc (.cells (txVs [[112, 110, 103], [112, 100, 102]]).toArray 9) = u90 at *
  have p4 : PfAt u90 (.agg #[.string (bs [109, 97, 105, 108]), .int .i64 0, .int .i64 0, .int .i64 0, .bool false, .int .i64 2, .bool true, .bool false, .int .i64 900, .int .i64 3, .int .i64 2, .int .i64 5000, .slice (some ⟨u3.heap.size, 0, none⟩) 2 2, .int .i64 0, .int .i64 0, .int .i64 0, .int .i64 1, .bool false, .int .i64 4, .int .i64 2, .int .i64 10, .int .i64 0]) exP := ⟨.slice (some ⟨u3.heap.size, 0, none⟩) 2 2, rfl, HT.out⟩
  obtain ⟨c4, hc4⟩ : ∃ q : Array Value, q = #[.string (bs [109, 97, 105, 108]), .int .i64 0, .int .i64 0, .int .i64 0, .bool false, .int .i64 2, .bool true, .bool false, .int .i64 900, .int .i64 3, .int .i64 2, .int .i64 5000, .slice (some ⟨u3.heap.size, 0, none⟩) 2 2, .int .i64 0, .int .i64 0, .int .i64 0, .int .i64 1, .bool false, .int .i64 4, .int .i64 2, .int .i64 10, .int .i64 0] := ⟨_, rfl⟩
  rw [← hc4] at p4 ⊢
  clear hc4 HT
  refine list_new p4 (by simp) (by decide) rfl ?_
  simp only [Act.put, List.setIfInBounds_toArray, List.set_cons_zero, List.set_cons_succ]
  have K4 := Lib.hid (Box.new p4)
  have b4 : Below u90.heap.size u90 (u90.alloc (.cells c4 24)) := (Below.refl _ _).alloc (Nat.le_refl _) _
  replace K1 := Lib.hid (K1.out.keep b4)
  replace HE := Lib.hid (A.keep HE.out b4)
  replace HB := Lib.hid (HB.out.trans (b4.mono HB.out.size))
  clear b4
  obtain ⟨k4, hk4⟩ : ∃ q, q = u90.heap.size := ⟨_, rfl⟩
  rw [← hk4] at K4 ⊢
  clear hk4
  generalize u90.alloc (.cells c4 24) = u4 at *
  go_upto_region 3 with fail
  refine wp_region_lit ?_
  refine list_ev (v := .agg c1) rfl (K1.out.load rfl rfl) ?_
  simp only [Act.put, List.setIfInBounds_toArray, List.set_cons_zero, List.set_cons_succ]
  refine list_callP rfl (ev_call1 rfl (enters_of Tryz.func8 (by kernel_rfl) rfl)) (A.print_eq (printS_right ex_right) HE.out K1.out.pf few_ex) ?_
  rintro e5 u5 ⟨rfl, b5⟩
  refine ⟨_, rfl, ?_⟩
  replace K1 := Lib.hid (K1.out.keep b5)
  replace K4 := Lib.hid (K4.out.keep b5)
  replace HE := Lib.hid (A.keep HE.out b5)
  replace HB := Lib.hid (HB.out.trans (b5.mono HB.out.size))
  clear b5
  simp only [Act.put, List.setIfInBounds_toArray, List.set_cons_zero, List.set_cons_succ]
  refine list_ev (v := .tuple #[.string (bs (text exP)), .int .i64 0]) rfl (ev_move rfl rfl) ?_
  simp only [Act.put, List.setIfInBounds_toArray, List.set_cons_zero, List.set_cons_succ]
  refine list_ev (v := .string (bs (text exP))) rfl (by go_simp) ?_
  simp only [Act.put, List.setIfInBounds_toArray, List.set_cons_zero, List.set_cons_succ]
  refine list_ev (v := .int .i64 0) rfl (by go_simp) ?_
  simp only [Act.put, List.setIfInBounds_toArray, List.set_cons_zero, List.set_cons_succ]
  refine list_ev (v := .string (bs (text exP))) rfl (ev_assign rfl rfl) ?_
  simp only [Act.put, List.setIfInBounds_toArray, List.set_cons_zero, List.set_cons_succ]
  refine list_ev (v := .int .i64 0) rfl (ev_assign rfl rfl) ?_
  simp only [Act.put, List.setIfInBounds_toArray, List.set_cons_zero, List.set_cons_succ]
  go_upto_region 4 with fail
  refine wp_region_lit ?_
  refine list_callP rfl (ev_callC (enters_of Tryz.func6 (by kernel_rfl) rfl)) (A.parse_eq ex_a HE.out (by decide)) ?_
  rintro e6 u6 ⟨c7, rfl, p7, b6⟩
  refine ⟨_, rfl, ?_⟩
  replace K1 := Lib.hid (K1.out.keep b6)
  replace K4 := Lib.hid (K4.out.keep b6)
  replace HE := Lib.hid (A.keep HE.out b6)
  replace HB := Lib.hid (HB.out.trans (b6.mono HB.out.size))
  clear b6
  simp only [Act.put, List.setIfInBounds_toArray, List.set_cons_zero, List.set_cons_succ]
  refine list_ev (v := .tuple #[.agg c7, .int .i64 7, .int .i64 12]) rfl (ev_move rfl rfl) ?_
  simp only [Act.put, List.setIfInBounds_toArray, List.set_cons_zero, List.set_cons_succ]
  refine list_ev (v := .agg c7) rfl (by go_simp) ?_
  simp only [Act.put, List.setIfInBounds_toArray, List.set_cons_zero, List.set_cons_succ]
  refine list_ev (v := .int .i64 7) rfl (by go_simp) ?_
  simp only [Act.put, List.setIfInBounds_toArray, List.set_cons_zero, List.set_cons_succ]
  refine list_ev (v := .int .i64 12) rfl (by go_simp) ?_
  simp only [Act.put, List.setIfInBounds_toArray, List.set_cons_zero, List.set_cons_succ]
  refine list_new p7 (by simp) (by decide) rfl ?_
  simp only [Act.put, List.setIfInBounds_toArray, List.set_cons_zero, List.set_cons_succ]
  have K7 := Lib.hid (Box.new p7)
  have b7 : Below u6.heap.size u6 (u6.alloc (.cells c7 24)) := (Below.refl _ _).alloc (Nat.le_refl _) _
  replace K1 := Lib.hid (K1.out.keep b7)
  replace K4 := Lib.hid (K4.out.keep b7)
  replace HE := Lib.hid (A.keep HE.out b7)
  replace HB := Lib.hid (HB.out.trans (b7.mono HB.out.size))
  clear b7
  obtain ⟨k7, hk7⟩ : ∃ q, q = u6.heap.size := ⟨_, rfl⟩
  rw [← hk7] at K7 ⊢
  clear hk7
  generalize u6.alloc (.cells c7 24) = u7 at *
  refine list_ev (v := .int .i64 7) rfl (ev_assign rfl rfl) ?_
  simp only [Act.put, List.setIfInBounds_toArray, List.set_cons_zero, List.set_cons_succ]
  refine list_ev (v := .int .i64 12) rfl (ev_assign rfl rfl) ?_
  simp only [Act.put, List.setIfInBounds_toArray, List.set_cons_zero, List.set_cons_succ]
  go_upto_region 5 with fail
  refine wp_region_lit ?_
  refine list_callP rfl (ev_callC (enters_of Tryz.func6 (by kernel_rfl) rfl)) (A.parse_eq ex_b HE.out (by decide)) ?_
  rintro e8 u8 ⟨c10, rfl, p10, b8⟩
  refine ⟨_, rfl, ?_⟩
  replace K1 := Lib.hid (K1.out.keep b8)
  replace K4 := Lib.hid (K4.out.keep b8)
  replace K7 := Lib.hid (K7.out.keep b8)
  replace HE := Lib.hid (A.keep HE.out b8)
  replace HB := Lib.hid (HB.out.trans (b8.mono HB.out.size))
  clear b8
  simp only [Act.put, List.setIfInBounds_toArray, List.set_cons_zero, List.set_cons_succ]
  refine list_ev (v := .tuple #[.agg c10, .int .i64 31, .int .i64 3]) rfl (ev_move rfl rfl) ?_
  simp only [Act.put, List.setIfInBounds_toArray, List.set_cons_zero, List.set_cons_succ]
  refine list_ev (v := .agg c10) rfl (by go_simp) ?_
  simp only [Act.put, List.setIfInBounds_toArray, List.set_cons_zero, List.set_cons_succ]
  refine list_ev (v := .int .i64 31) rfl (by go_simp) ?_
  simp only [Act.put, List.setIfInBounds_toArray, List.set_cons_zero, List.set_cons_succ]
  refine list_ev (v := .int .i64 3) rfl (by go_simp) ?_
  simp only [Act.put, List.setIfInBounds_toArray, List.set_cons_zero, List.set_cons_succ]
  refine list_new p10 (by simp) (by decide) rfl ?_
  simp only [Act.put, List.setIfInBounds_toArray, List.set_cons_zero, List.set_cons_succ]
  have K10 := Lib.hid (Box.new p10)
  have b9 : Below u8.heap.size u8 (u8.alloc (.cells c10 24)) := (Below.refl _ _).alloc (Nat.le_refl _) _
  replace K1 := Lib.hid (K1.out.keep b9)
  replace K4 := Lib.hid (K4.out.keep b9)
  replace K7 := Lib.hid (K7.out.keep b9)
  replace HE := Lib.hid (A.keep HE.out b9)
  replace HB := Lib.hid (HB.out.trans (b9.mono HB.out.size))
  clear b9
  obtain ⟨k10, hk10⟩ : ∃ q, q = u8.heap.size := ⟨_, rfl⟩
  rw [← hk10] at K10 ⊢
  clear hk10
  generalize u8.alloc (.cells c10 24) = u9 at *
  refine list_ev (v := .int .i64 31) rfl (ev_assign rfl rfl) ?_
  simp only [Act.put, List.setIfInBounds_toArray, List.set_cons_zero, List.set_cons_succ]
  refine list_ev (v := .int .i64 3) rfl (ev_assign rfl rfl) ?_
  simp only [Act.put, List.setIfInBounds_toArray, List.set_cons_zero, List.set_cons_succ]
  go_upto_region 6 with fail
  refine wp_region_lit ?_
  refine list_callP rfl (ev_callC (enters_of Tryz.func6 (by kernel_rfl) rfl)) (A.parse_eq ex_c HE.out (by decide)) ?_
  rintro e10 u10 ⟨c13, rfl, p13, b10⟩
  refine ⟨_, rfl, ?_⟩
  replace K1 := Lib.hid (K1.out.keep b10)
  replace K4 := Lib.hid (K4.out.keep b10)
  replace K7 := Lib.hid (K7.out.keep b10)
  replace K10 := Lib.hid (K10.out.keep b10)
  replace HE := Lib.hid (A.keep HE.out b10)
  replace HB := Lib.hid (HB.out.trans (b10.mono HB.out.size))
  clear b10
  simp only [Act.put, List.setIfInBounds_toArray, List.set_cons_zero, List.set_cons_succ]
  refine list_ev (v := .tuple #[.agg c13, .int .i64 15, .int .i64 12]) rfl (ev_move rfl rfl) ?_
  simp only [Act.put, List.setIfInBounds_toArray, List.set_cons_zero, List.set_cons_succ]
  refine list_ev (v := .agg c13) rfl (by go_simp) ?_
  simp only [Act.put, List.setIfInBounds_toArray, List.set_cons_zero, List.set_cons_succ]
  refine list_ev (v := .int .i64 15) rfl (by go_simp) ?_
  simp only [Act.put, List.setIfInBounds_toArray, List.set_cons_zero, List.set_cons_succ]
  refine list_ev (v := .int .i64 12) rfl (by go_simp) ?_
  simp only [Act.put, List.setIfInBounds_toArray, List.set_cons_zero, List.set_cons_succ]
  refine list_new p13 (by simp) (by decide) rfl ?_
  simp only [Act.put, List.setIfInBounds_toArray, List.set_cons_zero, List.set_cons_succ]
  have K13 := Lib.hid (Box.new p13)
  have b11 : Below u10.heap.size u10 (u10.alloc (.cells c13 24)) := (Below.refl _ _).alloc (Nat.le_refl _) _
  replace K1 := Lib.hid (K1.out.keep b11)
  replace K4 := Lib.hid (K4.out.keep b11)
  replace K7 := Lib.hid (K7.out.keep b11)
  replace K10 := Lib.hid (K10.out.keep b11)
  replace HE := Lib.hid (A.keep HE.out b11)
  replace HB := Lib.hid (HB.out.trans (b11.mono HB.out.size))
  clear b11
  obtain ⟨k13, hk13⟩ : ∃ q, q = u10.heap.size := ⟨_, rfl⟩
  rw [← hk13] at K13 ⊢
  clear hk13
  generalize u10.alloc (.cells c13 24) = u11 at *
  refine list_ev (v := .int .i64 15) rfl (ev_assign rfl rfl) ?_
  simp only [Act.put, List.setIfInBounds_toArray, List.set_cons_zero, List.set_cons_succ]
  refine list_ev (v := .int .i64 12) rfl (ev_assign rfl rfl) ?_
  simp only [Act.put, List.setIfInBounds_toArray, List.set_cons_zero, List.set_cons_succ]
  go_upto_region 7 with fail
  refine wp_region_lit ?_
  refine list_callP rfl (ev_call0 (enters_of Tryz.func14 (by kernel_rfl) rfl)) (l_text) ?_
  rintro e12 u12 ⟨rfl, b12⟩
  refine ⟨_, rfl, ?_⟩
  replace K1 := Lib.hid (K1.out.keep b12)
  replace K4 := Lib.hid (K4.out.keep b12)
  replace K7 := Lib.hid (K7.out.keep b12)
  replace K10 := Lib.hid (K10.out.keep b12)
  replace K13 := Lib.hid (K13.out.keep b12)
  replace HE := Lib.hid (A.keep HE.out b12)
  replace HB := Lib.hid (HB.out.trans (b12.mono HB.out.size))
  clear b12
  simp only [Act.put, List.setIfInBounds_toArray, List.set_cons_zero, List.set_cons_succ]
  refine list_ev (v := .string (bs (exT ++ [110, 101, 116, 119, 111, 114, 107]))) rfl (ev_add rfl (eval_at rfl) rfl (add_str (x := exT) (y := [110, 101, 116, 119, 111, 114, 107]) (by rw [ex_len]; decide) rfl)) ?_
  simp only [Act.put, List.setIfInBounds_toArray, List.set_cons_zero, List.set_cons_succ]
  refine list_callP rfl (ev_call1 rfl (enters_of Tryz.func6 (by kernel_rfl) rfl)) (A.parse_eq ex_d HE.out (by rw [List.length_append, ex_len]; decide)) ?_
  rintro e13 u13 ⟨c16, rfl, p16, b13⟩
  refine ⟨_, rfl, ?_⟩
  replace K1 := Lib.hid (K1.out.keep b13)
  replace K4 := Lib.hid (K4.out.keep b13)
  replace K7 := Lib.hid (K7.out.keep b13)
  replace K10 := Lib.hid (K10.out.keep b13)
  replace K13 := Lib.hid (K13.out.keep b13)
  replace HE := Lib.hid (A.keep HE.out b13)
  replace HB := Lib.hid (HB.out.trans (b13.mono HB.out.size))
  clear b13
  simp only [Act.put, List.setIfInBounds_toArray, List.set_cons_zero, List.set_cons_succ]
  refine list_ev (v := .tuple #[.agg c16, .int .i64 221, .int .i64 12]) rfl (ev_move rfl rfl) ?_
  simp only [Act.put, List.setIfInBounds_toArray, List.set_cons_zero, List.set_cons_succ]
  refine list_ev (v := .agg c16) rfl (by go_simp) ?_
  simp only [Act.put, List.setIfInBounds_toArray, List.set_cons_zero, List.set_cons_succ]
  refine list_ev (v := .int .i64 221) rfl (by go_simp) ?_
  simp only [Act.put, List.setIfInBounds_toArray, List.set_cons_zero, List.set_cons_succ]
  refine list_ev (v := .int .i64 12) rfl (by go_simp) ?_
  simp only [Act.put, List.setIfInBounds_toArray, List.set_cons_zero, List.set_cons_succ]
  refine list_new p16 (by simp) (by decide) rfl ?_
  simp only [Act.put, List.setIfInBounds_toArray, List.set_cons_zero, List.set_cons_succ]
  have K16 := Lib.hid (Box.new p16)
  have b14 : Below u13.heap.size u13 (u13.alloc (.cells c16 24)) := (Below.refl _ _).alloc (Nat.le_refl _) _
  replace K1 := Lib.hid (K1.out.keep b14)
  replace K4 := Lib.hid (K4.out.keep b14)
  replace K7 := Lib.hid (K7.out.keep b14)
  replace K10 := Lib.hid (K10.out.keep b14)
  replace K13 := Lib.hid (K13.out.keep b14)
  replace HE := Lib.hid (A.keep HE.out b14)
  replace HB := Lib.hid (HB.out.trans (b14.mono HB.out.size))
  clear b14
  obtain ⟨k16, hk16⟩ : ∃ q, q = u13.heap.size := ⟨_, rfl⟩
  rw [← hk16] at K16 ⊢
  clear hk16
  generalize u13.alloc (.cells c16 24) = u14 at *
  refine list_ev (v := .int .i64 221) rfl (ev_assign rfl rfl) ?_
  simp only [Act.put, List.setIfInBounds_toArray, List.set_cons_zero, List.set_cons_succ]
  refine list_ev (v := .int .i64 12) rfl (ev_assign rfl rfl) ?_
  simp only [Act.put, List.setIfInBounds_toArray, List.set_cons_zero, List.set_cons_succ]
  go_upto_region 8 with fail
  refine wp_region_lit ?_
  refine list_ev (v := .int .i64 0) rfl (ev_move rfl rfl) ?_
  simp only [Act.put, List.setIfInBounds_toArray, List.set_cons_zero, List.set_cons_succ]
  refine list_ev (v := .bool true) rfl (by go_simp) ?_
  simp only [Act.put, List.setIfInBounds_toArray, List.set_cons_zero, List.set_cons_succ]
  refine list_ev (v := .bool true) rfl (ev_move rfl rfl) ?_
  simp only [Act.put, List.setIfInBounds_toArray, List.set_cons_zero, List.set_cons_succ]
  refine list_ev (v := .agg c1) ((Ch.want_at rfl rfl rfl).trans rfl) (K1.out.load rfl rfl) ?_
  simp only [Act.put, List.setIfInBounds_toArray, List.set_cons_zero, List.set_cons_succ]
  refine list_ev (v := .agg c4) ((Ch.want_at rfl rfl rfl).trans rfl) (K4.out.load rfl rfl) ?_
  simp only [Act.put, List.setIfInBounds_toArray, List.set_cons_zero, List.set_cons_succ]
  refine list_callP ((Ch.want_at rfl rfl rfl).trans rfl) (ev_call2 rfl rfl (enters_of Tryz.func10 (by kernel_rfl) rfl)) (q_same (decide_eq_true rfl) K1.out.pf K4.out.pf few_ex) ?_
  rintro e15 u15 ⟨rfl, b15⟩
  refine ⟨_, rfl, ?_⟩
  replace K1 := Lib.hid (K1.out.keep b15)
  replace K4 := Lib.hid (K4.out.keep b15)
  replace K7 := Lib.hid (K7.out.keep b15)
  replace K10 := Lib.hid (K10.out.keep b15)
  replace K13 := Lib.hid (K13.out.keep b15)
  replace K16 := Lib.hid (K16.out.keep b15)
  replace HE := Lib.hid (A.keep HE.out b15)
  replace HB := Lib.hid (HB.out.trans (b15.mono HB.out.size))
  clear b15
  simp only [Act.put, List.setIfInBounds_toArray, List.set_cons_zero, List.set_cons_succ]
  refine list_ev (v := .bool true) rfl (by go_simp) ?_
  simp only [Act.put, List.setIfInBounds_toArray, List.set_cons_zero, List.set_cons_succ]
  refine list_ev (v := .bool true) rfl (ev_move rfl rfl) ?_
  simp only [Act.put, List.setIfInBounds_toArray, List.set_cons_zero, List.set_cons_succ]
  refine list_ev (v := .int .i64 0) ((Ch.want_at rfl rfl rfl).trans rfl) (ev_move rfl rfl) ?_
  simp only [Act.put, List.setIfInBounds_toArray, List.set_cons_zero, List.set_cons_succ]
  refine list_ev (v := .bool true) ((Ch.want_at rfl rfl rfl).trans rfl) (by go_simp) ?_
  simp only [Act.put, List.setIfInBounds_toArray, List.set_cons_zero, List.set_cons_succ]
  refine list_ev (v := .bool true) rfl (by go_simp) ?_
  simp only [Act.put, List.setIfInBounds_toArray, List.set_cons_zero, List.set_cons_succ]
  refine list_ev (v := .bool true) rfl (ev_move rfl rfl) ?_
  simp only [Act.put, List.setIfInBounds_toArray, List.set_cons_zero, List.set_cons_succ]
  refine list_ev (v := .string (bs (text exP))) ((Ch.want_at rfl rfl rfl).trans rfl) (ev_move rfl rfl) ?_
  simp only [Act.put, List.setIfInBounds_toArray, List.set_cons_zero, List.set_cons_succ]
  refine list_ev (v := .int .i64 (222)) ((Ch.want_at rfl rfl rfl).trans rfl) (by have z := bs_size (text exP); rw [ex_text] at z; go_simp) ?_
  simp only [Act.put, List.setIfInBounds_toArray, List.set_cons_zero, List.set_cons_succ]
  refine list_callP ((Ch.want_at rfl rfl rfl).trans rfl) (ev_call0 (enters_of Tryz.func14 (by kernel_rfl) rfl)) (l_text) ?_
  rintro e16 u16 ⟨rfl, b16⟩
  refine ⟨_, rfl, ?_⟩
  replace K1 := Lib.hid (K1.out.keep b16)
  replace K4 := Lib.hid (K4.out.keep b16)
  replace K7 := Lib.hid (K7.out.keep b16)
  replace K10 := Lib.hid (K10.out.keep b16)
  replace K13 := Lib.hid (K13.out.keep b16)
  replace K16 := Lib.hid (K16.out.keep b16)
  replace HE := Lib.hid (A.keep HE.out b16)
  replace HB := Lib.hid (HB.out.trans (b16.mono HB.out.size))
  clear b16
  simp only [Act.put, List.setIfInBounds_toArray, List.set_cons_zero, List.set_cons_succ]
  refine list_ev (v := .int .i64 (221)) ((Ch.want_at rfl rfl rfl).trans rfl) (by have z := bs_size exT; rw [ex_len] at z; go_simp) ?_
  simp only [Act.put, List.setIfInBounds_toArray, List.set_cons_zero, List.set_cons_succ]
  refine list_ev (v := .int .i64 (222)) ((Ch.want_at rfl rfl rfl).trans rfl) (by go_simp; decide) ?_
  simp only [Act.put, List.setIfInBounds_toArray, List.set_cons_zero, List.set_cons_succ]
  refine list_ev (v := .bool true) ((Ch.want_at rfl rfl rfl).trans rfl) (by go_simp) ?_
  simp only [Act.put, List.setIfInBounds_toArray, List.set_cons_zero, List.set_cons_succ]
  refine list_ev (v := .bool true) rfl (by go_simp) ?_
  simp only [Act.put, List.setIfInBounds_toArray, List.set_cons_zero, List.set_cons_succ]
  refine list_ev (v := .bool true) rfl (ev_move rfl rfl) ?_
  simp only [Act.put, List.setIfInBounds_toArray, List.set_cons_zero, List.set_cons_succ]
  refine list_ev (v := .int .i64 7) ((Ch.want_at rfl rfl rfl).trans rfl) (ev_move rfl rfl) ?_
  simp only [Act.put, List.setIfInBounds_toArray, List.set_cons_zero, List.set_cons_succ]
  refine list_ev (v := .bool true) ((Ch.want_at rfl rfl rfl).trans rfl) (by go_simp) ?_
  simp only [Act.put, List.setIfInBounds_toArray, List.set_cons_zero, List.set_cons_succ]
  refine list_ev (v := .bool true) rfl (by go_simp) ?_
  simp only [Act.put, List.setIfInBounds_toArray, List.set_cons_zero, List.set_cons_succ]
  refine list_ev (v := .bool true) rfl (ev_move rfl rfl) ?_
  simp only [Act.put, List.setIfInBounds_toArray, List.set_cons_zero, List.set_cons_succ]
  refine list_ev (v := .int .i64 12) ((Ch.want_at rfl rfl rfl).trans rfl) (ev_move rfl rfl) ?_
  simp only [Act.put, List.setIfInBounds_toArray, List.set_cons_zero, List.set_cons_succ]
  refine list_ev (v := .bool true) ((Ch.want_at rfl rfl rfl).trans rfl) (by go_simp) ?_
  simp only [Act.put, List.setIfInBounds_toArray, List.set_cons_zero, List.set_cons_succ]
  refine list_ev (v := .bool true) rfl (by go_simp) ?_
  simp only [Act.put, List.setIfInBounds_toArray, List.set_cons_zero, List.set_cons_succ]
  refine list_ev (v := .bool true) rfl (ev_move rfl rfl) ?_
  simp only [Act.put, List.setIfInBounds_toArray, List.set_cons_zero, List.set_cons_succ]
  refine list_ev (v := .int .i64 31) ((Ch.want_at rfl rfl rfl).trans rfl) (ev_move rfl rfl) ?_
  simp only [Act.put, List.setIfInBounds_toArray, List.set_cons_zero, List.set_cons_succ]
  refine list_ev (v := .bool true) ((Ch.want_at rfl rfl rfl).trans rfl) (by go_simp) ?_
  simp only [Act.put, List.setIfInBounds_toArray, List.set_cons_zero, List.set_cons_succ]
  refine list_ev (v := .bool true) rfl (by go_simp) ?_
  simp only [Act.put, List.setIfInBounds_toArray, List.set_cons_zero, List.set_cons_succ]
  refine list_ev (v := .bool true) rfl (ev_move rfl rfl) ?_
  simp only [Act.put, List.setIfInBounds_toArray, List.set_cons_zero, List.set_cons_succ]
  refine list_ev (v := .int .i64 3) ((Ch.want_at rfl rfl rfl).trans rfl) (ev_move rfl rfl) ?_
  simp only [Act.put, List.setIfInBounds_toArray, List.set_cons_zero, List.set_cons_succ]
  refine list_ev (v := .bool true) ((Ch.want_at rfl rfl rfl).trans rfl) (by go_simp) ?_
  simp only [Act.put, List.setIfInBounds_toArray, List.set_cons_zero, List.set_cons_succ]
  refine list_ev (v := .bool true) rfl (by go_simp) ?_
  simp only [Act.put, List.setIfInBounds_toArray, List.set_cons_zero, List.set_cons_succ]
  refine list_ev (v := .bool true) rfl (ev_assign rfl rfl) ?_
  simp only [Act.put, List.setIfInBounds_toArray, List.set_cons_zero, List.set_cons_succ]
  go_upto_region 9 with fail
  refine wp_region_lit ?_
  refine list_ev (v := .bool true) rfl (ev_move rfl rfl) ?_
  simp only [Act.put, List.setIfInBounds_toArray, List.set_cons_zero, List.set_cons_succ]
  refine list_ev (v := .bool true) rfl (ev_move rfl rfl) ?_
  simp only [Act.put, List.setIfInBounds_toArray, List.set_cons_zero, List.set_cons_succ]
  refine list_ev (v := .int .i64 15) ((Ch.want_at rfl rfl rfl).trans rfl) (ev_move rfl rfl) ?_
  simp only [Act.put, List.setIfInBounds_toArray, List.set_cons_zero, List.set_cons_succ]
  refine list_ev (v := .bool true) ((Ch.want_at rfl rfl rfl).trans rfl) (by go_simp) ?_
  simp only [Act.put, List.setIfInBounds_toArray, List.set_cons_zero, List.set_cons_succ]
  refine list_ev (v := .bool true) rfl (by go_simp) ?_
  simp only [Act.put, List.setIfInBounds_toArray, List.set_cons_zero, List.set_cons_succ]
  refine list_ev (v := .bool true) rfl (ev_move rfl rfl) ?_
  simp only [Act.put, List.setIfInBounds_toArray, List.set_cons_zero, List.set_cons_succ]
  refine list_ev (v := .int .i64 12) ((Ch.want_at rfl rfl rfl).trans rfl) (ev_move rfl rfl) ?_
  simp only [Act.put, List.setIfInBounds_toArray, List.set_cons_zero, List.set_cons_succ]
  refine list_ev (v := .bool true) ((Ch.want_at rfl rfl rfl).trans rfl) (by go_simp) ?_
  simp only [Act.put, List.setIfInBounds_toArray, List.set_cons_zero, List.set_cons_succ]
  refine list_ev (v := .bool true) rfl (by go_simp) ?_
  simp only [Act.put, List.setIfInBounds_toArray, List.set_cons_zero, List.set_cons_succ]
  refine list_ev (v := .bool true) rfl (ev_move rfl rfl) ?_
  simp only [Act.put, List.setIfInBounds_toArray, List.set_cons_zero, List.set_cons_succ]
  refine list_ev (v := .int .i64 221) ((Ch.want_at rfl rfl rfl).trans rfl) (ev_move rfl rfl) ?_
  simp only [Act.put, List.setIfInBounds_toArray, List.set_cons_zero, List.set_cons_succ]
  refine list_callP ((Ch.want_at rfl rfl rfl).trans rfl) (ev_call0 (enters_of Tryz.func14 (by kernel_rfl) rfl)) (l_text) ?_
  rintro e17 u17 ⟨rfl, b17⟩
  refine ⟨_, rfl, ?_⟩
  replace K1 := Lib.hid (K1.out.keep b17)
  replace K4 := Lib.hid (K4.out.keep b17)
  replace K7 := Lib.hid (K7.out.keep b17)
  replace K10 := Lib.hid (K10.out.keep b17)
  replace K13 := Lib.hid (K13.out.keep b17)
  replace K16 := Lib.hid (K16.out.keep b17)
  replace HE := Lib.hid (A.keep HE.out b17)
  replace HB := Lib.hid (HB.out.trans (b17.mono HB.out.size))
  clear b17
  simp only [Act.put, List.setIfInBounds_toArray, List.set_cons_zero, List.set_cons_succ]
  refine list_ev (v := .int .i64 (221)) ((Ch.want_at rfl rfl rfl).trans rfl) (by have z := bs_size exT; rw [ex_len] at z; go_simp) ?_
  simp only [Act.put, List.setIfInBounds_toArray, List.set_cons_zero, List.set_cons_succ]
  refine list_ev (v := .bool true) ((Ch.want_at rfl rfl rfl).trans rfl) (by go_simp) ?_
  simp only [Act.put, List.setIfInBounds_toArray, List.set_cons_zero, List.set_cons_succ]
  refine list_ev (v := .bool true) rfl (by go_simp) ?_
  simp only [Act.put, List.setIfInBounds_toArray, List.set_cons_zero, List.set_cons_succ]
  refine list_ev (v := .bool true) rfl (ev_move rfl rfl) ?_
  simp only [Act.put, List.setIfInBounds_toArray, List.set_cons_zero, List.set_cons_succ]
  refine list_ev (v := .int .i64 12) ((Ch.want_at rfl rfl rfl).trans rfl) (ev_move rfl rfl) ?_
  simp only [Act.put, List.setIfInBounds_toArray, List.set_cons_zero, List.set_cons_succ]
  refine list_ev (v := .bool true) ((Ch.want_at rfl rfl rfl).trans rfl) (by go_simp) ?_
  simp only [Act.put, List.setIfInBounds_toArray, List.set_cons_zero, List.set_cons_succ]
  refine list_ev (v := .bool true) rfl (by go_simp) ?_
  simp only [Act.put, List.setIfInBounds_toArray, List.set_cons_zero, List.set_cons_succ]
  refine list_ev (v := .bool true) rfl (ev_move rfl rfl) ?_
  simp only [Act.put, List.setIfInBounds_toArray, List.set_cons_zero, List.set_cons_succ]
  refine list_ev (v := .agg c1) ((Ch.want_at rfl rfl rfl).trans rfl) (K1.out.load rfl rfl) ?_
  simp only [Act.put, List.setIfInBounds_toArray, List.set_cons_zero, List.set_cons_succ]
  refine list_callP ((Ch.want_at rfl rfl rfl).trans rfl) (ev_call1 rfl (enters_of Tryz.func11 (by kernel_rfl) rfl)) (A.right_eq (decide_eq_true ex_right) HE.out K1.out.pf few_ex) ?_
  rintro e18 u18 ⟨rfl, b18⟩
  refine ⟨_, rfl, ?_⟩
  replace K1 := Lib.hid (K1.out.keep b18)
  replace K4 := Lib.hid (K4.out.keep b18)
  replace K7 := Lib.hid (K7.out.keep b18)
  replace K10 := Lib.hid (K10.out.keep b18)
  replace K13 := Lib.hid (K13.out.keep b18)
  replace K16 := Lib.hid (K16.out.keep b18)
  replace HE := Lib.hid (A.keep HE.out b18)
  replace HB := Lib.hid (HB.out.trans (b18.mono HB.out.size))
  clear b18
  simp only [Act.put, List.setIfInBounds_toArray, List.set_cons_zero, List.set_cons_succ]
  refine list_ev (v := .bool true) rfl (by go_simp) ?_
  simp only [Act.put, List.setIfInBounds_toArray, List.set_cons_zero, List.set_cons_succ]
  refine list_ev (v := .bool true) rfl (ev_move rfl rfl) ?_
  simp only [Act.put, List.setIfInBounds_toArray, List.set_cons_zero, List.set_cons_succ]
  refine list_ev (v := .agg c1) ((Ch.want_at rfl rfl rfl).trans rfl) (K1.out.load rfl rfl) ?_
  simp only [Act.put, List.setIfInBounds_toArray, List.set_cons_zero, List.set_cons_succ]
  refine list_ev (v := .agg c4) ((Ch.want_at rfl rfl rfl).trans rfl) (K4.out.load rfl rfl) ?_
  simp only [Act.put, List.setIfInBounds_toArray, List.set_cons_zero, List.set_cons_succ]
  refine list_callP ((Ch.want_at rfl rfl rfl).trans rfl) (ev_call2 rfl rfl (enters_of Tryz.func13 (by kernel_rfl) rfl)) (A.same_eq (decide_eq_true rfl) HE.out K1.out.pf K4.out.pf few_ex few_ex) ?_
  rintro e19 u19 ⟨rfl, b19⟩
  refine ⟨_, rfl, ?_⟩
  replace K1 := Lib.hid (K1.out.keep b19)
  replace K4 := Lib.hid (K4.out.keep b19)
  replace K7 := Lib.hid (K7.out.keep b19)
  replace K10 := Lib.hid (K10.out.keep b19)
  replace K13 := Lib.hid (K13.out.keep b19)
  replace K16 := Lib.hid (K16.out.keep b19)
  replace HE := Lib.hid (A.keep HE.out b19)
  replace HB := Lib.hid (HB.out.trans (b19.mono HB.out.size))
  clear b19
  simp only [Act.put, List.setIfInBounds_toArray, List.set_cons_zero, List.set_cons_succ]
  refine list_ev (v := .bool true) rfl (by go_simp) ?_
  simp only [Act.put, List.setIfInBounds_toArray, List.set_cons_zero, List.set_cons_succ]
  refine list_ev (v := .bool true) rfl (ev_assign rfl rfl) ?_
  simp only [Act.put, List.setIfInBounds_toArray, List.set_cons_zero]
  go_wp2
  go_ret
  exact ⟨rfl, HB.out⟩
end
end Go.Proofs.YtlefgffnjcmfoaaGreatDoor
namespace Go.Proofs.YtlefgffnjcmfoaaGreatDoor
namespace Sy
open Lx
section
variable {α β : Type}
def NE (f : R → α × R) : Prop := ∀ r x e, (f r).2 = .error (x, e) → r = .error (x, e) ∨ e ≠ 0
theorem ne_tok {f : B → Except Int α} {z : α} (h : ∀ b e, f b = .error e → e ≠ 0) : NE (tokR f z) := by
  intro r x e he
  cases r with
  | error y => exact .inl (by simpa [tokR] using he)
  | ok l =>
    refine .inr ?_
    cases l with
    | nil => simp [tokR] at he; rw [← he.2]; decide
    | cons t l =>
      simp only [tokR] at he
      cases hf : f (br t) with
      | ok a => rw [hf] at he; cases he
      | error e2 => rw [hf] at he; cases he; exact h _ _ hf
theorem ne_ret (a : α) : NE (retR a) := fun _ _ _ h => .inl h
theorem ne_fail (z : α) {k : Int} (hk : k ≠ 0) : NE (failR z k) := by
  intro r x e h
  cases r with
  | ok l => simp [failR] at h; exact .inr (h.2 ▸ hk)
  | error y => exact .inl (by simpa [failR] using h)
theorem ne_bind {f : R → α × R} {g : α → R → β × R} (hf : NE f) (hg : ∀ a, NE (g a)) : NE (bindR f g) := by
  intro r x e h
  rcases hg _ _ x e h with h1 | h1
  · exact hf r x e h1
  · exact .inr h1
theorem ne_iff {q : Option B → Bool} {f g : R → α × R} (hf : NE f) (hg : NE g) : NE (iffR q f g) := by
  intro r x e h
  unfold iffR at h
  split at h
  · exact hf r x e h
  · exact hg r x e h
end
theorem ne_want (s : S) : NE (want s) := ne_tok fun b e h => by
  split at h
  · cases h
  · cases h; decide
theorem ne_one (ws : List S) : NE (one ws) := ne_tok fun b e h => by
  split at h
  · cases h
  · cases h; decide
theorem ne_name : NE name := ne_tok fun b e h => by
  split at h
  · cases h
  · cases h; decide
theorem ne_number (least : Int) : NE (number least) := ne_tok fun b e h => by
  split at h
  · split at h
    · cases h
    · cases h; decide
  · cases h; decide
theorem ne_opt {α : Type} {s : S} {f : R → α × R} {d : α} (hf : NE f) : NE (opt s f d) := ne_iff (ne_bind (ne_want s) fun _ => hf) (ne_ret d)
theorem ne_part (w : S) (ws : List S) : NE (part w ws) := ne_bind (ne_want w) fun _ => ne_bind (ne_one ws) fun n => ne_bind (ne_want _) fun _ => ne_ret n
theorem ne_types : ∀ n, NE (types n)
  | 0 => ne_iff (ne_fail _ (by decide)) (ne_ret _)
  | n + 1 => ne_iff (ne_bind ne_name fun _ => ne_bind (ne_types n) fun _ => ne_ret _) (ne_ret _)
theorem ne_fin : NE fin := ne_iff (ne_ret _) (ne_fail _ (by decide))
theorem ne_parse : NE parse := by
  have lif : ∀ e : Int, NE (if e = 1 then opt [119, 105, 116, 104, 105, 110] (number 1) 0 else retR (0 : Int)) := fun e => by
    split
    · exact ne_opt (ne_number _)
    · exact ne_ret _
  refine ne_bind (ne_bind (ne_want _) fun _ => ne_bind ne_name fun _ => ne_bind (ne_want _) fun _ => ne_ret _) fun _ => ?_
  refine ne_bind (ne_bind (ne_want _) fun _ => ne_bind (ne_one _) fun e => ne_bind (lif e) fun _ => ne_bind (ne_want _) fun _ => ne_ret _) fun _ => ?_
  refine ne_bind (ne_part _ _) fun _ => ne_bind (ne_part _ _) fun _ => ne_bind (ne_part _ _) fun _ => ne_bind (ne_part _ _) fun _ => ne_bind (ne_part _ _) fun _ => ?_
  refine ne_bind (ne_bind (ne_want _) fun _ => ne_bind (ne_number _) fun _ => ne_bind (ne_want _) fun _ => ne_bind (ne_number _) fun _ => ne_bind (ne_want _) fun _ => ne_ret _) fun _ => ?_
  refine ne_bind (ne_opt (ne_bind (ne_number _) fun _ => ne_bind (ne_want _) fun _ => ne_bind (ne_number _) fun _ => ne_bind (ne_want _) fun _ => ne_bind ne_name fun _ => ne_bind (ne_types _) fun _ => ne_bind (ne_want _) fun _ => ne_ret _)) fun _ => ?_
  refine ne_bind (ne_part _ _) fun _ => ne_bind (ne_part _ _) fun _ => ne_bind (ne_part _ _) fun _ => ?_
  refine ne_bind (ne_bind (ne_want _) fun _ => ne_bind (ne_one _) fun _ => ne_bind (ne_opt (ne_ret _)) fun _ => ne_bind (ne_want _) fun _ => ne_ret _) fun _ => ?_
  refine ne_bind (ne_bind (ne_want _) fun _ => ne_bind (ne_number _) fun _ => ne_bind (ne_want _) fun _ => ne_bind (ne_number _) fun _ => ne_bind (ne_want _) fun _ => ne_bind (ne_number _) fun _ => ne_bind (ne_want _) fun _ => ne_ret _) fun _ => ?_
  refine ne_bind (ne_opt (ne_bind (ne_number _) fun _ => ne_bind (ne_want _) fun _ => ne_ret _)) fun _ => ?_
  exact ne_bind ne_fin fun _ => ne_ret _
theorem parse_ne {l r : List Tk} {a : Pf} {e : Int} (h : parse (.ok l) = (a, .error (r, e))) : e ≠ 0 := by
  rcases ne_parse (.ok l) r e (by rw [h]) with h1 | h1
  · cases h1
  · exact h1
/-- What Parse answers: a right profile, or an error with a number, in the text. -/
theorem parseS_cases (s : S) (hs : s.length ≤ 2000) : (∃ q, parseS s = (q, 0, 0) ∧ Rt q) ∨ ∃ i e, parseS s = (zero, i, e) ∧ e ≠ 0 ∧ 0 ≤ i ∧ i ≤ s.length := by
  unfold parseS
  rw [if_neg (by omega)]
  cases hl : lex s 0 with
  | error v =>
    obtain ⟨i, e⟩ := v
    obtain ⟨m, h1, h2, _, _, h5⟩ := lex_error hl
    exact .inr ⟨i, e, rfl, by rcases h5 with h | h | h <;> rw [h] <;> decide, by omega, by omega⟩
  | ok ts =>
    rcases out_cases hl with ⟨p, h1, h2⟩ | ⟨pre, r, e, a, h1, h2, h3⟩
    · exact .inl ⟨p, h1, h2⟩
    · refine .inr ⟨posOf r, e, h3, parse_ne h2, ?_⟩
      cases r with
      | nil => exact ⟨by simp [posOf], by simp [posOf]⟩
      | cons t r =>
        have := pos_in hl t (by rw [h1]; simp)
        exact ⟨by simp [posOf]; omega, by simp [posOf]; omega⟩
end Sy
end Go.Proofs.YtlefgffnjcmfoaaGreatDoor
namespace Go.Proofs.YtlefgffnjcmfoaaGreatDoor
namespace Sy
open Lx
theorem err_at {l r : List Tk} {a : Pf} {e : Int} (h : parse (.ok l) = (a, .error (r, e))) : ∃ pre, l = pre ++ r ∧ ∀ t ∈ pre, t.kind ≠ 3 := by
  obtain ⟨pre0, r0, q1, q2, ⟨_, q3, _⟩ | ⟨_, _, q3, _⟩⟩ := loc_parse.2 l
  · rw [h] at q3; cases q3
  · rw [h] at q3; cases q3
    exact ⟨pre0, q1, q2⟩
theorem parseS_lex {s : S} {ts : List Tk} (hs : s.length ≤ 2000) (h : lex s 0 = .ok ts) : parseS s = out ts := by
  unfold parseS; rw [if_neg (by omega), h]
theorem out_err {l r : List Tk} {a : Pf} {e : Int} (h : parse (.ok l) = (a, .error (r, e))) : out l = (zero, posOf r, e) := by
  unfold out; rw [h]
/-- Where the token of an error stands. -/
theorem err_tok {s : S} {ts r : List Tk} {a : Pf} {e : Int} (hl : lex s 0 = .ok ts) (h : parse (.ok ts) = (a, .error (r, e))) :
    ∃ pre z r', ts = pre ++ z :: r' ∧ r = z :: r' ∧ (z.kind = 3 → z.pos = (s.length : Int)) ∧ 0 ≤ z.pos ∧ z.pos ≤ (s.length : Int) ∧ (z.kind ≠ 3 → z.pos < (s.length : Int)) := by
  obtain ⟨pre, h1, h2⟩ := err_at h
  obtain ⟨us, h3, h4⟩ := last_end hl
  cases r with
  | nil =>
    exfalso
    rw [List.append_nil] at h1
    have : (⟨3, [], 0, 0 + s.length⟩ : Tk) ∈ pre := by rw [← h1, h3]; simp
    exact h2 _ this rfl
  | cons z r' =>
    have hz : z ∈ ts := by rw [h1]; simp
    have hp := pos_in hl z hz
    refine ⟨pre, z, r', h1, rfl, fun hk => ?_, hp.1, by omega, fun hk => ?_⟩
    · rw [h3] at hz
      rcases List.mem_append.1 hz with q | q
      · exact (h4 z q hk).elim
      · simp at q; rw [q]
    · have hlt : pre.length < us.length := by
        refine Nat.lt_of_not_le fun q => ?_
        have hlen := congrArg List.length (h1.symm.trans h3)
        simp only [List.length_append, List.length_cons, List.length_nil] at hlen
        have hk2 : ts[pre.length]? = some z := by rw [h1]; simp
        rw [h3, List.getElem?_append_right q, show pre.length - us.length = 0 by omega] at hk2
        simp at hk2
        exact hk (by rw [← hk2])
      have := pos_lt hl pre.length us.length z ⟨3, [], 0, 0 + s.length⟩ hlt (by rw [h1]; simp) (by rw [h3]; simp)
      simp only at this; omega
theorem first_cases {s : S} (hs : s.length ≤ 600) :
    (∃ i e, lexRes s = ([], i, e) ∧ e ≠ 0 ∧ parseS s = (zero, i, e)) ∨ (∃ ts q, lexRes s = (ts, 0, 0) ∧ parseS s = (q, 0, 0)) ∨ (∃ ts e, lexRes s = (ts, 0, 0) ∧ e ≠ 0 ∧ parseS s = (zero, (s.length : Int), e)) ∨
    (∃ (ts : List Tk) (k : Nat) (z : Tk) (e : Int) (a : Nat), lexRes s = (ts, 0, 0) ∧ e ≠ 0 ∧ parseS s = (zero, (a : Int), e) ∧ ts[k]? = some z ∧ z.pos = (a : Int) ∧ a + z.text.length ≤ s.length ∧ a < s.length ∧
      (∀ (j : Nat) (t : Tk), j < k → ts[j]? = some t → t.pos ≠ (a : Int)) ∧
      (∀ m : S, m.length ≤ 300 → ∀ us i, lexRes (s.take (a + z.text.length) ++ 32 :: 59 :: 32 :: m) = (us, i, 0) → parseS (s.take (a + z.text.length) ++ 32 :: 59 :: 32 :: m) = (zero, (a : Int), e)) ∧
      ((∃ p i, parseS (s.take a) = (p, i, 0)) ∨ ∃ p e', parseS (s.take a) = (p, (a : Int), e') ∧ e' ≠ 0)) := by
  have hb : ¬ 2000 < s.length := by omega
  cases hl : lex s 0 with
  | error v =>
    obtain ⟨i, e⟩ := v
    obtain ⟨_, _, _, _, _, he⟩ := lex_error hl
    have h := lexRes_err hb hl
    have hne : e ≠ 0 := by rcases he with h | h | h <;> rw [h] <;> decide
    exact .inl ⟨i, e, h, hne, parse_bad h hne⟩
  | ok ts =>
    have hx := lexRes_ok hb hl
    have hps := parseS_lex (by omega) hl
    cases hp : parse (.ok ts) with
    | mk p x =>
      cases x with
      | ok r => exact .inr (.inl ⟨ts, p, hx, by rw [hps]; unfold out; rw [hp]⟩)
      | error v =>
        obtain ⟨r, e⟩ := v
        have he := parse_ne hp
        have ho := out_err hp
        obtain ⟨pre, z, r', h1, rfl, h3, h4, h5, h6⟩ := err_tok hl hp
        by_cases hk : z.kind = 3
        · exact .inr (.inr (.inl ⟨ts, e, hx, he, by rw [hps, ho]; show (zero, z.pos, e) = _; rw [h3 hk]⟩))
        · obtain ⟨a, ha⟩ : ∃ a : Nat, z.pos = a := ⟨z.pos.toNat, by omega⟩
          have hz : ts[pre.length]? = some z := by rw [h1]; simp
          obtain ⟨q1, q2⟩ := lex_prefix hl pre.length a z hz (by omega)
          have q2 := q2 hk
          have htk : ts.take pre.length = pre := by rw [h1]; simp
          have htk1 : ts.take (pre.length + 1) = pre ++ [z] := by rw [List.take_add_one, htk, hz]; rfl
          have hle : a + z.text.length ≤ s.length := by
            obtain ⟨us, w1, _⟩ := last_end q2
            have w2 := (List.append_inj' w1 rfl).2
            simp only [List.cons.injEq, Tk.mk.injEq, and_true, true_and] at w2
            rw [List.length_take] at w2
            omega
          refine .inr (.inr (.inr ⟨ts, pre.length, z, e, a, hx, he, by rw [hps, ho, ← ha]; rfl, hz, ha, hle, by have := h6 hk; omega, fun j t hj ht => ?_, fun m hm us i hT => ?_, ?_⟩))
          · have := pos_lt hl j pre.length t z hj ht hz; omega
          · obtain ⟨w1, w2⟩ := res_ok hT
            have w3 := w2
            rw [lex_join (by decide), q2] at w3
            simp only at w3
            split at w3
            · cases w3
            · rename_i vs _
              simp only [Except.ok.injEq, List.dropLast_concat] at w3
              rw [parseS_lex (by omega) w2, ← w3, htk1, List.append_assoc, List.singleton_append, ← ha]
              rw [h1] at hp
              exact out_more hp
          · have hE : (⟨3, [], 0, 0 + (a : Int)⟩ : Tk).kind = 3 := rfl
            rw [htk] at q1
            rw [h1] at hp
            have w := parseS_lex (by rw [List.length_take]; omega) q1
            rw [w]
            rcases out_less hp hE with ⟨p', h⟩ | ⟨e', h⟩
            · exact .inl ⟨p', 0, h⟩
            · by_cases he' : e' = 0
              · exact .inl ⟨zero, _, by rw [h, he']⟩
              · exact .inr ⟨zero, e', by rw [h]; simp, he'⟩
end Sy
end Go.Proofs.YtlefgffnjcmfoaaGreatDoor
namespace Go.Proofs.YtlefgffnjcmfoaaGreatDoor
namespace Sy
open Lx
theorem spr_snoc (pd : Nat → S) (t : Tk) : ∀ (l : List Tk) (i : Nat), spr pd i (l ++ [t]) = spr pd i l ++ (32 :: (pd (i + l.length) ++ t.text))
  | [], i => by simp [spr]
  | u :: l, i => by
    have ih := spr_snoc pd t l (i + 1)
    show 32 :: (pd i ++ (u.text ++ spr pd (i + 1) (l ++ [t]))) = 32 :: (pd i ++ (u.text ++ spr pd (i + 1) l)) ++ _
    rw [ih, show i + 1 + l.length = i + (u :: l).length by rw [List.length_cons]; omega]
    simp
theorem spr_len (pd : Nat → S) : ∀ (l : List Tk) (i : Nat), (∀ j, (pd j).length ≤ 4) → (spr pd i l).length ≤ 5 * l.length + (l.map fun t => t.text.length).sum
  | [], i, _ => by simp [spr]
  | u :: l, i, h => by
    have ih := spr_len pd l (i + 1) h
    have := h i
    show (32 :: (pd i ++ (u.text ++ spr pd (i + 1) l))).length ≤ _
    simp only [List.length_cons, List.length_append, List.map_cons, List.sum_cons]
    omega
theorem places_snoc (pd : Nat → S) (t : Tk) : ∀ (l : List Tk) (i : Nat) (q : Int), places pd i q (l ++ [t]) = places pd i q l ++ [q + ((spr pd i l).length : Int) + 1 + ((pd (i + l.length)).length : Int)]
  | [], i, q => by simp [places, spr]
  | u :: l, i, q => by
    have ih := places_snoc pd t l (i + 1) (q + 1 + (pd i).length + u.text.length)
    show (q + 1 + (pd i).length) :: places pd (i + 1) (q + 1 + (pd i).length + u.text.length) (l ++ [t]) = _
    rw [ih, show i + 1 + l.length = i + (u :: l).length by rw [List.length_cons]; omega]
    have e : ((spr pd i (u :: l)).length : Int) = 1 + (pd i).length + u.text.length + (spr pd (i + 1) l).length := by
      show ((32 :: (pd i ++ (u.text ++ spr pd (i + 1) l))).length : Int) = _
      simp only [List.length_cons, List.length_append]; omega
    rw [e]
    show _ = (q + 1 + (pd i).length) :: places pd (i + 1) (q + 1 + (pd i).length + u.text.length) l ++ _
    rw [List.cons_append]
    congr 3
    omega
theorem places_length (pd : Nat → S) : ∀ (l : List Tk) (i : Nat) (q : Int), (places pd i q l).length = l.length
  | [], _, _ => rfl
  | u :: l, i, q => by
    show (places pd (i + 1) _ l).length + 1 = l.length + 1
    rw [places_length pd l]
/-- The texts of the tokens stand in the text, one after the other. -/
theorem sum_text {s : S} : ∀ {p : Int} {ts : List Tk}, lex s p = .ok ts → (ts.map fun t => t.text.length).sum ≤ s.length := by
  induction s using lex_ind with
  | h0 => intro p ts h; cases h; simp
  | h1 c r hb ih => intro p ts h; rw [lex_blank hb] at h; have := ih h; simp; omega
  | h2 c r e hb ht => intro p ts h; rw [lex_bad hb ht] at h; cases h
  | h3 c r k w n hb ht ih =>
    intro p ts h
    rw [lex_tok hb ht] at h
    have hl := tok_len ht
    cases hd : lex ((c :: r).drop w.length) (p + w.length) with
    | error v => rw [hd] at h; cases h
    | ok vs =>
      rw [hd] at h
      cases h
      have := ih hd
      rw [List.length_drop] at this
      simp only [List.map_cons, List.sum_cons]
      omega
theorem spr_bound {pd : Nat → S} {s : S} {ts : List Tk} {i : Int} (hs : s.length ≤ 700) (hpd : ∀ j, (pd j).length ≤ 4) (h : lexRes s = (ts, i, 0)) (k : Nat) : (spr pd 0 (ts.take k)).length ≤ 8000 := by
  obtain ⟨_, h2⟩ := res_ok h
  have h3 := spr_len pd (ts.take k) 0 hpd
  have h4 := (lex_len' h2).1
  have h5 := sum_text h2
  have h6 : (ts.take k).length ≤ ts.length := by rw [List.length_take]; omega
  have h7 : ((ts.take k).map fun t => t.text.length).sum ≤ (ts.map fun t => t.text.length).sum := by
    conv => rhs; rw [← List.take_append_drop k ts]
    rw [List.map_append, List.sum_append]; omega
  omega
theorem blanks_cases {pd : Nat → S} {s : S} {ts : List Tk} (hs : s.length ≤ 700) (hpd : ∀ i, ∀ c ∈ pd i, Lx.blank c = true) (h : lexRes s = (ts, 0, 0)) (hT : (spr pd 0 ts).length ≤ 2000) :
    (∃ p, parseS s = (p, 0, 0) ∧ parseS (spr pd 0 ts) = (p, 0, 0)) ∨
    ∃ (k : Nat) (z : Tk) (e th : Int), e ≠ 0 ∧ parseS s = (zero, z.pos, e) ∧ parseS (spr pd 0 ts) = (zero, th, e) ∧ ts[k]? = some z ∧ (∀ (j : Nat) (t : Tk), j < k → ts[j]? = some t → t.pos ≠ z.pos) ∧ (places pd 0 0 ts)[k]? = some th := by
  obtain ⟨_, hl⟩ := res_ok h
  obtain ⟨us, h1, h2⟩ := lex_toks hl
  have hlp := lex_spr hpd us 0 0 (0 + s.length) h2
  rw [← h1] at hlp
  obtain ⟨vs, q1, q2, q3⟩ := hlp
  have w1 := parseS_lex (by omega) hl
  have w2 := parseS_lex hT q1
  cases hp : parse (.ok ts) with
  | mk p x =>
    cases x with
    | ok r =>
      obtain ⟨r', e1, _⟩ := loc_ok loc_parse q2 hp
      exact .inl ⟨p, by rw [w1]; unfold out; rw [hp], by rw [w2]; unfold out; rw [e1]⟩
    | error v =>
      obtain ⟨r, e⟩ := v
      obtain ⟨pre, z, r2, g1, rfl, _⟩ := err_tok hl hp
      obtain ⟨a', pre1, pre', r', k1, k2, k3, k4, k5⟩ := loc_err loc_parse q2 hp
      have hpre : pre1 = pre := List.append_cancel_right (k1.symm.trans g1)
      subst hpre
      cases r' with
      | nil => simp at k4
      | cons y r' =>
        refine .inr ⟨pre1.length, z, e, y.pos, parse_ne hp, by rw [w1, out_err hp]; rfl, by rw [w2, out_err k3]; rfl, by rw [g1]; simp, fun j t hj ht => ?_, ?_⟩
        · have := pos_lt hl j pre1.length t z hj ht (by rw [g1]; simp); omega
        · rw [← q3, k2, List.getElem?_map, List.getElem?_append_right (by omega), k5]
          simp
end Sy
end Go.Proofs.YtlefgffnjcmfoaaGreatDoor
