/- Several texts in one: Zm, Zn, Zo, Yapi12. -/
import Derived.Test.YtlefgffnjcmfoaaGreatDoorMZB
import Derived.Test.YtlefgffnjcmfoaaGreatDoorME
import Derived.Deep.CutRange
namespace Go.Proofs.YtlefgffnjcmfoaaGreatDoor
open Go.RowKit Go.Maps Go.ChangeMaps Go.MapKept
open Lx Sy Ch
attribute [local go_sem ↓] Go.wp_at_zero Go.wp_at_succ
/-- The builder in block b, whose blocks lie from B on; what it holds, and how long that may be; all that was there at w0 stands. -/
structure KB (B b : Nat) (l : S) (N : Nat) (w0 w : World) : Prop where
  bld : Lib.IsBuilder 72 5 B b (Lib.byteCells l) w
  below : Below B w0 w
  le : B ≤ w.heap.size
  len : l.length ≤ N
theorem KB.keep {B b N : Nat} {l : S} {w0 w w' : World} (h : KB B b l N w0 w) (hb : Below w.heap.size w w') : KB B b l N w0 w' :=
  ⟨builder_old h.bld hb, h.below.trans (hb.mono h.le), Nat.le_trans h.le hb.size, h.len⟩
theorem KB.more {B b N M : Nat} {l : S} {w0 w : World} (h : KB B b l N w0 w) (hm : N ≤ M) : KB B b l M w0 w := ⟨h.bld, h.below, h.le, Nat.le_trans h.len hm⟩
def segE (ss : List S) : S := glue ss ++ [32, 59, 10]
section
variable {w0 w : World} {B b N : Nat} {l : S}
set_option maxHeartbeats 2000000 in
set_option maxRecDepth 100000 in
theorem p_part {u : Value} {ss : List S} (h : KB B b l N w0 w) (hu : TxAt w u ss) (hn : ss.length ≤ 100) (hg : (glue ss).length ≤ 2000) (hN : N ≤ 1000000) :
    Calls Tryz.prog 51 #[u, .pointer (some ⟨b, 0, none⟩)] w fun e w' => e = .returned (.tuple #[]) ∧ KB B b (l ++ segE ss) (N + 2003) w0 w' := by
  have H := Lib.hid (join_any hu (by omega) (by omega))
  have zg := bs_size (glue ss)
  have ha : bs (glue ss) ++ ⟨#[32, 59, 10]⟩ = bs (segE ss) := by rw [show (⟨#[32, 59, 10]⟩ : ByteArray) = bs [32, 59, 10] from rfl, bs_append]; rfl
  have zs : (bs (segE ss)).size = (glue ss).length + 3 := by rw [bs_size]; simp [segE]
  have HK := Lib.hid h
  clear hu h
  go_enter Tryz.func51, Tryz.ntmps51
  go_wp2_with (go_at_call 53; refine (H.out).mono ?_; rintro e1 w1 ⟨rfl, b1⟩; refine Hid.out ?_)
  refine Lib.hid ?_
  have K1 := HK.out.keep b1
  have hl := K1.len
  have H := Lib.hid (str_any B b _ (bs (segE ss)) w1 K1.bld (by rw [Lib.byteCells_length, zs]; omega) K1.le)
  have HK1 := Lib.hid K1
  clear b1 K1
  go_wp2_with (go_at_call 52; refine (H.out).mono ?_; rintro e2 w2 ⟨rfl, h2, b2⟩; refine Hid.out ?_)
  refine Lib.hid ?_
  rw [cells_app] at h2
  have K2 := Lib.hid (show KB B b (l ++ segE ss) (N + 2003) w0 w2 from ⟨h2, HK1.out.below.trans b2, Nat.le_trans HK1.out.le b2.size, by have := HK1.out.len; simp [segE]; omega⟩)
  clear H h2 b2
  go_wp2
  go_end0
  exact ⟨rfl, K2.out⟩
set_option maxHeartbeats 2000000 in
set_option maxRecDepth 100000 in
theorem p_yn (hE : Env w) (c : Bool) : Calls Tryz.prog 55 #[.bool c] w fun e w' => e = .returned (.string (bs (ynw c))) ∧ w = w' := by
  obtain ⟨x, hx, hxt⟩ := hE.wrd 0 deW rfl
  obtain ⟨tb, off, cap, rfl, _, hc⟩ := hxt.form (by decide)
  have c0 : w.cell? ⟨0, 0, none⟩ = some (.slice (some ⟨tb, off, none⟩) 3 cap) := hx
  have d0 : w.cell? ⟨tb, off, none⟩ = some (.string (bs [110, 111])) := hc 0 _ rfl
  have d2 : w.cell? ⟨tb, off + 2, none⟩ = some (.string (bs [121, 101, 115])) := hc 2 _ rfl
  clear hx hxt hc hE
  cases c with
  | true =>
    go_enter Tryz.func55, Tryz.ntmps55
    go_wp2
    go_ret
    exact ⟨rfl, rfl⟩
  | false =>
    go_enter Tryz.func55, Tryz.ntmps55
    go_wp2
    go_ret
    exact ⟨rfl, rfl⟩
theorem itoa_dec {n : Int} (h : 0 ≤ n ∧ n ≤ 1073741824) : Lib.itoa n = Lib.decDigits n.toNat := by
  unfold Lib.itoa
  rw [if_neg (by omega)]
theorem p_itoa {n : Int} (hE : Env w) (h : 0 ≤ n ∧ n ≤ 1073741824) : Calls Tryz.prog 54 #[.int .i64 n] w fun e w' => e = .returned (.string (bs (Lib.decDigits n.toNat))) ∧ Below w.heap.size w w' := by
  have := itoa_any (w := w) n ⟨by omega, by omega⟩ hE
  rwa [itoa_dec h] at this
/-- A word of the table, as it lies there. -/
theorem word_at' {row : Nat} {T : List S} {n : Int} (hE : Env w) (hT : rowsW[row]? = some T) (hn : 0 ≤ n ∧ n < T.length) :
    ∃ tb off cap, w.cell? ⟨0, row, none⟩ = some (.slice (some ⟨tb, off, none⟩) T.length cap) ∧ w.cell? ⟨tb, off + n.toNat, none⟩ = some (.string (bs (T.getD n.toNat []))) := by
  obtain ⟨x, hx, hxt⟩ := hE.wrd row T hT
  obtain ⟨tb, off, cap, rfl, _, hc⟩ := hxt.form (by omega)
  have h1 : n.toNat < T.length := by omega
  refine ⟨tb, off, cap, hx, hc _ _ ?_⟩
  rw [List.getD, List.getElem?_eq_getElem h1]; rfl
end
/-! ### The parts of the text -/
def editP (p : Pf) : S := if p.within = 0 then segE [[101, 100, 105, 116], deW.getD p.edit.toNat []] else segE [[101, 100, 105, 116], deW.getD p.edit.toNat [], [119, 105, 116, 104, 105, 110], Lib.decDigits p.within.toNat]
def filesP (p : Pf) : S := if p.files = 0 then [] else segE [[102, 105, 108, 101, 115], Lib.decDigits p.files.toNat, [98, 121, 116, 101, 115], Lib.decDigits p.bytes.toNat, [116, 121, 112, 101, 115], glue p.types]
def levelP (p : Pf) : S := if p.batch = true then segE [[114, 101, 99, 101, 105, 112, 116, 115], leW.getD p.level.toNat [], [98, 97, 116, 99, 104]] else segE [[114, 101, 99, 101, 105, 112, 116, 115], leW.getD p.level.toNat []]
def keepP (p : Pf) : S := if p.keep = 0 then [] else segE [[107, 101, 101, 112], Lib.decDigits p.keep.toNat]
def canon1 (p : Pf) : S := segE [[110, 101, 116, 119, 111, 114, 107], p.name] ++ editP p
def canon2 (p : Pf) : S := ((((((canon1 p ++ segE [[100, 101, 108, 101, 116, 101], deW.getD p.delete.toNat []]) ++ segE [[114, 101, 97, 99, 116], ynw p.react]) ++ segE [[116, 104, 114, 101, 97, 100], thW.getD p.thread.toNat []]) ++ segE [[113, 117, 111, 116, 101], ynw p.quote]) ++ segE [[109, 101, 110, 116, 105, 111, 110], ynw p.mention]) ++ segE [[115, 105, 122, 101], Lib.decDigits p.size.toNat, [112, 97, 114, 116, 115], Lib.decDigits p.parts.toNat]) ++ filesP p
def canon3 (p : Pf) : S := (((canon2 p ++ segE [[106, 111, 105, 110], joW.getD p.join.toNat []]) ++ segE [[104, 105, 115, 116, 111, 114, 121], hiW.getD p.history.toNat []]) ++ segE [[114, 101, 109, 111, 118, 101], reW.getD p.remove.toNat []]) ++ levelP p
def canon4 (p : Pf) : S := (canon3 p ++ segE [[114, 97, 116, 101], Lib.decDigits p.rate.toNat, [100, 111, 119, 110], Lib.decDigits p.down.toNat, [111, 102], Lib.decDigits p.window.toNat]) ++ keepP p
theorem glue_two (a b : S) : glue [a, b] = a ++ 32 :: b := by simp [glue]
theorem glue_tys (x : S) (l : List S) : glue (x :: l) = x ++ tys l := by
  induction l generalizing x with
  | nil => simp [glue, tys]
  | cons y l ih =>
    rw [glue_cons (by simp), ih y]
    simp [tys]
theorem tys_glue {l : List S} (h : l ≠ []) : tys l = 32 :: glue l := by
  cases l with
  | nil => exact absurd rfl h
  | cons x l => rw [glue_tys]; simp [tys]
theorem segE_two (a b : S) : segE [a, b] = a ++ 32 :: b ++ [32, 59, 10] := by simp [segE, glue]
theorem segE_four (a b c d : S) : segE [a, b, c, d] = a ++ 32 :: (b ++ 32 :: (c ++ 32 :: d)) ++ [32, 59, 10] := by simp [segE, glue]
theorem segE_six (a b c d e f : S) : segE [a, b, c, d, e, f] = a ++ 32 :: (b ++ 32 :: (c ++ 32 :: (d ++ 32 :: (e ++ 32 :: f)))) ++ [32, 59, 10] := by simp [segE, glue]
theorem edit_eq {p : Pf} (h : Rt p) : editP p = flat (bEdit p) := by
  have he : deW.getD p.edit.toNat [] = ynw (decide (p.edit = 2)) := by
    rcases h.1.1 with e | e
    · rw [e]; rfl
    · rw [e]; rfl
  rw [flat_edit h]
  unfold editP
  rw [he]
  by_cases h0 : p.within = 0
  · rw [if_pos h0, if_pos h0, segE_two]; simp
  · rw [if_neg h0, if_neg h0, segE_four]; simp
theorem files_eq {p : Pf} (h : Rt p) : filesP p = flat (bFiles p) := by
  rw [flat_files]
  unfold filesP
  by_cases h1 : p.files = 0
  · rw [if_pos h1, if_pos h1]
  · have hf : p.types ≠ [] := fun e => by
      have := (h.2.2.2.2.2 h1).1.1
      rw [e] at this; simp at this
    rw [if_neg h1, if_neg h1, segE_six, tys_glue hf]; simp
theorem level_eq {p : Pf} : levelP p = flat (bLevel p) := by
  rw [flat_level]
  unfold levelP
  by_cases h2 : p.batch = true
  · rw [if_pos h2, if_pos h2]; simp [segE, glue]
  · rw [if_neg h2, if_neg h2, segE_two]; simp
theorem keep_eq {p : Pf} : keepP p = flat (bKeep p) := by
  rw [flat_keep]
  unfold keepP
  by_cases h3 : p.keep = 0
  · rw [if_pos h3, if_pos h3]
  · rw [if_neg h3, if_neg h3, segE_two]; simp
theorem canon_text {p : Pf} (h : Rt p) : canon4 p = Sy.text p := by
  have hap : ∀ a b : List B, flat (a ++ b) = flat a ++ flat b := fun a b => by simp [flat]
  have hn : flat [kw [110, 101, 116, 119, 111, 114, 107], kw p.name, semi] = segE [[110, 101, 116, 119, 111, 114, 107], p.name] := by rw [segE_two, flat_kw, flat_kw, flat_semi, flat_nil]; simp
  have hs : flat [kw [115, 105, 122, 101], nu p.size, kw [112, 97, 114, 116, 115], nu p.parts, semi] = segE [[115, 105, 122, 101], Lib.decDigits p.size.toNat, [112, 97, 114, 116, 115], Lib.decDigits p.parts.toNat] := by rw [segE_four, flat_kw, flat_nu, flat_kw, flat_nu, flat_semi, flat_nil]; simp
  have hr : flat [kw [114, 97, 116, 101], nu p.rate, kw [100, 111, 119, 110], nu p.down, kw [111, 102], nu p.window, semi] = segE [[114, 97, 116, 101], Lib.decDigits p.rate.toNat, [100, 111, 119, 110], Lib.decDigits p.down.toNat, [111, 102], Lib.decDigits p.window.toNat] := by rw [segE_six, flat_kw, flat_nu, flat_kw, flat_nu, flat_kw, flat_nu, flat_semi, flat_nil]; simp
  have hp : ∀ w v, flat (bPart w v) = segE [w, v] := fun w v => by rw [flat_part, segE_two]
  unfold Sy.text pb
  simp only [hap, hn, hs, hr, hp]
  unfold canon4 canon3 canon2 canon1
  rw [edit_eq h, files_eq h, level_eq, keep_eq]
  simp only [List.append_assoc]
end Go.Proofs.YtlefgffnjcmfoaaGreatDoor
namespace Go.Proofs.YtlefgffnjcmfoaaGreatDoor
open Go.RowKit Go.Maps Go.ChangeMaps Go.MapKept
open Lx Sy Ch
attribute [local go_sem ↓] Go.wp_at_zero Go.wp_at_succ
theorem KB.pf {B b N g : Nat} {l : S} {w0 w : World} {x : Obj} (h : KB B b l N w0 w) (hP : w0.heap[g]? = some x) (hg : g < B) : w.heap[g]? = some x := (h.below.block g hg).trans hP
theorem part_lit {B b N : Nat} {l : S} {w0 w : World} (h : KB B b l N w0 w) (ss : List S) (hn : ss.length ≤ 100) (hg : (glue ss).length ≤ 2000) (hN : N ≤ 1000000) :
    Calls Tryz.prog 51 #[.slice (some ⟨w.heap.size, 0, none⟩) ss.length ss.length, .pointer (some ⟨b, 0, none⟩)] (w.alloc (wordsO ss)) fun e w' => e = .returned (.tuple #[]) ∧ KB B b (l ++ segE ss) (N + 2003) w0 w' :=
  p_part (h.keep ((Below.refl _ _).alloc (Nat.le_refl _) _)) (tx_of (MapKept.heap_alloc w (wordsO ss)).1) hn hg hN
theorem glue2_len {a b : S} (ha : a.length ≤ 500) (hb : b.length ≤ 500) : (glue [a, b]).length ≤ 2000 := by simp [glue]; omega
theorem glue3_len {a b c : S} (ha : a.length ≤ 500) (hb : b.length ≤ 500) (hc : c.length ≤ 500) : (glue [a, b, c]).length ≤ 2000 := by simp [glue]; omega
theorem glue4_len {a b c d : S} (ha : a.length ≤ 480) (hb : b.length ≤ 480) (hc : c.length ≤ 480) (hd : d.length ≤ 480) : (glue [a, b, c, d]).length ≤ 2000 := by simp [glue]; omega
theorem glue6_len {a b c d e f : S} (ha : a.length ≤ 200) (hb : b.length ≤ 200) (hc : c.length ≤ 200) (hd : d.length ≤ 200) (he : e.length ≤ 200) (hf : f.length ≤ 900) : (glue [a, b, c, d, e, f]).length ≤ 2000 := by simp [glue]; omega
theorem glue_types {l : List S} (h : ∀ x ∈ l, x.length ≤ 40) : (glue l).length ≤ 41 * l.length := by
  have := tys_len h
  cases l with
  | nil => simp [glue]
  | cons x l => rw [glue_tys]; simp [tys] at this ⊢; omega
set_option maxHeartbeats 8000000 in
set_option maxRecDepth 100000 in
theorem p_canon {w : World} {x : Value} {p : Pf} (hE : Env w) (hx : PfAt w x p) (hr : Rt p) : Calls Tryz.prog 28 #[x] w (Reads w (.string (bs (Sy.text p)))) := by
  obtain ⟨tv, rfl, ht⟩ := hx
  obtain ⟨ta, tc, rfl⟩ := ht.slice
  have HR := Lib.hid hr
  obtain ⟨⟨e1, e2, e3, e4, e5, e6, e7⟩, ⟨n1, n2, n3, n4, n5, n6, n7, n8, n9⟩, hnm, -, hfl⟩ := hr
  unfold within at e2 e3 e4 e5 e6 e7 n1 n2 n3 n4 n5 n6 n7 n8 n9
  have e10 : 0 ≤ p.edit ∧ p.edit < 3 := by omega
  have hname := Sy.word_len hnm
  have htl : p.types.length ≤ 20 := by
    by_cases h0 : p.files = 0
    · rw [(hfl.1 h0).2]; simp
    · exact (hfl.2 h0).1.2
  have htg : (glue p.types).length ≤ 900 := by
    have := glue_types (l := p.types) (fun x hx => by
      by_cases h0 : p.files = 0
      · rw [(hfl.1 h0).2] at hx; simp at hx
      · have := Sy.word_len ((hfl.2 h0).2 x hx); omega)
    omega
  clear e1 hnm hfl
  have b1 : Below w.heap.size w (w.alloc (.cells (pfC p (.slice ta p.types.length tc)) 24)) := (Below.refl _ _).alloc (Nat.le_refl _) _
  have HB := Lib.hid b1
  have HE := Lib.hid (hE.keep b1)
  have HP := Lib.hid (MapKept.heap_alloc w (.cells (pfC p (.slice ta p.types.length tc)) 24)).1
  have HT := Lib.hid (ht.keep b1)
  have hgB : w.heap.size < (w.alloc (.cells (pfC p (.slice ta p.types.length tc)) 24)).heap.size := by simp
  clear b1 ht hE
  go_enter Tryz.func28, Tryz.ntmps28
  go_upto_region 0 with fail
  refine wp_region_lit ?_
  refine list_evw (v := .pointer (some ⟨w.heap.size, 0, none⟩)) (w' := w.alloc (.cells (pfC p (.slice ta p.types.length tc)) 24)) rfl (ev_box rfl rfl) ?_
  simp only [Act.put, List.setIfInBounds_toArray, List.set_cons_zero, List.set_cons_succ]
  generalize w.alloc (.cells (pfC p (.slice ta p.types.length tc)) 24) = w1 at *
  generalize pfV p (.slice ta p.types.length tc) = xv
  obtain ⟨g, hg⟩ : ∃ g, g = w.heap.size := ⟨_, rfl⟩
  rw [← hg] at HP hgB
  rw [← hg]
  clear hg
  refine list_ev (v := .string ⟨#[]⟩) rfl (by go_simp) ?_
  simp only [Act.put, List.setIfInBounds_toArray, List.set_cons_zero, List.set_cons_succ]
  have Kb := Lib.hid (show KB w1.heap.size w1.heap.size ([] : S) 0 w1 (w1.alloc (.cells #[.pointer none, .slice none 0 0] 72)) from ⟨Lib.fresh_isBuilder 72 5 w1, (Below.refl _ _).alloc (Nat.le_refl _) _, by simp, by simp⟩)
  go_upto_region 2 with fail
  generalize w1.alloc (.cells #[.pointer none, .slice none 0 0] 72) = w2 at *
  obtain ⟨b, hb⟩ : ∃ b, b = w1.heap.size := ⟨_, rfl⟩
  have Kb := Lib.hid (show KB w1.heap.size b ([] : S) 0 w1 w2 from by rw [hb]; exact Kb.out)
  rw [← hb]
  clear hb
  go_upto_region 3 with fail
  have p0 : w2.cell? ⟨g, 0, none⟩ = some (.string (bs p.name)) := pf_cell (Kb.out.pf HP.out hgB) rfl
  have H := part_lit Kb.out [[110, 101, 116, 119, 111, 114, 107], p.name] (by simp) (glue2_len (by decide) (by omega)) (by omega)
  have H := Lib.hid (show Calls Tryz.prog 51 #[.slice (some ⟨w2.heap.size, 0, none⟩) 2 2, .pointer (some ⟨b, 0, none⟩)] (w2.alloc (.cells #[.string ⟨#[110, 101, 116, 119, 111, 114, 107]⟩, .string (bs (p.name))] 9)) (fun e w' => e = .returned (.tuple #[]) ∧ KB w1.heap.size b (([] : S) ++ segE [[110, 101, 116, 119, 111, 114, 107], p.name]) (0 + 2003) w1 w') from H)
  go_wp2_with (go_at_call 51; refine (H.out).mono ?_; rintro e1 v1 ⟨rfl, k⟩; refine Hid.out ?_)
  refine Lib.hid ?_
  have Kb := Lib.hid (show KB w1.heap.size b (([] : S) ++ segE [[110, 101, 116, 119, 111, 114, 107], p.name]) (0 + 2003) w1 v1 from k)
  clear k H
  clear p0
  go_upto_region 4 with fail
  have p2 : v1.cell? ⟨g, 2, none⟩ = some (.int .i64 p.within) := pf_cell (Kb.out.pf HP.out hgB) rfl
  go_upto_if 13 with fail
  go_cut [13] from 14 to 34 (fun _ wx => Hid (KB w1.heap.size b (canon1 p) (10000) w1 wx))
  case first =>
    cases htest : (p.within == 0) with
    | true =>
      have hw0 := Lib.hid (show p.within = 0 by simpa using htest)
      clear htest
      have p1 : v1.cell? ⟨g, 1, none⟩ = some (.int .i64 p.edit) := pf_cell (Kb.out.pf HP.out hgB) rfl
      obtain ⟨tb, off, cap, q0, q2⟩ := word_at' (HE.out.keep Kb.out.below) (row := 0) (T := deW) rfl (n := p.edit) ⟨by omega, by show _ < (3 : Int); omega⟩
      have q1 : v1.cell? ⟨0, 0, none⟩ = some (.slice (some ⟨tb, off, none⟩) 3 cap) := q0
      clear q0
      obtain ⟨wd, hwd⟩ : ∃ z, z = deW.getD p.edit.toNat [] := ⟨_, rfl⟩
      rw [← hwd] at q2
      have HWD := Lib.hid hwd
      have hwl : wd.length ≤ 40 := by rw [hwd]; exact wlen_deW _
      clear hwd
      have H := part_lit Kb.out [[101, 100, 105, 116], wd] (by simp) (glue2_len (by decide) (by omega)) (by omega)
      have H := Lib.hid (show Calls Tryz.prog 51 #[.slice (some ⟨v1.heap.size, 0, none⟩) 2 2, .pointer (some ⟨b, 0, none⟩)] (v1.alloc (.cells #[.string ⟨#[101, 100, 105, 116]⟩, .string (bs (wd))] 9)) (fun e w' => e = .returned (.tuple #[]) ∧ KB w1.heap.size b (([] : S) ++ segE [[110, 101, 116, 119, 111, 114, 107], p.name] ++ segE [[101, 100, 105, 116], wd]) (0 + 2003 + 2003) w1 w') from H)
      go_wp2_with (go_at_call 51; refine (H.out).mono ?_; rintro e2 v2 ⟨rfl, k⟩; refine Hid.out ?_)
      refine Lib.hid ?_
      have Kb := Lib.hid (show KB w1.heap.size b (([] : S) ++ segE [[110, 101, 116, 119, 111, 114, 107], p.name] ++ segE [[101, 100, 105, 116], wd]) (0 + 2003 + 2003) w1 v2 from k)
      clear k H
      have Kb := Lib.hid (show KB w1.heap.size b (([] : S) ++ segE [[110, 101, 116, 119, 111, 114, 107], p.name] ++ segE [[101, 100, 105, 116], deW.getD p.edit.toNat []]) (0 + 2003 + 2003) w1 v2 from by rw [← HWD.out]; exact Kb.out)
      clear q2 hwl
      clear HWD
      clear p1 q1
      have K9 := Lib.hid (show KB w1.heap.size b (canon1 p) (10000) w1 v2 from by have h := Kb.out.more (M := 10000) (by omega); rw [show ([] : S) ++ segE [[110, 101, 116, 119, 111, 114, 107], p.name] ++ segE [[101, 100, 105, 116], deW.getD p.edit.toNat []] = canon1 p from by unfold canon1 editP; rw [if_pos hw0.out, List.nil_append]] at h; exact h)
      clear Kb
      go_wp2
      go_meet
      exact K9
    | false =>
      have hw0 := Lib.hid (show ¬ p.within = 0 by simpa using htest)
      clear htest
      go_upto_region 6 with fail
      have p1 : v1.cell? ⟨g, 1, none⟩ = some (.int .i64 p.edit) := pf_cell (Kb.out.pf HP.out hgB) rfl
      obtain ⟨tb, off, cap, q0, q2⟩ := word_at' (HE.out.keep Kb.out.below) (row := 0) (T := deW) rfl (n := p.edit) ⟨by omega, by show _ < (3 : Int); omega⟩
      have q1 : v1.cell? ⟨0, 0, none⟩ = some (.slice (some ⟨tb, off, none⟩) 3 cap) := q0
      clear q0
      obtain ⟨wd, hwd⟩ : ∃ z, z = deW.getD p.edit.toNat [] := ⟨_, rfl⟩
      rw [← hwd] at q2
      have HWD := Lib.hid hwd
      have hwl : wd.length ≤ 40 := by rw [hwd]; exact wlen_deW _
      clear hwd
      have Kb := Lib.hid (Kb.out.keep (below_drew _))
      have S0 : v1.drew.cell? ⟨0, 0, none⟩ = some (.slice (some ⟨tb, off, none⟩) 3 cap) ∧ v1.drew.cell? ⟨g, 1, none⟩ = some (.int .i64 p.edit) ∧ v1.drew.cell? ⟨tb, off + p.edit.toNat, none⟩ = some (.string (bs wd)) ∧ v1.drew.cell? ⟨g, 2, none⟩ = some (.int .i64 p.within) := ⟨q1, p1, q2, p2⟩
      refine region_tillD 11 (fun wx => wx.cell? ⟨0, 0, none⟩ = some (.slice (some ⟨tb, off, none⟩) 3 cap) ∧ wx.cell? ⟨g, 1, none⟩ = some (.int .i64 p.edit) ∧ wx.cell? ⟨tb, off + p.edit.toNat, none⟩ = some (.string (bs wd)) ∧ wx.cell? ⟨g, 2, none⟩ = some (.int .i64 p.within)) (by kernel_rfl) ?_
      refine till_take 0 40 false (v := ?v0e) (by kernel_rfl) (by kernel_rfl) (by kernel_rfl) (by kernel_rfl) (by kernel_rfl) (fun _ _ _ h => h) ?hw0e S0 ?hy0e ?rest0e
      case hw0e => (simp only [List.getElem?_toArray, List.getElem?_cons_zero, Option.elim]; rfl)
      case hy0e => (simp only [List.getElem?_toArray, List.getElem?_cons_zero, Option.elim]; intro wx _; go_simp; with_reducible rfl)
      simp only [dstOf, List.getElem?_toArray, List.getElem?_cons_zero, Option.bind, Act.put, List.setIfInBounds_toArray, List.set_cons_zero, List.set_cons_succ]
      refine till_take 1 40 false (v := ?v1e) (by kernel_rfl) (by kernel_rfl) (by kernel_rfl) (by kernel_rfl) (by kernel_rfl) (fun _ _ _ h => h) ?hw1e S0 ?hy1e ?rest1e
      case hw1e => (simp only [List.getElem?_toArray, List.getElem?_cons_zero, List.getElem?_cons_succ, Option.elim]; rfl)
      case hy1e => (simp only [List.getElem?_toArray, List.getElem?_cons_zero, List.getElem?_cons_succ, Option.elim]; intro wx _; go_simp; with_reducible rfl)
      simp only [dstOf, List.getElem?_toArray, List.getElem?_cons_zero, List.getElem?_cons_succ, Option.bind, Act.put, List.setIfInBounds_toArray, List.set_cons_zero, List.set_cons_succ]
      refine till_take 2 40 true (v := ?v2e) (by kernel_rfl) (by kernel_rfl) (by kernel_rfl) (by kernel_rfl) (by kernel_rfl) (fun _ _ _ h => h) ?hw2e S0 ?hy2e ?rest2e
      case hw2e => (simp only [List.getElem?_toArray, List.getElem?_cons_zero, List.getElem?_cons_succ, Option.elim]; rfl)
      case hy2e => (simp only [List.getElem?_toArray, List.getElem?_cons_zero, List.getElem?_cons_succ, Option.elim]; intro wx hx; have x0 := (hx trivial).1; have x1 := (hx trivial).2.1; have x2 := (hx trivial).2.2.1; have x3 := (hx trivial).2.2.2; go_simp; with_reducible rfl)
      simp only [dstOf, List.getElem?_toArray, List.getElem?_cons_zero, List.getElem?_cons_succ, Option.bind, Act.put, List.setIfInBounds_toArray, List.set_cons_zero, List.set_cons_succ]
      refine till_take 3 40 false (v := ?v3e) (by kernel_rfl) (by kernel_rfl) (by kernel_rfl) (by kernel_rfl) (by kernel_rfl) (fun _ _ _ h => h) ?hw3e S0 ?hy3e ?rest3e
      case hw3e => (simp only [List.getElem?_toArray, List.getElem?_cons_zero, List.getElem?_cons_succ, Option.elim]; rfl)
      case hy3e => (simp only [List.getElem?_toArray, List.getElem?_cons_zero, List.getElem?_cons_succ, Option.elim]; intro wx _; go_simp; with_reducible rfl)
      simp only [dstOf, List.getElem?_toArray, List.getElem?_cons_zero, List.getElem?_cons_succ, Option.bind, Act.put, List.setIfInBounds_toArray, List.set_cons_zero, List.set_cons_succ]
      refine till_take 4 40 true (v := ?v4e) (by kernel_rfl) (by kernel_rfl) (by kernel_rfl) (by kernel_rfl) (by kernel_rfl) (fun _ _ _ h => h) ?hw4e S0 ?hy4e ?rest4e
      case hw4e => (simp only [List.getElem?_toArray, List.getElem?_cons_zero, List.getElem?_cons_succ, Option.elim]; rfl)
      case hy4e => (simp only [List.getElem?_toArray, List.getElem?_cons_zero, List.getElem?_cons_succ, Option.elim]; intro wx hx; have x0 := (hx trivial).1; have x1 := (hx trivial).2.1; have x2 := (hx trivial).2.2.1; have x3 := (hx trivial).2.2.2; go_simp; with_reducible rfl)
      simp only [dstOf, List.getElem?_toArray, List.getElem?_cons_zero, List.getElem?_cons_succ, Option.bind, Act.put, List.setIfInBounds_toArray, List.set_cons_zero, List.set_cons_succ]
      refine till_take 5 40 false (v := ?v5e) (by kernel_rfl) (by kernel_rfl) (by kernel_rfl) (by kernel_rfl) (by kernel_rfl) (fun _ _ _ h => h) ?hw5e S0 ?hy5e ?rest5e
      case hw5e => (simp only [List.getElem?_toArray, List.getElem?_cons_zero, List.getElem?_cons_succ, Option.elim]; rfl)
      case hy5e => (simp only [List.getElem?_toArray, List.getElem?_cons_zero, List.getElem?_cons_succ, Option.elim]; intro wx _; go_simp; with_reducible rfl)
      simp only [dstOf, List.getElem?_toArray, List.getElem?_cons_zero, List.getElem?_cons_succ, Option.bind, Act.put, List.setIfInBounds_toArray, List.set_cons_zero, List.set_cons_succ]
      refine till_take 6 40 true (v := ?v6e) (by kernel_rfl) (by kernel_rfl) (by kernel_rfl) (by kernel_rfl) (by kernel_rfl) (fun _ _ _ h => h) ?hw6e S0 ?hy6e ?rest6e
      case hw6e => (simp only [List.getElem?_toArray, List.getElem?_cons_zero, List.getElem?_cons_succ, Option.elim]; rfl)
      case hy6e => (simp only [List.getElem?_toArray, List.getElem?_cons_zero, List.getElem?_cons_succ, Option.elim]; intro wx hx; have x0 := (hx trivial).1; have x1 := (hx trivial).2.1; have x2 := (hx trivial).2.2.1; have x3 := (hx trivial).2.2.2; go_simp; with_reducible rfl)
      simp only [dstOf, List.getElem?_toArray, List.getElem?_cons_zero, List.getElem?_cons_succ, Option.bind, Act.put, List.setIfInBounds_toArray, List.set_cons_zero, List.set_cons_succ]
      refine till_take 7 40 false (v := ?v7e) (by kernel_rfl) (by kernel_rfl) (by kernel_rfl) (by kernel_rfl) (by kernel_rfl) (fun _ _ _ h => h) ?hw7e S0 ?hy7e ?rest7e
      case hw7e => (simp only [List.getElem?_toArray, List.getElem?_cons_zero, List.getElem?_cons_succ, Option.elim]; rfl)
      case hy7e => (simp only [List.getElem?_toArray, List.getElem?_cons_zero, List.getElem?_cons_succ, Option.elim]; intro wx _; go_simp; with_reducible rfl)
      simp only [dstOf, List.getElem?_toArray, List.getElem?_cons_zero, List.getElem?_cons_succ, Option.bind, Act.put, List.setIfInBounds_toArray, List.set_cons_zero, List.set_cons_succ]
      refine till_take 8 40 true (v := ?v8e) (by kernel_rfl) (by kernel_rfl) (by kernel_rfl) (by kernel_rfl) (by kernel_rfl) (fun _ _ _ h => h) ?hw8e S0 ?hy8e ?rest8e
      case hw8e => (simp only [List.getElem?_toArray, List.getElem?_cons_zero, List.getElem?_cons_succ, Option.elim]; rfl)
      case hy8e => (simp only [List.getElem?_toArray, List.getElem?_cons_zero, List.getElem?_cons_succ, Option.elim]; intro wx hx; have x0 := (hx trivial).1; have x1 := (hx trivial).2.1; have x2 := (hx trivial).2.2.1; have x3 := (hx trivial).2.2.2; go_simp; with_reducible rfl)
      simp only [dstOf, List.getElem?_toArray, List.getElem?_cons_zero, List.getElem?_cons_succ, Option.bind, Act.put, List.setIfInBounds_toArray, List.set_cons_zero, List.set_cons_succ]
      refine till_before 9 (by kernel_rfl) (fun K hK => ?_)
      simp only [List.getElem?_toArray, List.getElem?_cons_zero, List.getElem?_cons_succ, Option.elim]
      rw [if_pos (by rfl)]
      go_simp
      go_at_call 54
      refine ((p_itoa (n := p.within) (HE.out.keep Kb.out.below) (by omega))).mono ?_
      rintro _ y1 ⟨rfl, bb⟩
      refine hK.out _ _ (⟨below_cell S0.1 bb, below_cell S0.2.1 bb, below_cell S0.2.2.1 bb, below_cell S0.2.2.2 bb⟩) ?_
      clear hK K
      try simp only [Act.put, List.setIfInBounds_toArray, List.set_cons_zero, List.set_cons_succ]
      replace S0 := (show y1.cell? ⟨0, 0, none⟩ = some (.slice (some ⟨tb, off, none⟩) 3 cap) ∧ y1.cell? ⟨g, 1, none⟩ = some (.int .i64 p.edit) ∧ y1.cell? ⟨tb, off + p.edit.toNat, none⟩ = some (.string (bs wd)) ∧ y1.cell? ⟨g, 2, none⟩ = some (.int .i64 p.within) from ⟨below_cell S0.1 bb, below_cell S0.2.1 bb, below_cell S0.2.2.1 bb, below_cell S0.2.2.2 bb⟩)
      have K2 := Lib.hid (Kb.out.keep bb)
      clear Kb bb
      have Kb := K2
      clear K2
      have H := part_lit Kb.out [[101, 100, 105, 116], wd, [119, 105, 116, 104, 105, 110], Lib.decDigits p.within.toNat] (by simp) (glue4_len (by decide) (by omega) (by decide) (Nat.le_trans (dec10 (n := p.within) (by omega)) (by decide))) (by omega)
      have H := Lib.hid (show Calls Tryz.prog 51 #[.slice (some ⟨y1.heap.size, 0, none⟩) 4 4, .pointer (some ⟨b, 0, none⟩)] (y1.alloc (.cells #[.string ⟨#[101, 100, 105, 116]⟩, .string (bs (wd)), .string ⟨#[119, 105, 116, 104, 105, 110]⟩, .string (bs (Lib.decDigits p.within.toNat))] 9)) (fun e w' => e = .returned (.tuple #[]) ∧ KB w1.heap.size b (([] : S) ++ segE [[110, 101, 116, 119, 111, 114, 107], p.name] ++ segE [[101, 100, 105, 116], wd, [119, 105, 116, 104, 105, 110], Lib.decDigits p.within.toNat]) (0 + 2003 + 2003) w1 w') from H)
      refine till_before 10 (by kernel_rfl) (fun K hK => ?_)
      simp only [List.getElem?_toArray, List.getElem?_cons_zero, List.getElem?_cons_succ, Option.elim]
      rw [if_pos (by rfl)]
      go_simp
      refine hK.out _ _ (⟨below_cell S0.1 ((Below.refl _ _).alloc (Nat.le_refl _) _), below_cell S0.2.1 ((Below.refl _ _).alloc (Nat.le_refl _) _), below_cell S0.2.2.1 ((Below.refl _ _).alloc (Nat.le_refl _) _), below_cell S0.2.2.2 ((Below.refl _ _).alloc (Nat.le_refl _) _)⟩) ?_
      clear hK K
      try simp only [Act.put, List.setIfInBounds_toArray, List.set_cons_zero, List.set_cons_succ]
      refine till_step 11 (by kernel_rfl) (by kernel_rfl) (fun K hK => ?_)
      simp only [List.getElem?_toArray, List.getElem?_cons_zero, List.getElem?_cons_succ, Option.elim]
      rw [if_pos (by rfl)]
      go_simp
      go_at_call 51
      refine (H.out).mono ?_
      rintro _ v3 ⟨rfl, k⟩
      refine hK.out _ _ ?_
      clear hK K
      try simp only [Act.put, List.setIfInBounds_toArray, List.set_cons_zero, List.set_cons_succ]
      refine till_end (by kernel_rfl) ?_ _
      have Kb := Lib.hid (show KB w1.heap.size b (([] : S) ++ segE [[110, 101, 116, 119, 111, 114, 107], p.name] ++ segE [[101, 100, 105, 116], wd, [119, 105, 116, 104, 105, 110], Lib.decDigits p.within.toNat]) (0 + 2003 + 2003) w1 v3 from k)
      clear S0 k H
      have Kb := Lib.hid (show KB w1.heap.size b (([] : S) ++ segE [[110, 101, 116, 119, 111, 114, 107], p.name] ++ segE [[101, 100, 105, 116], deW.getD p.edit.toNat [], [119, 105, 116, 104, 105, 110], Lib.decDigits p.within.toNat]) (0 + 2003 + 2003) w1 v3 from by rw [← HWD.out]; exact Kb.out)
      clear q2 hwl
      clear HWD
      have K9 := Lib.hid (show KB w1.heap.size b (canon1 p) (10000) w1 v3 from by have h := Kb.out.more (M := 10000) (by omega); rw [show ([] : S) ++ segE [[110, 101, 116, 119, 111, 114, 107], p.name] ++ segE [[101, 100, 105, 116], deW.getD p.edit.toNat [], [119, 105, 116, 104, 105, 110], Lib.decDigits p.within.toNat] = canon1 p from by unfold canon1 editP; rw [if_neg hw0.out, List.nil_append]] at h; exact h)
      clear Kb
      go_wp2
      go_meet
      exact K9
  case rest =>
    clear Kb
    have Kb := hcut
    clear hcut
    generalize wc = t4 at *
    go_upto_region 7 with fail
    have p3 : t4.cell? ⟨g, 3, none⟩ = some (.int .i64 p.delete) := pf_cell (Kb.out.pf HP.out hgB) rfl
    obtain ⟨tb, off, cap, q0, q2⟩ := word_at' (HE.out.keep Kb.out.below) (row := 0) (T := deW) rfl (n := p.delete) ⟨by omega, by show _ < (3 : Int); omega⟩
    have q1 : t4.cell? ⟨0, 0, none⟩ = some (.slice (some ⟨tb, off, none⟩) 3 cap) := q0
    clear q0
    obtain ⟨wd, hwd⟩ : ∃ z, z = deW.getD p.delete.toNat [] := ⟨_, rfl⟩
    rw [← hwd] at q2
    have HWD := Lib.hid hwd
    have hwl : wd.length ≤ 40 := by rw [hwd]; exact wlen_deW _
    clear hwd
    have H := part_lit Kb.out [[100, 101, 108, 101, 116, 101], wd] (by simp) (glue2_len (by decide) (by omega)) (by omega)
    have H := Lib.hid (show Calls Tryz.prog 51 #[.slice (some ⟨t4.heap.size, 0, none⟩) 2 2, .pointer (some ⟨b, 0, none⟩)] (t4.alloc (.cells #[.string ⟨#[100, 101, 108, 101, 116, 101]⟩, .string (bs (wd))] 9)) (fun e w' => e = .returned (.tuple #[]) ∧ KB w1.heap.size b (canon1 p ++ segE [[100, 101, 108, 101, 116, 101], wd]) (10000 + 2003) w1 w') from H)
    go_wp2_with (go_at_call 51; refine (H.out).mono ?_; rintro e5 v5 ⟨rfl, k⟩; refine Hid.out ?_)
    refine Lib.hid ?_
    have Kb := Lib.hid (show KB w1.heap.size b (canon1 p ++ segE [[100, 101, 108, 101, 116, 101], wd]) (10000 + 2003) w1 v5 from k)
    clear k H
    have Kb := Lib.hid (show KB w1.heap.size b (canon1 p ++ segE [[100, 101, 108, 101, 116, 101], deW.getD p.delete.toNat []]) (10000 + 2003) w1 v5 from by rw [← HWD.out]; exact Kb.out)
    clear q2 hwl
    clear HWD
    clear p3 q1
    go_upto_region 8 with fail
    have p4 : v5.cell? ⟨g, 4, none⟩ = some (.bool p.react) := pf_cell (Kb.out.pf HP.out hgB) rfl
    have HY := Lib.hid (p_yn (HE.out.keep Kb.out.below) p.react)
    have H := part_lit Kb.out [[114, 101, 97, 99, 116], ynw p.react] (by simp) (glue2_len (by decide) (Nat.le_trans (ynw3 _) (by decide))) (by omega)
    have H := Lib.hid (show Calls Tryz.prog 51 #[.slice (some ⟨v5.heap.size, 0, none⟩) 2 2, .pointer (some ⟨b, 0, none⟩)] (v5.alloc (.cells #[.string ⟨#[114, 101, 97, 99, 116]⟩, .string (bs (ynw p.react))] 9)) (fun e w' => e = .returned (.tuple #[]) ∧ KB w1.heap.size b (canon1 p ++ segE [[100, 101, 108, 101, 116, 101], deW.getD p.delete.toNat []] ++ segE [[114, 101, 97, 99, 116], ynw p.react]) (10000 + 2003 + 2003) w1 w') from H)
    go_wp2_with (go_at_call 55; refine (HY.out).mono ?_; rintro _ _ ⟨rfl, rfl⟩; refine Hid.out ?_)
    refine Lib.hid ?_
    go_wp2_with (go_at_call 51; refine (H.out).mono ?_; rintro e6 v6 ⟨rfl, k⟩; refine Hid.out ?_)
    refine Lib.hid ?_
    have Kb := Lib.hid (show KB w1.heap.size b (canon1 p ++ segE [[100, 101, 108, 101, 116, 101], deW.getD p.delete.toNat []] ++ segE [[114, 101, 97, 99, 116], ynw p.react]) (10000 + 2003 + 2003) w1 v6 from k)
    clear k H
    clear p4 HY
    go_upto_region 9 with fail
    have p5 : v6.cell? ⟨g, 5, none⟩ = some (.int .i64 p.thread) := pf_cell (Kb.out.pf HP.out hgB) rfl
    obtain ⟨tb, off, cap, q0, q2⟩ := word_at' (HE.out.keep Kb.out.below) (row := 1) (T := thW) rfl (n := p.thread) ⟨by omega, by show _ < (3 : Int); omega⟩
    have q1 : v6.cell? ⟨0, 1, none⟩ = some (.slice (some ⟨tb, off, none⟩) 3 cap) := q0
    clear q0
    obtain ⟨wd, hwd⟩ : ∃ z, z = thW.getD p.thread.toNat [] := ⟨_, rfl⟩
    rw [← hwd] at q2
    have HWD := Lib.hid hwd
    have hwl : wd.length ≤ 40 := by rw [hwd]; exact wlen_thW _
    clear hwd
    have H := part_lit Kb.out [[116, 104, 114, 101, 97, 100], wd] (by simp) (glue2_len (by decide) (by omega)) (by omega)
    have H := Lib.hid (show Calls Tryz.prog 51 #[.slice (some ⟨v6.heap.size, 0, none⟩) 2 2, .pointer (some ⟨b, 0, none⟩)] (v6.alloc (.cells #[.string ⟨#[116, 104, 114, 101, 97, 100]⟩, .string (bs (wd))] 9)) (fun e w' => e = .returned (.tuple #[]) ∧ KB w1.heap.size b (canon1 p ++ segE [[100, 101, 108, 101, 116, 101], deW.getD p.delete.toNat []] ++ segE [[114, 101, 97, 99, 116], ynw p.react] ++ segE [[116, 104, 114, 101, 97, 100], wd]) (10000 + 2003 + 2003 + 2003) w1 w') from H)
    go_wp2_with (go_at_call 51; refine (H.out).mono ?_; rintro e7 v7 ⟨rfl, k⟩; refine Hid.out ?_)
    refine Lib.hid ?_
    have Kb := Lib.hid (show KB w1.heap.size b (canon1 p ++ segE [[100, 101, 108, 101, 116, 101], deW.getD p.delete.toNat []] ++ segE [[114, 101, 97, 99, 116], ynw p.react] ++ segE [[116, 104, 114, 101, 97, 100], wd]) (10000 + 2003 + 2003 + 2003) w1 v7 from k)
    clear k H
    have Kb := Lib.hid (show KB w1.heap.size b (canon1 p ++ segE [[100, 101, 108, 101, 116, 101], deW.getD p.delete.toNat []] ++ segE [[114, 101, 97, 99, 116], ynw p.react] ++ segE [[116, 104, 114, 101, 97, 100], thW.getD p.thread.toNat []]) (10000 + 2003 + 2003 + 2003) w1 v7 from by rw [← HWD.out]; exact Kb.out)
    clear q2 hwl
    clear HWD
    clear p5 q1
    go_upto_region 10 with fail
    have p6 : v7.cell? ⟨g, 6, none⟩ = some (.bool p.quote) := pf_cell (Kb.out.pf HP.out hgB) rfl
    have HY := Lib.hid (p_yn (HE.out.keep Kb.out.below) p.quote)
    have H := part_lit Kb.out [[113, 117, 111, 116, 101], ynw p.quote] (by simp) (glue2_len (by decide) (Nat.le_trans (ynw3 _) (by decide))) (by omega)
    have H := Lib.hid (show Calls Tryz.prog 51 #[.slice (some ⟨v7.heap.size, 0, none⟩) 2 2, .pointer (some ⟨b, 0, none⟩)] (v7.alloc (.cells #[.string ⟨#[113, 117, 111, 116, 101]⟩, .string (bs (ynw p.quote))] 9)) (fun e w' => e = .returned (.tuple #[]) ∧ KB w1.heap.size b (canon1 p ++ segE [[100, 101, 108, 101, 116, 101], deW.getD p.delete.toNat []] ++ segE [[114, 101, 97, 99, 116], ynw p.react] ++ segE [[116, 104, 114, 101, 97, 100], thW.getD p.thread.toNat []] ++ segE [[113, 117, 111, 116, 101], ynw p.quote]) (10000 + 2003 + 2003 + 2003 + 2003) w1 w') from H)
    go_wp2_with (go_at_call 55; refine (HY.out).mono ?_; rintro _ _ ⟨rfl, rfl⟩; refine Hid.out ?_)
    refine Lib.hid ?_
    go_wp2_with (go_at_call 51; refine (H.out).mono ?_; rintro e8 v8 ⟨rfl, k⟩; refine Hid.out ?_)
    refine Lib.hid ?_
    have Kb := Lib.hid (show KB w1.heap.size b (canon1 p ++ segE [[100, 101, 108, 101, 116, 101], deW.getD p.delete.toNat []] ++ segE [[114, 101, 97, 99, 116], ynw p.react] ++ segE [[116, 104, 114, 101, 97, 100], thW.getD p.thread.toNat []] ++ segE [[113, 117, 111, 116, 101], ynw p.quote]) (10000 + 2003 + 2003 + 2003 + 2003) w1 v8 from k)
    clear k H
    clear p6 HY
    go_upto_region 11 with fail
    have p7 : v8.cell? ⟨g, 7, none⟩ = some (.bool p.mention) := pf_cell (Kb.out.pf HP.out hgB) rfl
    have HY := Lib.hid (p_yn (HE.out.keep Kb.out.below) p.mention)
    have H := part_lit Kb.out [[109, 101, 110, 116, 105, 111, 110], ynw p.mention] (by simp) (glue2_len (by decide) (Nat.le_trans (ynw3 _) (by decide))) (by omega)
    have H := Lib.hid (show Calls Tryz.prog 51 #[.slice (some ⟨v8.heap.size, 0, none⟩) 2 2, .pointer (some ⟨b, 0, none⟩)] (v8.alloc (.cells #[.string ⟨#[109, 101, 110, 116, 105, 111, 110]⟩, .string (bs (ynw p.mention))] 9)) (fun e w' => e = .returned (.tuple #[]) ∧ KB w1.heap.size b (canon1 p ++ segE [[100, 101, 108, 101, 116, 101], deW.getD p.delete.toNat []] ++ segE [[114, 101, 97, 99, 116], ynw p.react] ++ segE [[116, 104, 114, 101, 97, 100], thW.getD p.thread.toNat []] ++ segE [[113, 117, 111, 116, 101], ynw p.quote] ++ segE [[109, 101, 110, 116, 105, 111, 110], ynw p.mention]) (10000 + 2003 + 2003 + 2003 + 2003 + 2003) w1 w') from H)
    go_wp2_with (go_at_call 55; refine (HY.out).mono ?_; rintro _ _ ⟨rfl, rfl⟩; refine Hid.out ?_)
    refine Lib.hid ?_
    go_wp2_with (go_at_call 51; refine (H.out).mono ?_; rintro e9 v9 ⟨rfl, k⟩; refine Hid.out ?_)
    refine Lib.hid ?_
    have Kb := Lib.hid (show KB w1.heap.size b (canon1 p ++ segE [[100, 101, 108, 101, 116, 101], deW.getD p.delete.toNat []] ++ segE [[114, 101, 97, 99, 116], ynw p.react] ++ segE [[116, 104, 114, 101, 97, 100], thW.getD p.thread.toNat []] ++ segE [[113, 117, 111, 116, 101], ynw p.quote] ++ segE [[109, 101, 110, 116, 105, 111, 110], ynw p.mention]) (10000 + 2003 + 2003 + 2003 + 2003 + 2003) w1 v9 from k)
    clear k H
    clear p7 HY
    go_upto_region 12 with fail
    have p8 : v9.cell? ⟨g, 8, none⟩ = some (.int .i64 p.size) := pf_cell (Kb.out.pf HP.out hgB) rfl
    have p9 : v9.cell? ⟨g, 9, none⟩ = some (.int .i64 p.parts) := pf_cell (Kb.out.pf HP.out hgB) rfl
    have Kb := Lib.hid (Kb.out.keep (below_drew _))
    have S0 : v9.drew.cell? ⟨g, 8, none⟩ = some (.int .i64 p.size) ∧ v9.drew.cell? ⟨g, 9, none⟩ = some (.int .i64 p.parts) := ⟨p8, p9⟩
    refine region_tillD 8 (fun wx => wx.cell? ⟨g, 8, none⟩ = some (.int .i64 p.size) ∧ wx.cell? ⟨g, 9, none⟩ = some (.int .i64 p.parts)) (by kernel_rfl) ?_
    refine till_take 0 40 false (v := ?v0s) (by kernel_rfl) (by kernel_rfl) (by kernel_rfl) (by kernel_rfl) (by kernel_rfl) (fun _ _ _ h => h) ?hw0s S0 ?hy0s ?rest0s
    case hw0s => (simp only [List.getElem?_toArray, List.getElem?_cons_zero, Option.elim]; rfl)
    case hy0s => (simp only [List.getElem?_toArray, List.getElem?_cons_zero, Option.elim]; intro wx _; go_simp; with_reducible rfl)
    simp only [dstOf, List.getElem?_toArray, List.getElem?_cons_zero, Option.bind, Act.put, List.setIfInBounds_toArray, List.set_cons_zero, List.set_cons_succ]
    refine till_take 1 40 false (v := ?v1s) (by kernel_rfl) (by kernel_rfl) (by kernel_rfl) (by kernel_rfl) (by kernel_rfl) (fun _ _ _ h => h) ?hw1s S0 ?hy1s ?rest1s
    case hw1s => (simp only [List.getElem?_toArray, List.getElem?_cons_zero, List.getElem?_cons_succ, Option.elim]; rfl)
    case hy1s => (simp only [List.getElem?_toArray, List.getElem?_cons_zero, List.getElem?_cons_succ, Option.elim]; intro wx _; go_simp; with_reducible rfl)
    simp only [dstOf, List.getElem?_toArray, List.getElem?_cons_zero, List.getElem?_cons_succ, Option.bind, Act.put, List.setIfInBounds_toArray, List.set_cons_zero, List.set_cons_succ]
    refine till_take 2 40 true (v := ?v2s) (by kernel_rfl) (by kernel_rfl) (by kernel_rfl) (by kernel_rfl) (by kernel_rfl) (fun _ _ _ h => h) ?hw2s S0 ?hy2s ?rest2s
    case hw2s => (simp only [List.getElem?_toArray, List.getElem?_cons_zero, List.getElem?_cons_succ, Option.elim]; rfl)
    case hy2s => (simp only [List.getElem?_toArray, List.getElem?_cons_zero, List.getElem?_cons_succ, Option.elim]; intro wx hx; have x0 := (hx trivial).1; have x1 := (hx trivial).2; go_simp; with_reducible rfl)
    simp only [dstOf, List.getElem?_toArray, List.getElem?_cons_zero, List.getElem?_cons_succ, Option.bind, Act.put, List.setIfInBounds_toArray, List.set_cons_zero, List.set_cons_succ]
    refine till_take 4 40 false (v := ?v4s) (by kernel_rfl) (by kernel_rfl) (by kernel_rfl) (by kernel_rfl) (by kernel_rfl) (fun _ _ _ h => h) ?hw4s S0 ?hy4s ?rest4s
    case hw4s => (simp only [List.getElem?_toArray, List.getElem?_cons_zero, List.getElem?_cons_succ, Option.elim]; rfl)
    case hy4s => (simp only [List.getElem?_toArray, List.getElem?_cons_zero, List.getElem?_cons_succ, Option.elim]; intro wx _; go_simp; with_reducible rfl)
    simp only [dstOf, List.getElem?_toArray, List.getElem?_cons_zero, List.getElem?_cons_succ, Option.bind, Act.put, List.setIfInBounds_toArray, List.set_cons_zero, List.set_cons_succ]
    refine till_take 5 40 true (v := ?v5s) (by kernel_rfl) (by kernel_rfl) (by kernel_rfl) (by kernel_rfl) (by kernel_rfl) (fun _ _ _ h => h) ?hw5s S0 ?hy5s ?rest5s
    case hw5s => (simp only [List.getElem?_toArray, List.getElem?_cons_zero, List.getElem?_cons_succ, Option.elim]; rfl)
    case hy5s => (simp only [List.getElem?_toArray, List.getElem?_cons_zero, List.getElem?_cons_succ, Option.elim]; intro wx hx; have x0 := (hx trivial).1; have x1 := (hx trivial).2; go_simp; with_reducible rfl)
    simp only [dstOf, List.getElem?_toArray, List.getElem?_cons_zero, List.getElem?_cons_succ, Option.bind, Act.put, List.setIfInBounds_toArray, List.set_cons_zero, List.set_cons_succ]
    refine till_before 3 (by kernel_rfl) (fun K hK => ?_)
    simp only [List.getElem?_toArray, List.getElem?_cons_zero, List.getElem?_cons_succ, Option.elim]
    rw [if_pos (by rfl)]
    go_simp
    go_at_call 54
    refine ((p_itoa (n := p.size) (HE.out.keep Kb.out.below) (by omega))).mono ?_
    rintro _ y1 ⟨rfl, bb⟩
    refine hK.out _ _ (⟨below_cell S0.1 bb, below_cell S0.2 bb⟩) ?_
    clear hK K
    try simp only [Act.put, List.setIfInBounds_toArray, List.set_cons_zero, List.set_cons_succ]
    replace S0 := (show y1.cell? ⟨g, 8, none⟩ = some (.int .i64 p.size) ∧ y1.cell? ⟨g, 9, none⟩ = some (.int .i64 p.parts) from ⟨below_cell S0.1 bb, below_cell S0.2 bb⟩)
    have K2 := Lib.hid (Kb.out.keep bb)
    clear Kb bb
    have Kb := K2
    clear K2
    refine till_before 6 (by kernel_rfl) (fun K hK => ?_)
    simp only [List.getElem?_toArray, List.getElem?_cons_zero, List.getElem?_cons_succ, Option.elim]
    rw [if_pos (by rfl)]
    go_simp
    go_at_call 54
    refine ((p_itoa (n := p.parts) (HE.out.keep Kb.out.below) (by omega))).mono ?_
    rintro _ y2 ⟨rfl, bb⟩
    refine hK.out _ _ (⟨below_cell S0.1 bb, below_cell S0.2 bb⟩) ?_
    clear hK K
    try simp only [Act.put, List.setIfInBounds_toArray, List.set_cons_zero, List.set_cons_succ]
    replace S0 := (show y2.cell? ⟨g, 8, none⟩ = some (.int .i64 p.size) ∧ y2.cell? ⟨g, 9, none⟩ = some (.int .i64 p.parts) from ⟨below_cell S0.1 bb, below_cell S0.2 bb⟩)
    have K2 := Lib.hid (Kb.out.keep bb)
    clear Kb bb
    have Kb := K2
    clear K2
    have H := part_lit Kb.out [[115, 105, 122, 101], Lib.decDigits p.size.toNat, [112, 97, 114, 116, 115], Lib.decDigits p.parts.toNat] (by simp) (glue4_len (by decide) (Nat.le_trans (dec10 (n := p.size) (by omega)) (by decide)) (by decide) (Nat.le_trans (dec10 (n := p.parts) (by omega)) (by decide))) (by omega)
    have H := Lib.hid (show Calls Tryz.prog 51 #[.slice (some ⟨y2.heap.size, 0, none⟩) 4 4, .pointer (some ⟨b, 0, none⟩)] (y2.alloc (.cells #[.string ⟨#[115, 105, 122, 101]⟩, .string (bs (Lib.decDigits p.size.toNat)), .string ⟨#[112, 97, 114, 116, 115]⟩, .string (bs (Lib.decDigits p.parts.toNat))] 9)) (fun e w' => e = .returned (.tuple #[]) ∧ KB w1.heap.size b (canon1 p ++ segE [[100, 101, 108, 101, 116, 101], deW.getD p.delete.toNat []] ++ segE [[114, 101, 97, 99, 116], ynw p.react] ++ segE [[116, 104, 114, 101, 97, 100], thW.getD p.thread.toNat []] ++ segE [[113, 117, 111, 116, 101], ynw p.quote] ++ segE [[109, 101, 110, 116, 105, 111, 110], ynw p.mention] ++ segE [[115, 105, 122, 101], Lib.decDigits p.size.toNat, [112, 97, 114, 116, 115], Lib.decDigits p.parts.toNat]) (10000 + 2003 + 2003 + 2003 + 2003 + 2003 + 2003) w1 w') from H)
    refine till_before 7 (by kernel_rfl) (fun K hK => ?_)
    simp only [List.getElem?_toArray, List.getElem?_cons_zero, List.getElem?_cons_succ, Option.elim]
    rw [if_pos (by rfl)]
    go_simp
    refine hK.out _ _ (⟨below_cell S0.1 ((Below.refl _ _).alloc (Nat.le_refl _) _), below_cell S0.2 ((Below.refl _ _).alloc (Nat.le_refl _) _)⟩) ?_
    clear hK K
    try simp only [Act.put, List.setIfInBounds_toArray, List.set_cons_zero, List.set_cons_succ]
    refine till_step 8 (by kernel_rfl) (by kernel_rfl) (fun K hK => ?_)
    simp only [List.getElem?_toArray, List.getElem?_cons_zero, List.getElem?_cons_succ, Option.elim]
    rw [if_pos (by rfl)]
    go_simp
    go_at_call 51
    refine (H.out).mono ?_
    rintro _ v10 ⟨rfl, k⟩
    refine hK.out _ _ ?_
    clear hK K
    try simp only [Act.put, List.setIfInBounds_toArray, List.set_cons_zero, List.set_cons_succ]
    refine till_end (by kernel_rfl) ?_ _
    have Kb := Lib.hid (show KB w1.heap.size b (canon1 p ++ segE [[100, 101, 108, 101, 116, 101], deW.getD p.delete.toNat []] ++ segE [[114, 101, 97, 99, 116], ynw p.react] ++ segE [[116, 104, 114, 101, 97, 100], thW.getD p.thread.toNat []] ++ segE [[113, 117, 111, 116, 101], ynw p.quote] ++ segE [[109, 101, 110, 116, 105, 111, 110], ynw p.mention] ++ segE [[115, 105, 122, 101], Lib.decDigits p.size.toNat, [112, 97, 114, 116, 115], Lib.decDigits p.parts.toNat]) (10000 + 2003 + 2003 + 2003 + 2003 + 2003 + 2003) w1 v10 from k)
    clear S0 k H
    clear p8 p9
    go_upto_region 13 with fail
    have p10 : v10.cell? ⟨g, 10, none⟩ = some (.int .i64 p.files) := pf_cell (Kb.out.pf HP.out hgB) rfl
    go_upto_if 82 with fail
    go_cut [82] from 83 to 94 (fun _ wx => Hid (KB w1.heap.size b (canon2 p) (40000) w1 wx))
    case first =>
      cases htest : (p.files != 0) with
      | true =>
        have hw0 := Lib.hid (show ¬ p.files = 0 by simpa using htest)
        clear htest
        go_upto_region 14 with fail
        have p11 : v10.cell? ⟨g, 11, none⟩ = some (.int .i64 p.bytes) := pf_cell (Kb.out.pf HP.out hgB) rfl
        have p12 : v10.cell? ⟨g, 12, none⟩ = some (.slice ta p.types.length tc) := pf_cell (Kb.out.pf HP.out hgB) rfl
        have Kb := Lib.hid (Kb.out.keep (below_drew _))
        have S0 : v10.drew.cell? ⟨g, 10, none⟩ = some (.int .i64 p.files) ∧ v10.drew.cell? ⟨g, 11, none⟩ = some (.int .i64 p.bytes) ∧ v10.drew.cell? ⟨g, 12, none⟩ = some (.slice ta p.types.length tc) := ⟨p10, p11, p12⟩
        refine region_tillD 11 (fun wx => wx.cell? ⟨g, 10, none⟩ = some (.int .i64 p.files) ∧ wx.cell? ⟨g, 11, none⟩ = some (.int .i64 p.bytes) ∧ wx.cell? ⟨g, 12, none⟩ = some (.slice ta p.types.length tc)) (by kernel_rfl) ?_
        refine till_take 0 40 false (v := ?v0f) (by kernel_rfl) (by kernel_rfl) (by kernel_rfl) (by kernel_rfl) (by kernel_rfl) (fun _ _ _ h => h) ?hw0f S0 ?hy0f ?rest0f
        case hw0f => (simp only [List.getElem?_toArray, List.getElem?_cons_zero, Option.elim]; rfl)
        case hy0f => (simp only [List.getElem?_toArray, List.getElem?_cons_zero, Option.elim]; intro wx _; go_simp; with_reducible rfl)
        simp only [dstOf, List.getElem?_toArray, List.getElem?_cons_zero, Option.bind, Act.put, List.setIfInBounds_toArray, List.set_cons_zero, List.set_cons_succ]
        refine till_take 1 40 false (v := ?v1f) (by kernel_rfl) (by kernel_rfl) (by kernel_rfl) (by kernel_rfl) (by kernel_rfl) (fun _ _ _ h => h) ?hw1f S0 ?hy1f ?rest1f
        case hw1f => (simp only [List.getElem?_toArray, List.getElem?_cons_zero, List.getElem?_cons_succ, Option.elim]; rfl)
        case hy1f => (simp only [List.getElem?_toArray, List.getElem?_cons_zero, List.getElem?_cons_succ, Option.elim]; intro wx _; go_simp; with_reducible rfl)
        simp only [dstOf, List.getElem?_toArray, List.getElem?_cons_zero, List.getElem?_cons_succ, Option.bind, Act.put, List.setIfInBounds_toArray, List.set_cons_zero, List.set_cons_succ]
        refine till_take 2 40 true (v := ?v2f) (by kernel_rfl) (by kernel_rfl) (by kernel_rfl) (by kernel_rfl) (by kernel_rfl) (fun _ _ _ h => h) ?hw2f S0 ?hy2f ?rest2f
        case hw2f => (simp only [List.getElem?_toArray, List.getElem?_cons_zero, List.getElem?_cons_succ, Option.elim]; rfl)
        case hy2f => (simp only [List.getElem?_toArray, List.getElem?_cons_zero, List.getElem?_cons_succ, Option.elim]; intro wx hx; have x0 := (hx trivial).1; have x1 := (hx trivial).2.1; have x2 := (hx trivial).2.2; go_simp; with_reducible rfl)
        simp only [dstOf, List.getElem?_toArray, List.getElem?_cons_zero, List.getElem?_cons_succ, Option.bind, Act.put, List.setIfInBounds_toArray, List.set_cons_zero, List.set_cons_succ]
        refine till_take 4 40 false (v := ?v4f) (by kernel_rfl) (by kernel_rfl) (by kernel_rfl) (by kernel_rfl) (by kernel_rfl) (fun _ _ _ h => h) ?hw4f S0 ?hy4f ?rest4f
        case hw4f => (simp only [List.getElem?_toArray, List.getElem?_cons_zero, List.getElem?_cons_succ, Option.elim]; rfl)
        case hy4f => (simp only [List.getElem?_toArray, List.getElem?_cons_zero, List.getElem?_cons_succ, Option.elim]; intro wx _; go_simp; with_reducible rfl)
        simp only [dstOf, List.getElem?_toArray, List.getElem?_cons_zero, List.getElem?_cons_succ, Option.bind, Act.put, List.setIfInBounds_toArray, List.set_cons_zero, List.set_cons_succ]
        refine till_take 5 40 true (v := ?v5f) (by kernel_rfl) (by kernel_rfl) (by kernel_rfl) (by kernel_rfl) (by kernel_rfl) (fun _ _ _ h => h) ?hw5f S0 ?hy5f ?rest5f
        case hw5f => (simp only [List.getElem?_toArray, List.getElem?_cons_zero, List.getElem?_cons_succ, Option.elim]; rfl)
        case hy5f => (simp only [List.getElem?_toArray, List.getElem?_cons_zero, List.getElem?_cons_succ, Option.elim]; intro wx hx; have x0 := (hx trivial).1; have x1 := (hx trivial).2.1; have x2 := (hx trivial).2.2; go_simp; with_reducible rfl)
        simp only [dstOf, List.getElem?_toArray, List.getElem?_cons_zero, List.getElem?_cons_succ, Option.bind, Act.put, List.setIfInBounds_toArray, List.set_cons_zero, List.set_cons_succ]
        refine till_take 7 40 false (v := ?v7f) (by kernel_rfl) (by kernel_rfl) (by kernel_rfl) (by kernel_rfl) (by kernel_rfl) (fun _ _ _ h => h) ?hw7f S0 ?hy7f ?rest7f
        case hw7f => (simp only [List.getElem?_toArray, List.getElem?_cons_zero, List.getElem?_cons_succ, Option.elim]; rfl)
        case hy7f => (simp only [List.getElem?_toArray, List.getElem?_cons_zero, List.getElem?_cons_succ, Option.elim]; intro wx _; go_simp; with_reducible rfl)
        simp only [dstOf, List.getElem?_toArray, List.getElem?_cons_zero, List.getElem?_cons_succ, Option.bind, Act.put, List.setIfInBounds_toArray, List.set_cons_zero, List.set_cons_succ]
        refine till_take 8 40 true (v := ?v8f) (by kernel_rfl) (by kernel_rfl) (by kernel_rfl) (by kernel_rfl) (by kernel_rfl) (fun _ _ _ h => h) ?hw8f S0 ?hy8f ?rest8f
        case hw8f => (simp only [List.getElem?_toArray, List.getElem?_cons_zero, List.getElem?_cons_succ, Option.elim]; rfl)
        case hy8f => (simp only [List.getElem?_toArray, List.getElem?_cons_zero, List.getElem?_cons_succ, Option.elim]; intro wx hx; have x0 := (hx trivial).1; have x1 := (hx trivial).2.1; have x2 := (hx trivial).2.2; go_simp; with_reducible rfl)
        simp only [dstOf, List.getElem?_toArray, List.getElem?_cons_zero, List.getElem?_cons_succ, Option.bind, Act.put, List.setIfInBounds_toArray, List.set_cons_zero, List.set_cons_succ]
        refine till_before 3 (by kernel_rfl) (fun K hK => ?_)
        simp only [List.getElem?_toArray, List.getElem?_cons_zero, List.getElem?_cons_succ, Option.elim]
        rw [if_pos (by rfl)]
        go_simp
        go_at_call 54
        refine ((p_itoa (n := p.files) (HE.out.keep Kb.out.below) (by omega))).mono ?_
        rintro _ y1 ⟨rfl, bb⟩
        refine hK.out _ _ (⟨below_cell S0.1 bb, below_cell S0.2.1 bb, below_cell S0.2.2 bb⟩) ?_
        clear hK K
        try simp only [Act.put, List.setIfInBounds_toArray, List.set_cons_zero, List.set_cons_succ]
        replace S0 := (show y1.cell? ⟨g, 10, none⟩ = some (.int .i64 p.files) ∧ y1.cell? ⟨g, 11, none⟩ = some (.int .i64 p.bytes) ∧ y1.cell? ⟨g, 12, none⟩ = some (.slice ta p.types.length tc) from ⟨below_cell S0.1 bb, below_cell S0.2.1 bb, below_cell S0.2.2 bb⟩)
        have K2 := Lib.hid (Kb.out.keep bb)
        clear Kb bb
        have Kb := K2
        clear K2
        refine till_before 6 (by kernel_rfl) (fun K hK => ?_)
        simp only [List.getElem?_toArray, List.getElem?_cons_zero, List.getElem?_cons_succ, Option.elim]
        rw [if_pos (by rfl)]
        go_simp
        go_at_call 54
        refine ((p_itoa (n := p.bytes) (HE.out.keep Kb.out.below) (by omega))).mono ?_
        rintro _ y2 ⟨rfl, bb⟩
        refine hK.out _ _ (⟨below_cell S0.1 bb, below_cell S0.2.1 bb, below_cell S0.2.2 bb⟩) ?_
        clear hK K
        try simp only [Act.put, List.setIfInBounds_toArray, List.set_cons_zero, List.set_cons_succ]
        replace S0 := (show y2.cell? ⟨g, 10, none⟩ = some (.int .i64 p.files) ∧ y2.cell? ⟨g, 11, none⟩ = some (.int .i64 p.bytes) ∧ y2.cell? ⟨g, 12, none⟩ = some (.slice ta p.types.length tc) from ⟨below_cell S0.1 bb, below_cell S0.2.1 bb, below_cell S0.2.2 bb⟩)
        have K2 := Lib.hid (Kb.out.keep bb)
        clear Kb bb
        have Kb := K2
        clear K2
        refine till_before 9 (by kernel_rfl) (fun K hK => ?_)
        simp only [List.getElem?_toArray, List.getElem?_cons_zero, List.getElem?_cons_succ, Option.elim]
        rw [if_pos (by rfl)]
        go_simp
        go_at_call 53
        refine ((join_any (HT.out.keep Kb.out.below) (by omega) (by omega))).mono ?_
        rintro _ y3 ⟨rfl, bb⟩
        refine hK.out _ _ (⟨below_cell S0.1 bb, below_cell S0.2.1 bb, below_cell S0.2.2 bb⟩) ?_
        clear hK K
        try simp only [Act.put, List.setIfInBounds_toArray, List.set_cons_zero, List.set_cons_succ]
        replace S0 := (show y3.cell? ⟨g, 10, none⟩ = some (.int .i64 p.files) ∧ y3.cell? ⟨g, 11, none⟩ = some (.int .i64 p.bytes) ∧ y3.cell? ⟨g, 12, none⟩ = some (.slice ta p.types.length tc) from ⟨below_cell S0.1 bb, below_cell S0.2.1 bb, below_cell S0.2.2 bb⟩)
        have K2 := Lib.hid (Kb.out.keep bb)
        clear Kb bb
        have Kb := K2
        clear K2
        have H := part_lit Kb.out [[102, 105, 108, 101, 115], Lib.decDigits p.files.toNat, [98, 121, 116, 101, 115], Lib.decDigits p.bytes.toNat, [116, 121, 112, 101, 115], glue p.types] (by simp) (glue6_len (by decide) (Nat.le_trans (dec10 (n := p.files) (by omega)) (by decide)) (by decide) (Nat.le_trans (dec10 (n := p.bytes) (by omega)) (by decide)) (by decide) (by omega)) (by omega)
        have H := Lib.hid (show Calls Tryz.prog 51 #[.slice (some ⟨y3.heap.size, 0, none⟩) 6 6, .pointer (some ⟨b, 0, none⟩)] (y3.alloc (.cells #[.string ⟨#[102, 105, 108, 101, 115]⟩, .string (bs (Lib.decDigits p.files.toNat)), .string ⟨#[98, 121, 116, 101, 115]⟩, .string (bs (Lib.decDigits p.bytes.toNat)), .string ⟨#[116, 121, 112, 101, 115]⟩, .string (bs (glue p.types))] 9)) (fun e w' => e = .returned (.tuple #[]) ∧ KB w1.heap.size b (canon1 p ++ segE [[100, 101, 108, 101, 116, 101], deW.getD p.delete.toNat []] ++ segE [[114, 101, 97, 99, 116], ynw p.react] ++ segE [[116, 104, 114, 101, 97, 100], thW.getD p.thread.toNat []] ++ segE [[113, 117, 111, 116, 101], ynw p.quote] ++ segE [[109, 101, 110, 116, 105, 111, 110], ynw p.mention] ++ segE [[115, 105, 122, 101], Lib.decDigits p.size.toNat, [112, 97, 114, 116, 115], Lib.decDigits p.parts.toNat] ++ segE [[102, 105, 108, 101, 115], Lib.decDigits p.files.toNat, [98, 121, 116, 101, 115], Lib.decDigits p.bytes.toNat, [116, 121, 112, 101, 115], glue p.types]) (10000 + 2003 + 2003 + 2003 + 2003 + 2003 + 2003 + 2003) w1 w') from H)
        refine till_before 10 (by kernel_rfl) (fun K hK => ?_)
        simp only [List.getElem?_toArray, List.getElem?_cons_zero, List.getElem?_cons_succ, Option.elim]
        rw [if_pos (by rfl)]
        go_simp
        refine hK.out _ _ (⟨below_cell S0.1 ((Below.refl _ _).alloc (Nat.le_refl _) _), below_cell S0.2.1 ((Below.refl _ _).alloc (Nat.le_refl _) _), below_cell S0.2.2 ((Below.refl _ _).alloc (Nat.le_refl _) _)⟩) ?_
        clear hK K
        try simp only [Act.put, List.setIfInBounds_toArray, List.set_cons_zero, List.set_cons_succ]
        refine till_step 11 (by kernel_rfl) (by kernel_rfl) (fun K hK => ?_)
        simp only [List.getElem?_toArray, List.getElem?_cons_zero, List.getElem?_cons_succ, Option.elim]
        rw [if_pos (by rfl)]
        go_simp
        go_at_call 51
        refine (H.out).mono ?_
        rintro _ v11 ⟨rfl, k⟩
        refine hK.out _ _ ?_
        clear hK K
        try simp only [Act.put, List.setIfInBounds_toArray, List.set_cons_zero, List.set_cons_succ]
        refine till_end (by kernel_rfl) ?_ _
        have Kb := Lib.hid (show KB w1.heap.size b (canon1 p ++ segE [[100, 101, 108, 101, 116, 101], deW.getD p.delete.toNat []] ++ segE [[114, 101, 97, 99, 116], ynw p.react] ++ segE [[116, 104, 114, 101, 97, 100], thW.getD p.thread.toNat []] ++ segE [[113, 117, 111, 116, 101], ynw p.quote] ++ segE [[109, 101, 110, 116, 105, 111, 110], ynw p.mention] ++ segE [[115, 105, 122, 101], Lib.decDigits p.size.toNat, [112, 97, 114, 116, 115], Lib.decDigits p.parts.toNat] ++ segE [[102, 105, 108, 101, 115], Lib.decDigits p.files.toNat, [98, 121, 116, 101, 115], Lib.decDigits p.bytes.toNat, [116, 121, 112, 101, 115], glue p.types]) (10000 + 2003 + 2003 + 2003 + 2003 + 2003 + 2003 + 2003) w1 v11 from k)
        clear S0 k H
        have K9 := Lib.hid (show KB w1.heap.size b (canon2 p) (40000) w1 v11 from by have h := Kb.out.more (M := 40000) (by omega); rw [show canon1 p ++ segE [[100, 101, 108, 101, 116, 101], deW.getD p.delete.toNat []] ++ segE [[114, 101, 97, 99, 116], ynw p.react] ++ segE [[116, 104, 114, 101, 97, 100], thW.getD p.thread.toNat []] ++ segE [[113, 117, 111, 116, 101], ynw p.quote] ++ segE [[109, 101, 110, 116, 105, 111, 110], ynw p.mention] ++ segE [[115, 105, 122, 101], Lib.decDigits p.size.toNat, [112, 97, 114, 116, 115], Lib.decDigits p.parts.toNat] ++ segE [[102, 105, 108, 101, 115], Lib.decDigits p.files.toNat, [98, 121, 116, 101, 115], Lib.decDigits p.bytes.toNat, [116, 121, 112, 101, 115], glue p.types] = canon2 p from by unfold canon2 filesP; rw [if_neg hw0.out]] at h; exact h)
        clear Kb
        go_wp2
        go_meet
        exact K9
      | false =>
        have hw0 := Lib.hid (show p.files = 0 by simpa using htest)
        clear htest
        have K9 := Lib.hid (show KB w1.heap.size b (canon2 p) (40000) w1 v10 from by have h := Kb.out.more (M := 40000) (by omega); rw [show canon1 p ++ segE [[100, 101, 108, 101, 116, 101], deW.getD p.delete.toNat []] ++ segE [[114, 101, 97, 99, 116], ynw p.react] ++ segE [[116, 104, 114, 101, 97, 100], thW.getD p.thread.toNat []] ++ segE [[113, 117, 111, 116, 101], ynw p.quote] ++ segE [[109, 101, 110, 116, 105, 111, 110], ynw p.mention] ++ segE [[115, 105, 122, 101], Lib.decDigits p.size.toNat, [112, 97, 114, 116, 115], Lib.decDigits p.parts.toNat] = canon2 p from by unfold canon2 filesP; rw [if_pos hw0.out, List.append_nil]] at h; exact h)
        clear Kb
        go_wp2
        go_meet
        exact K9
    case rest =>
      clear Kb
      have Kb := hcut
      clear hcut
      generalize wc = t12 at *
      go_upto_region 15 with fail
      have p13 : t12.cell? ⟨g, 13, none⟩ = some (.int .i64 p.join) := pf_cell (Kb.out.pf HP.out hgB) rfl
      obtain ⟨tb, off, cap, q0, q2⟩ := word_at' (HE.out.keep Kb.out.below) (row := 2) (T := joW) rfl (n := p.join) ⟨by omega, by show _ < (3 : Int); omega⟩
      have q1 : t12.cell? ⟨0, 2, none⟩ = some (.slice (some ⟨tb, off, none⟩) 3 cap) := q0
      clear q0
      obtain ⟨wd, hwd⟩ : ∃ z, z = joW.getD p.join.toNat [] := ⟨_, rfl⟩
      rw [← hwd] at q2
      have HWD := Lib.hid hwd
      have hwl : wd.length ≤ 40 := by rw [hwd]; exact wlen_joW _
      clear hwd
      have H := part_lit Kb.out [[106, 111, 105, 110], wd] (by simp) (glue2_len (by decide) (by omega)) (by omega)
      have H := Lib.hid (show Calls Tryz.prog 51 #[.slice (some ⟨t12.heap.size, 0, none⟩) 2 2, .pointer (some ⟨b, 0, none⟩)] (t12.alloc (.cells #[.string ⟨#[106, 111, 105, 110]⟩, .string (bs (wd))] 9)) (fun e w' => e = .returned (.tuple #[]) ∧ KB w1.heap.size b (canon2 p ++ segE [[106, 111, 105, 110], wd]) (40000 + 2003) w1 w') from H)
      go_wp2_with (go_at_call 51; refine (H.out).mono ?_; rintro e13 v13 ⟨rfl, k⟩; refine Hid.out ?_)
      refine Lib.hid ?_
      have Kb := Lib.hid (show KB w1.heap.size b (canon2 p ++ segE [[106, 111, 105, 110], wd]) (40000 + 2003) w1 v13 from k)
      clear k H
      have Kb := Lib.hid (show KB w1.heap.size b (canon2 p ++ segE [[106, 111, 105, 110], joW.getD p.join.toNat []]) (40000 + 2003) w1 v13 from by rw [← HWD.out]; exact Kb.out)
      clear q2 hwl
      clear HWD
      clear p13 q1
      go_upto_region 16 with fail
      have p14 : v13.cell? ⟨g, 14, none⟩ = some (.int .i64 p.history) := pf_cell (Kb.out.pf HP.out hgB) rfl
      obtain ⟨tb, off, cap, q0, q2⟩ := word_at' (HE.out.keep Kb.out.below) (row := 3) (T := hiW) rfl (n := p.history) ⟨by omega, by show _ < (2 : Int); omega⟩
      have q1 : v13.cell? ⟨0, 3, none⟩ = some (.slice (some ⟨tb, off, none⟩) 2 cap) := q0
      clear q0
      obtain ⟨wd, hwd⟩ : ∃ z, z = hiW.getD p.history.toNat [] := ⟨_, rfl⟩
      rw [← hwd] at q2
      have HWD := Lib.hid hwd
      have hwl : wd.length ≤ 40 := by rw [hwd]; exact wlen_hiW _
      clear hwd
      have H := part_lit Kb.out [[104, 105, 115, 116, 111, 114, 121], wd] (by simp) (glue2_len (by decide) (by omega)) (by omega)
      have H := Lib.hid (show Calls Tryz.prog 51 #[.slice (some ⟨v13.heap.size, 0, none⟩) 2 2, .pointer (some ⟨b, 0, none⟩)] (v13.alloc (.cells #[.string ⟨#[104, 105, 115, 116, 111, 114, 121]⟩, .string (bs (wd))] 9)) (fun e w' => e = .returned (.tuple #[]) ∧ KB w1.heap.size b (canon2 p ++ segE [[106, 111, 105, 110], joW.getD p.join.toNat []] ++ segE [[104, 105, 115, 116, 111, 114, 121], wd]) (40000 + 2003 + 2003) w1 w') from H)
      go_wp2_with (go_at_call 51; refine (H.out).mono ?_; rintro e14 v14 ⟨rfl, k⟩; refine Hid.out ?_)
      refine Lib.hid ?_
      have Kb := Lib.hid (show KB w1.heap.size b (canon2 p ++ segE [[106, 111, 105, 110], joW.getD p.join.toNat []] ++ segE [[104, 105, 115, 116, 111, 114, 121], wd]) (40000 + 2003 + 2003) w1 v14 from k)
      clear k H
      have Kb := Lib.hid (show KB w1.heap.size b (canon2 p ++ segE [[106, 111, 105, 110], joW.getD p.join.toNat []] ++ segE [[104, 105, 115, 116, 111, 114, 121], hiW.getD p.history.toNat []]) (40000 + 2003 + 2003) w1 v14 from by rw [← HWD.out]; exact Kb.out)
      clear q2 hwl
      clear HWD
      clear p14 q1
      go_upto_region 17 with fail
      have p15 : v14.cell? ⟨g, 15, none⟩ = some (.int .i64 p.remove) := pf_cell (Kb.out.pf HP.out hgB) rfl
      obtain ⟨tb, off, cap, q0, q2⟩ := word_at' (HE.out.keep Kb.out.below) (row := 4) (T := reW) rfl (n := p.remove) ⟨by omega, by show _ < (2 : Int); omega⟩
      have q1 : v14.cell? ⟨0, 4, none⟩ = some (.slice (some ⟨tb, off, none⟩) 2 cap) := q0
      clear q0
      obtain ⟨wd, hwd⟩ : ∃ z, z = reW.getD p.remove.toNat [] := ⟨_, rfl⟩
      rw [← hwd] at q2
      have HWD := Lib.hid hwd
      have hwl : wd.length ≤ 40 := by rw [hwd]; exact wlen_reW _
      clear hwd
      have H := part_lit Kb.out [[114, 101, 109, 111, 118, 101], wd] (by simp) (glue2_len (by decide) (by omega)) (by omega)
      have H := Lib.hid (show Calls Tryz.prog 51 #[.slice (some ⟨v14.heap.size, 0, none⟩) 2 2, .pointer (some ⟨b, 0, none⟩)] (v14.alloc (.cells #[.string ⟨#[114, 101, 109, 111, 118, 101]⟩, .string (bs (wd))] 9)) (fun e w' => e = .returned (.tuple #[]) ∧ KB w1.heap.size b (canon2 p ++ segE [[106, 111, 105, 110], joW.getD p.join.toNat []] ++ segE [[104, 105, 115, 116, 111, 114, 121], hiW.getD p.history.toNat []] ++ segE [[114, 101, 109, 111, 118, 101], wd]) (40000 + 2003 + 2003 + 2003) w1 w') from H)
      go_wp2_with (go_at_call 51; refine (H.out).mono ?_; rintro e15 v15 ⟨rfl, k⟩; refine Hid.out ?_)
      refine Lib.hid ?_
      have Kb := Lib.hid (show KB w1.heap.size b (canon2 p ++ segE [[106, 111, 105, 110], joW.getD p.join.toNat []] ++ segE [[104, 105, 115, 116, 111, 114, 121], hiW.getD p.history.toNat []] ++ segE [[114, 101, 109, 111, 118, 101], wd]) (40000 + 2003 + 2003 + 2003) w1 v15 from k)
      clear k H
      have Kb := Lib.hid (show KB w1.heap.size b (canon2 p ++ segE [[106, 111, 105, 110], joW.getD p.join.toNat []] ++ segE [[104, 105, 115, 116, 111, 114, 121], hiW.getD p.history.toNat []] ++ segE [[114, 101, 109, 111, 118, 101], reW.getD p.remove.toNat []]) (40000 + 2003 + 2003 + 2003) w1 v15 from by rw [← HWD.out]; exact Kb.out)
      clear q2 hwl
      clear HWD
      clear p15 q1
      go_upto_region 18 with fail
      have p17 : v15.cell? ⟨g, 17, none⟩ = some (.bool p.batch) := pf_cell (Kb.out.pf HP.out hgB) rfl
      go_upto_if 123 with fail
      go_cut [123] from 124 to 141 (fun _ wx => Hid (KB w1.heap.size b (canon3 p) (60000) w1 wx))
      case first =>
        cases htest : p.batch with
        | true =>
          have hw0 := Lib.hid htest
          clear htest
          clear p17
          have p16 : v15.cell? ⟨g, 16, none⟩ = some (.int .i64 p.level) := pf_cell (Kb.out.pf HP.out hgB) rfl
          obtain ⟨tb, off, cap, q0, q2⟩ := word_at' (HE.out.keep Kb.out.below) (row := 5) (T := leW) rfl (n := p.level) ⟨by omega, by show _ < (5 : Int); omega⟩
          have q1 : v15.cell? ⟨0, 5, none⟩ = some (.slice (some ⟨tb, off, none⟩) 5 cap) := q0
          clear q0
          obtain ⟨wd, hwd⟩ : ∃ z, z = leW.getD p.level.toNat [] := ⟨_, rfl⟩
          rw [← hwd] at q2
          have HWD := Lib.hid hwd
          have hwl : wd.length ≤ 40 := by rw [hwd]; exact wlen_leW _
          clear hwd
          have H := part_lit Kb.out [[114, 101, 99, 101, 105, 112, 116, 115], wd, [98, 97, 116, 99, 104]] (by simp) (glue3_len (by decide) (by omega) (by decide)) (by omega)
          have H := Lib.hid (show Calls Tryz.prog 51 #[.slice (some ⟨v15.heap.size, 0, none⟩) 3 3, .pointer (some ⟨b, 0, none⟩)] (v15.alloc (.cells #[.string ⟨#[114, 101, 99, 101, 105, 112, 116, 115]⟩, .string (bs (wd)), .string ⟨#[98, 97, 116, 99, 104]⟩] 9)) (fun e w' => e = .returned (.tuple #[]) ∧ KB w1.heap.size b (canon2 p ++ segE [[106, 111, 105, 110], joW.getD p.join.toNat []] ++ segE [[104, 105, 115, 116, 111, 114, 121], hiW.getD p.history.toNat []] ++ segE [[114, 101, 109, 111, 118, 101], reW.getD p.remove.toNat []] ++ segE [[114, 101, 99, 101, 105, 112, 116, 115], wd, [98, 97, 116, 99, 104]]) (40000 + 2003 + 2003 + 2003 + 2003) w1 w') from H)
          go_wp2_with (go_at_call 51; refine (H.out).mono ?_; rintro e16 v16 ⟨rfl, k⟩; refine Hid.out ?_)
          refine Lib.hid ?_
          have Kb := Lib.hid (show KB w1.heap.size b (canon2 p ++ segE [[106, 111, 105, 110], joW.getD p.join.toNat []] ++ segE [[104, 105, 115, 116, 111, 114, 121], hiW.getD p.history.toNat []] ++ segE [[114, 101, 109, 111, 118, 101], reW.getD p.remove.toNat []] ++ segE [[114, 101, 99, 101, 105, 112, 116, 115], wd, [98, 97, 116, 99, 104]]) (40000 + 2003 + 2003 + 2003 + 2003) w1 v16 from k)
          clear k H
          have Kb := Lib.hid (show KB w1.heap.size b (canon2 p ++ segE [[106, 111, 105, 110], joW.getD p.join.toNat []] ++ segE [[104, 105, 115, 116, 111, 114, 121], hiW.getD p.history.toNat []] ++ segE [[114, 101, 109, 111, 118, 101], reW.getD p.remove.toNat []] ++ segE [[114, 101, 99, 101, 105, 112, 116, 115], leW.getD p.level.toNat [], [98, 97, 116, 99, 104]]) (40000 + 2003 + 2003 + 2003 + 2003) w1 v16 from by rw [← HWD.out]; exact Kb.out)
          clear q2 hwl
          clear HWD
          clear p16 q1
          have K9 := Lib.hid (show KB w1.heap.size b (canon3 p) (60000) w1 v16 from by have h := Kb.out.more (M := 60000) (by omega); rw [show canon2 p ++ segE [[106, 111, 105, 110], joW.getD p.join.toNat []] ++ segE [[104, 105, 115, 116, 111, 114, 121], hiW.getD p.history.toNat []] ++ segE [[114, 101, 109, 111, 118, 101], reW.getD p.remove.toNat []] ++ segE [[114, 101, 99, 101, 105, 112, 116, 115], leW.getD p.level.toNat [], [98, 97, 116, 99, 104]] = canon3 p from by unfold canon3 levelP; rw [if_pos hw0.out]] at h; exact h)
          clear Kb
          go_wp2
          go_meet
          exact K9
        | false =>
          have hw0 := Lib.hid (show ¬ p.batch = true by rw [htest]; simp)
          clear htest
          clear p17
          have p16 : v15.cell? ⟨g, 16, none⟩ = some (.int .i64 p.level) := pf_cell (Kb.out.pf HP.out hgB) rfl
          obtain ⟨tb, off, cap, q0, q2⟩ := word_at' (HE.out.keep Kb.out.below) (row := 5) (T := leW) rfl (n := p.level) ⟨by omega, by show _ < (5 : Int); omega⟩
          have q1 : v15.cell? ⟨0, 5, none⟩ = some (.slice (some ⟨tb, off, none⟩) 5 cap) := q0
          clear q0
          obtain ⟨wd, hwd⟩ : ∃ z, z = leW.getD p.level.toNat [] := ⟨_, rfl⟩
          rw [← hwd] at q2
          have HWD := Lib.hid hwd
          have hwl : wd.length ≤ 40 := by rw [hwd]; exact wlen_leW _
          clear hwd
          have H := part_lit Kb.out [[114, 101, 99, 101, 105, 112, 116, 115], wd] (by simp) (glue2_len (by decide) (by omega)) (by omega)
          have H := Lib.hid (show Calls Tryz.prog 51 #[.slice (some ⟨v15.heap.size, 0, none⟩) 2 2, .pointer (some ⟨b, 0, none⟩)] (v15.alloc (.cells #[.string ⟨#[114, 101, 99, 101, 105, 112, 116, 115]⟩, .string (bs (wd))] 9)) (fun e w' => e = .returned (.tuple #[]) ∧ KB w1.heap.size b (canon2 p ++ segE [[106, 111, 105, 110], joW.getD p.join.toNat []] ++ segE [[104, 105, 115, 116, 111, 114, 121], hiW.getD p.history.toNat []] ++ segE [[114, 101, 109, 111, 118, 101], reW.getD p.remove.toNat []] ++ segE [[114, 101, 99, 101, 105, 112, 116, 115], wd]) (40000 + 2003 + 2003 + 2003 + 2003) w1 w') from H)
          go_wp2_with (go_at_call 51; refine (H.out).mono ?_; rintro e17 v17 ⟨rfl, k⟩; refine Hid.out ?_)
          refine Lib.hid ?_
          have Kb := Lib.hid (show KB w1.heap.size b (canon2 p ++ segE [[106, 111, 105, 110], joW.getD p.join.toNat []] ++ segE [[104, 105, 115, 116, 111, 114, 121], hiW.getD p.history.toNat []] ++ segE [[114, 101, 109, 111, 118, 101], reW.getD p.remove.toNat []] ++ segE [[114, 101, 99, 101, 105, 112, 116, 115], wd]) (40000 + 2003 + 2003 + 2003 + 2003) w1 v17 from k)
          clear k H
          have Kb := Lib.hid (show KB w1.heap.size b (canon2 p ++ segE [[106, 111, 105, 110], joW.getD p.join.toNat []] ++ segE [[104, 105, 115, 116, 111, 114, 121], hiW.getD p.history.toNat []] ++ segE [[114, 101, 109, 111, 118, 101], reW.getD p.remove.toNat []] ++ segE [[114, 101, 99, 101, 105, 112, 116, 115], leW.getD p.level.toNat []]) (40000 + 2003 + 2003 + 2003 + 2003) w1 v17 from by rw [← HWD.out]; exact Kb.out)
          clear q2 hwl
          clear HWD
          clear p16 q1
          have K9 := Lib.hid (show KB w1.heap.size b (canon3 p) (60000) w1 v17 from by have h := Kb.out.more (M := 60000) (by omega); rw [show canon2 p ++ segE [[106, 111, 105, 110], joW.getD p.join.toNat []] ++ segE [[104, 105, 115, 116, 111, 114, 121], hiW.getD p.history.toNat []] ++ segE [[114, 101, 109, 111, 118, 101], reW.getD p.remove.toNat []] ++ segE [[114, 101, 99, 101, 105, 112, 116, 115], leW.getD p.level.toNat []] = canon3 p from by unfold canon3 levelP; rw [if_neg hw0.out]] at h; exact h)
          clear Kb
          go_wp2
          go_meet
          exact K9
      case rest =>
        clear Kb
        have Kb := hcut
        clear hcut
        generalize wc = t18 at *
        go_upto_region 21 with fail
        have p18 : t18.cell? ⟨g, 18, none⟩ = some (.int .i64 p.rate) := pf_cell (Kb.out.pf HP.out hgB) rfl
        have p19 : t18.cell? ⟨g, 19, none⟩ = some (.int .i64 p.down) := pf_cell (Kb.out.pf HP.out hgB) rfl
        have p20 : t18.cell? ⟨g, 20, none⟩ = some (.int .i64 p.window) := pf_cell (Kb.out.pf HP.out hgB) rfl
        have Kb := Lib.hid (Kb.out.keep (below_drew _))
        have S0 : t18.drew.cell? ⟨g, 18, none⟩ = some (.int .i64 p.rate) ∧ t18.drew.cell? ⟨g, 19, none⟩ = some (.int .i64 p.down) ∧ t18.drew.cell? ⟨g, 20, none⟩ = some (.int .i64 p.window) := ⟨p18, p19, p20⟩
        refine region_tillD 11 (fun wx => wx.cell? ⟨g, 18, none⟩ = some (.int .i64 p.rate) ∧ wx.cell? ⟨g, 19, none⟩ = some (.int .i64 p.down) ∧ wx.cell? ⟨g, 20, none⟩ = some (.int .i64 p.window)) (by kernel_rfl) ?_
        refine till_take 0 40 false (v := ?v0r) (by kernel_rfl) (by kernel_rfl) (by kernel_rfl) (by kernel_rfl) (by kernel_rfl) (fun _ _ _ h => h) ?hw0r S0 ?hy0r ?rest0r
        case hw0r => (simp only [List.getElem?_toArray, List.getElem?_cons_zero, Option.elim]; rfl)
        case hy0r => (simp only [List.getElem?_toArray, List.getElem?_cons_zero, Option.elim]; intro wx _; go_simp; with_reducible rfl)
        simp only [dstOf, List.getElem?_toArray, List.getElem?_cons_zero, Option.bind, Act.put, List.setIfInBounds_toArray, List.set_cons_zero, List.set_cons_succ]
        refine till_take 1 40 false (v := ?v1r) (by kernel_rfl) (by kernel_rfl) (by kernel_rfl) (by kernel_rfl) (by kernel_rfl) (fun _ _ _ h => h) ?hw1r S0 ?hy1r ?rest1r
        case hw1r => (simp only [List.getElem?_toArray, List.getElem?_cons_zero, List.getElem?_cons_succ, Option.elim]; rfl)
        case hy1r => (simp only [List.getElem?_toArray, List.getElem?_cons_zero, List.getElem?_cons_succ, Option.elim]; intro wx _; go_simp; with_reducible rfl)
        simp only [dstOf, List.getElem?_toArray, List.getElem?_cons_zero, List.getElem?_cons_succ, Option.bind, Act.put, List.setIfInBounds_toArray, List.set_cons_zero, List.set_cons_succ]
        refine till_take 2 40 true (v := ?v2r) (by kernel_rfl) (by kernel_rfl) (by kernel_rfl) (by kernel_rfl) (by kernel_rfl) (fun _ _ _ h => h) ?hw2r S0 ?hy2r ?rest2r
        case hw2r => (simp only [List.getElem?_toArray, List.getElem?_cons_zero, List.getElem?_cons_succ, Option.elim]; rfl)
        case hy2r => (simp only [List.getElem?_toArray, List.getElem?_cons_zero, List.getElem?_cons_succ, Option.elim]; intro wx hx; have x0 := (hx trivial).1; have x1 := (hx trivial).2.1; have x2 := (hx trivial).2.2; go_simp; with_reducible rfl)
        simp only [dstOf, List.getElem?_toArray, List.getElem?_cons_zero, List.getElem?_cons_succ, Option.bind, Act.put, List.setIfInBounds_toArray, List.set_cons_zero, List.set_cons_succ]
        refine till_take 4 40 false (v := ?v4r) (by kernel_rfl) (by kernel_rfl) (by kernel_rfl) (by kernel_rfl) (by kernel_rfl) (fun _ _ _ h => h) ?hw4r S0 ?hy4r ?rest4r
        case hw4r => (simp only [List.getElem?_toArray, List.getElem?_cons_zero, List.getElem?_cons_succ, Option.elim]; rfl)
        case hy4r => (simp only [List.getElem?_toArray, List.getElem?_cons_zero, List.getElem?_cons_succ, Option.elim]; intro wx _; go_simp; with_reducible rfl)
        simp only [dstOf, List.getElem?_toArray, List.getElem?_cons_zero, List.getElem?_cons_succ, Option.bind, Act.put, List.setIfInBounds_toArray, List.set_cons_zero, List.set_cons_succ]
        refine till_take 5 40 true (v := ?v5r) (by kernel_rfl) (by kernel_rfl) (by kernel_rfl) (by kernel_rfl) (by kernel_rfl) (fun _ _ _ h => h) ?hw5r S0 ?hy5r ?rest5r
        case hw5r => (simp only [List.getElem?_toArray, List.getElem?_cons_zero, List.getElem?_cons_succ, Option.elim]; rfl)
        case hy5r => (simp only [List.getElem?_toArray, List.getElem?_cons_zero, List.getElem?_cons_succ, Option.elim]; intro wx hx; have x0 := (hx trivial).1; have x1 := (hx trivial).2.1; have x2 := (hx trivial).2.2; go_simp; with_reducible rfl)
        simp only [dstOf, List.getElem?_toArray, List.getElem?_cons_zero, List.getElem?_cons_succ, Option.bind, Act.put, List.setIfInBounds_toArray, List.set_cons_zero, List.set_cons_succ]
        refine till_take 7 40 false (v := ?v7r) (by kernel_rfl) (by kernel_rfl) (by kernel_rfl) (by kernel_rfl) (by kernel_rfl) (fun _ _ _ h => h) ?hw7r S0 ?hy7r ?rest7r
        case hw7r => (simp only [List.getElem?_toArray, List.getElem?_cons_zero, List.getElem?_cons_succ, Option.elim]; rfl)
        case hy7r => (simp only [List.getElem?_toArray, List.getElem?_cons_zero, List.getElem?_cons_succ, Option.elim]; intro wx _; go_simp; with_reducible rfl)
        simp only [dstOf, List.getElem?_toArray, List.getElem?_cons_zero, List.getElem?_cons_succ, Option.bind, Act.put, List.setIfInBounds_toArray, List.set_cons_zero, List.set_cons_succ]
        refine till_take 8 40 true (v := ?v8r) (by kernel_rfl) (by kernel_rfl) (by kernel_rfl) (by kernel_rfl) (by kernel_rfl) (fun _ _ _ h => h) ?hw8r S0 ?hy8r ?rest8r
        case hw8r => (simp only [List.getElem?_toArray, List.getElem?_cons_zero, List.getElem?_cons_succ, Option.elim]; rfl)
        case hy8r => (simp only [List.getElem?_toArray, List.getElem?_cons_zero, List.getElem?_cons_succ, Option.elim]; intro wx hx; have x0 := (hx trivial).1; have x1 := (hx trivial).2.1; have x2 := (hx trivial).2.2; go_simp; with_reducible rfl)
        simp only [dstOf, List.getElem?_toArray, List.getElem?_cons_zero, List.getElem?_cons_succ, Option.bind, Act.put, List.setIfInBounds_toArray, List.set_cons_zero, List.set_cons_succ]
        refine till_before 3 (by kernel_rfl) (fun K hK => ?_)
        simp only [List.getElem?_toArray, List.getElem?_cons_zero, List.getElem?_cons_succ, Option.elim]
        rw [if_pos (by rfl)]
        go_simp
        go_at_call 54
        refine ((p_itoa (n := p.rate) (HE.out.keep Kb.out.below) (by omega))).mono ?_
        rintro _ y1 ⟨rfl, bb⟩
        refine hK.out _ _ (⟨below_cell S0.1 bb, below_cell S0.2.1 bb, below_cell S0.2.2 bb⟩) ?_
        clear hK K
        try simp only [Act.put, List.setIfInBounds_toArray, List.set_cons_zero, List.set_cons_succ]
        replace S0 := (show y1.cell? ⟨g, 18, none⟩ = some (.int .i64 p.rate) ∧ y1.cell? ⟨g, 19, none⟩ = some (.int .i64 p.down) ∧ y1.cell? ⟨g, 20, none⟩ = some (.int .i64 p.window) from ⟨below_cell S0.1 bb, below_cell S0.2.1 bb, below_cell S0.2.2 bb⟩)
        have K2 := Lib.hid (Kb.out.keep bb)
        clear Kb bb
        have Kb := K2
        clear K2
        refine till_before 6 (by kernel_rfl) (fun K hK => ?_)
        simp only [List.getElem?_toArray, List.getElem?_cons_zero, List.getElem?_cons_succ, Option.elim]
        rw [if_pos (by rfl)]
        go_simp
        go_at_call 54
        refine ((p_itoa (n := p.down) (HE.out.keep Kb.out.below) (by omega))).mono ?_
        rintro _ y2 ⟨rfl, bb⟩
        refine hK.out _ _ (⟨below_cell S0.1 bb, below_cell S0.2.1 bb, below_cell S0.2.2 bb⟩) ?_
        clear hK K
        try simp only [Act.put, List.setIfInBounds_toArray, List.set_cons_zero, List.set_cons_succ]
        replace S0 := (show y2.cell? ⟨g, 18, none⟩ = some (.int .i64 p.rate) ∧ y2.cell? ⟨g, 19, none⟩ = some (.int .i64 p.down) ∧ y2.cell? ⟨g, 20, none⟩ = some (.int .i64 p.window) from ⟨below_cell S0.1 bb, below_cell S0.2.1 bb, below_cell S0.2.2 bb⟩)
        have K2 := Lib.hid (Kb.out.keep bb)
        clear Kb bb
        have Kb := K2
        clear K2
        refine till_before 9 (by kernel_rfl) (fun K hK => ?_)
        simp only [List.getElem?_toArray, List.getElem?_cons_zero, List.getElem?_cons_succ, Option.elim]
        rw [if_pos (by rfl)]
        go_simp
        go_at_call 54
        refine ((p_itoa (n := p.window) (HE.out.keep Kb.out.below) (by omega))).mono ?_
        rintro _ y3 ⟨rfl, bb⟩
        refine hK.out _ _ (⟨below_cell S0.1 bb, below_cell S0.2.1 bb, below_cell S0.2.2 bb⟩) ?_
        clear hK K
        try simp only [Act.put, List.setIfInBounds_toArray, List.set_cons_zero, List.set_cons_succ]
        replace S0 := (show y3.cell? ⟨g, 18, none⟩ = some (.int .i64 p.rate) ∧ y3.cell? ⟨g, 19, none⟩ = some (.int .i64 p.down) ∧ y3.cell? ⟨g, 20, none⟩ = some (.int .i64 p.window) from ⟨below_cell S0.1 bb, below_cell S0.2.1 bb, below_cell S0.2.2 bb⟩)
        have K2 := Lib.hid (Kb.out.keep bb)
        clear Kb bb
        have Kb := K2
        clear K2
        have H := part_lit Kb.out [[114, 97, 116, 101], Lib.decDigits p.rate.toNat, [100, 111, 119, 110], Lib.decDigits p.down.toNat, [111, 102], Lib.decDigits p.window.toNat] (by simp) (glue6_len (by decide) (Nat.le_trans (dec10 (n := p.rate) (by omega)) (by decide)) (by decide) (Nat.le_trans (dec10 (n := p.down) (by omega)) (by decide)) (by decide) (Nat.le_trans (dec10 (n := p.window) (by omega)) (by decide))) (by omega)
        have H := Lib.hid (show Calls Tryz.prog 51 #[.slice (some ⟨y3.heap.size, 0, none⟩) 6 6, .pointer (some ⟨b, 0, none⟩)] (y3.alloc (.cells #[.string ⟨#[114, 97, 116, 101]⟩, .string (bs (Lib.decDigits p.rate.toNat)), .string ⟨#[100, 111, 119, 110]⟩, .string (bs (Lib.decDigits p.down.toNat)), .string ⟨#[111, 102]⟩, .string (bs (Lib.decDigits p.window.toNat))] 9)) (fun e w' => e = .returned (.tuple #[]) ∧ KB w1.heap.size b (canon3 p ++ segE [[114, 97, 116, 101], Lib.decDigits p.rate.toNat, [100, 111, 119, 110], Lib.decDigits p.down.toNat, [111, 102], Lib.decDigits p.window.toNat]) (60000 + 2003) w1 w') from H)
        refine till_before 10 (by kernel_rfl) (fun K hK => ?_)
        simp only [List.getElem?_toArray, List.getElem?_cons_zero, List.getElem?_cons_succ, Option.elim]
        rw [if_pos (by rfl)]
        go_simp
        refine hK.out _ _ (⟨below_cell S0.1 ((Below.refl _ _).alloc (Nat.le_refl _) _), below_cell S0.2.1 ((Below.refl _ _).alloc (Nat.le_refl _) _), below_cell S0.2.2 ((Below.refl _ _).alloc (Nat.le_refl _) _)⟩) ?_
        clear hK K
        try simp only [Act.put, List.setIfInBounds_toArray, List.set_cons_zero, List.set_cons_succ]
        refine till_step 11 (by kernel_rfl) (by kernel_rfl) (fun K hK => ?_)
        simp only [List.getElem?_toArray, List.getElem?_cons_zero, List.getElem?_cons_succ, Option.elim]
        rw [if_pos (by rfl)]
        go_simp
        go_at_call 51
        refine (H.out).mono ?_
        rintro _ v19 ⟨rfl, k⟩
        refine hK.out _ _ ?_
        clear hK K
        try simp only [Act.put, List.setIfInBounds_toArray, List.set_cons_zero, List.set_cons_succ]
        refine till_end (by kernel_rfl) ?_ _
        have Kb := Lib.hid (show KB w1.heap.size b (canon3 p ++ segE [[114, 97, 116, 101], Lib.decDigits p.rate.toNat, [100, 111, 119, 110], Lib.decDigits p.down.toNat, [111, 102], Lib.decDigits p.window.toNat]) (60000 + 2003) w1 v19 from k)
        clear S0 k H
        clear p18 p19 p20
        go_upto_region 22 with fail
        have p21 : v19.cell? ⟨g, 21, none⟩ = some (.int .i64 p.keep) := pf_cell (Kb.out.pf HP.out hgB) rfl
        go_upto_if 156 with fail
        go_cut [156] from 157 to 162 (fun _ wx => Hid (KB w1.heap.size b (canon4 p) (70000) w1 wx))
        case first =>
          cases htest : (p.keep != 0) with
          | true =>
            have hw0 := Lib.hid (show ¬ p.keep = 0 by simpa using htest)
            clear htest
            have HI := Lib.hid (p_itoa (n := p.keep) (HE.out.keep Kb.out.below) (by omega))
            go_wp2_with (go_at_call 54; refine (HI.out).mono ?_; rintro _ y1 ⟨rfl, bb⟩; refine Hid.out ?_)
            refine Lib.hid ?_
            have K2 := Lib.hid (Kb.out.keep bb)
            clear Kb bb HI
            have Kb := K2
            clear K2
            have H := part_lit Kb.out [[107, 101, 101, 112], Lib.decDigits p.keep.toNat] (by simp) (glue2_len (by decide) (Nat.le_trans (dec10 (n := p.keep) (by omega)) (by decide))) (by omega)
            have H := Lib.hid (show Calls Tryz.prog 51 #[.slice (some ⟨y1.heap.size, 0, none⟩) 2 2, .pointer (some ⟨b, 0, none⟩)] (y1.alloc (.cells #[.string ⟨#[107, 101, 101, 112]⟩, .string (bs (Lib.decDigits p.keep.toNat))] 9)) (fun e w' => e = .returned (.tuple #[]) ∧ KB w1.heap.size b (canon3 p ++ segE [[114, 97, 116, 101], Lib.decDigits p.rate.toNat, [100, 111, 119, 110], Lib.decDigits p.down.toNat, [111, 102], Lib.decDigits p.window.toNat] ++ segE [[107, 101, 101, 112], Lib.decDigits p.keep.toNat]) (60000 + 2003 + 2003) w1 w') from H)
            go_wp2_with (go_at_call 51; refine (H.out).mono ?_; rintro e20 v20 ⟨rfl, k⟩; refine Hid.out ?_)
            refine Lib.hid ?_
            have Kb := Lib.hid (show KB w1.heap.size b (canon3 p ++ segE [[114, 97, 116, 101], Lib.decDigits p.rate.toNat, [100, 111, 119, 110], Lib.decDigits p.down.toNat, [111, 102], Lib.decDigits p.window.toNat] ++ segE [[107, 101, 101, 112], Lib.decDigits p.keep.toNat]) (60000 + 2003 + 2003) w1 v20 from k)
            clear k H
            have K9 := Lib.hid (show KB w1.heap.size b (canon4 p) (70000) w1 v20 from by have h := Kb.out.more (M := 70000) (by omega); rw [show canon3 p ++ segE [[114, 97, 116, 101], Lib.decDigits p.rate.toNat, [100, 111, 119, 110], Lib.decDigits p.down.toNat, [111, 102], Lib.decDigits p.window.toNat] ++ segE [[107, 101, 101, 112], Lib.decDigits p.keep.toNat] = canon4 p from by unfold canon4 keepP; rw [if_neg hw0.out]] at h; exact h)
            clear Kb
            go_wp2
            go_meet
            exact K9
          | false =>
            have hw0 := Lib.hid (show p.keep = 0 by simpa using htest)
            clear htest
            have K9 := Lib.hid (show KB w1.heap.size b (canon4 p) (70000) w1 v19 from by have h := Kb.out.more (M := 70000) (by omega); rw [show canon3 p ++ segE [[114, 97, 116, 101], Lib.decDigits p.rate.toNat, [100, 111, 119, 110], Lib.decDigits p.down.toNat, [111, 102], Lib.decDigits p.window.toNat] = canon4 p from by unfold canon4 keepP; rw [if_pos hw0.out, List.append_nil]] at h; exact h)
            clear Kb
            go_wp2
            go_meet
            exact K9
        case rest =>
          clear Kb
          have Kb := hcut
          clear hcut
          generalize wc = t21 at *
          have HS := Lib.hid (string_any w1.heap.size b _ t21 Kb.out.bld Kb.out.le)
          have HB2 := Lib.hid (HB.out.trans (Kb.out.below.mono HB.out.size))
          have HS2 := Lib.hid Kb.out.le
          go_wp2_with (go_at_call 56; refine (HS.out).mono ?_; rintro _ wz ⟨rfl, bz⟩; refine Hid.out ?_)
          refine Lib.hid ?_
          have HB3 := Lib.hid (HB2.out.trans (bz.mono (Nat.le_trans HB.out.size (Nat.le_refl _))))
          clear bz
          go_wp2
          go_ret
          exact ⟨by rw [canon_text HR.out]; rfl, HB3.out⟩
end Go.Proofs.YtlefgffnjcmfoaaGreatDoor
namespace Go.Proofs.YtlefgffnjcmfoaaGreatDoor
open Go.RowKit Go.Maps Go.ChangeMaps Go.MapKept
open Lx Sy Ch
attribute [local go_sem ↓] Go.wp_at_zero Go.wp_at_succ
set_option maxHeartbeats 4000000 in
set_option maxRecDepth 100000 in
theorem p_print {w : World} {x : Value} {p : Pf} (hE : Env w) (hx : PfAt w x p) (hf : fewP p = true) :
    Calls Tryz.prog 8 #[x] w (Reads w (.tuple #[.string (bs (printS p).1), .int .i64 (printS p).2])) := by
  have HX0 := Lib.hid hx
  obtain ⟨cs, rfl, hsz, hone⟩ := hx.cells
  have b1 : Below w.heap.size w (w.alloc (.cells cs 24)) := (Below.refl _ _).alloc (Nat.le_refl _) _
  have HB := Lib.hid b1
  have HE := Lib.hid (hE.keep b1)
  have HX := Lib.hid (hx.keep b1)
  have HP := Lib.hid (MapKept.heap_alloc w (.cells cs 24)).1
  clear b1 hx hE HX0
  go_enter Tryz.func8, Tryz.ntmps8
  go_upto_region 0 with fail
  refine wp_region_lit ?_
  refine list_evw (v := .pointer (some ⟨w.heap.size, 0, none⟩)) (w' := w.alloc (.cells cs 24)) rfl (ev_box rfl rfl) ?_
  simp only [Act.put, List.setIfInBounds_toArray, List.set_cons_zero, List.set_cons_succ]
  generalize w.alloc (.cells cs 24) = w1 at *
  obtain ⟨g, hg⟩ : ∃ g, g = w.heap.size := ⟨_, rfl⟩
  rw [← hg] at HP
  rw [← hg]
  clear hg
  refine list_ev (v := .string ⟨#[]⟩) rfl (by go_simp) ?_
  simp only [Act.put, List.setIfInBounds_toArray, List.set_cons_zero, List.set_cons_succ]
  refine list_ev (v := .int .i64 0) rfl (by go_simp) ?_
  simp only [Act.put, List.setIfInBounds_toArray, List.set_cons_zero, List.set_cons_succ]
  go_upto_region 1 with fail
  refine wp_region_lit ?_
  refine list_ev (v := .agg cs) rfl (ev_whole rfl rfl HP.out Tryz.underlying24 rfl (by rw [hsz]; kernel_rfl)) ?_
  simp only [Act.put, List.setIfInBounds_toArray, List.set_cons_zero, List.set_cons_succ]
  refine list_callP rfl (ev_call1 rfl (enters_of Tryz.func11 (by kernel_rfl) rfl)) (p_right HE.out HX.out hf) ?_
  rintro _ w2 ⟨rfl, b2⟩
  refine ⟨_, rfl, ?_⟩
  simp only [Act.put, List.setIfInBounds_toArray, List.set_cons_zero, List.set_cons_succ]
  replace HP := Lib.hid ((b2.block _ (lt_heap HP.out)).trans HP.out)
  replace HB := Lib.hid (HB.out.trans (b2.mono HB.out.size))
  replace HX := Lib.hid (HX.out.keep b2)
  replace HE := Lib.hid (HE.out.keep b2)
  clear b2
  by_cases hr : Rt p
  · have HQ := Lib.hid (printS_right hr)
    have hl := text_len hr
    have HR := Lib.hid hr
    rw [decide_eq_true hr]
    clear hr
    refine list_ev (v := .bool false) rfl (by go_simp) ?_
    simp only [Act.put, List.setIfInBounds_toArray, List.set_cons_zero, List.set_cons_succ]
    go_upto_region 3 with fail
    refine wp_region_lit ?_
    refine list_ev (v := .agg cs) rfl (ev_whole rfl rfl HP.out Tryz.underlying24 rfl (by rw [hsz]; kernel_rfl)) ?_
    simp only [Act.put, List.setIfInBounds_toArray, List.set_cons_zero, List.set_cons_succ]
    refine list_callP rfl (ev_call1 rfl (enters_of Tryz.func28 (by kernel_rfl) rfl)) (p_canon HE.out HX.out HR.out) ?_
    rintro _ w3 ⟨rfl, b3⟩
    refine ⟨_, rfl, ?_⟩
    simp only [Act.put, List.setIfInBounds_toArray, List.set_cons_zero, List.set_cons_succ]
    replace HB := Lib.hid (HB.out.trans (b3.mono HB.out.size))
    clear b3
    have zt := bs_size (Sy.text p)
    have hl' : ¬ (2000 : Int) < ((Sy.text p).length : Int) := by omega
    generalize Sy.text p = t at *
    go_wp2
    go_ret2
    exact ⟨by rw [HQ.out]; rfl, HB.out⟩
  · have HQ := Lib.hid (printS_wrong hr)
    rw [decide_eq_false hr]
    clear hr
    refine list_ev (v := .bool true) rfl (by go_simp) ?_
    simp only [Act.put, List.setIfInBounds_toArray, List.set_cons_zero, List.set_cons_succ]
    go_wp2
    go_ret2
    exact ⟨by rw [HQ.out]; rfl, HB.out⟩
end Go.Proofs.YtlefgffnjcmfoaaGreatDoor
namespace Go.Proofs.YtlefgffnjcmfoaaGreatDoor
open Go.RowKit Go.Maps Go.ChangeMaps Go.MapKept
open Lx Sy
theorem theApi : YApi Env where
  keep h hb := h.keep hb
  lex_ hE hs := p_lex hE hs
  parse_ hE hs := p_parse hE hs
  print_ hE hx hf := p_print hE hx hf
  right_ hE hx hf := p_right hE hx hf
  same_ _ hx hy hf hg := p_same hx hy (few_len hf) (few_len hg)
end Go.Proofs.YtlefgffnjcmfoaaGreatDoor
