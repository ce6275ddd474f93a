/- Append of a journal. -/
import Derived.Test.YtjbcgahdiolhhaaDoorJOps
import Derived.Maps.AppendAt
import Derived.Test.YtjbcgahdiolhhaaDoorDClone
namespace Go.Proofs.YtjbcgahdiolhhaaDoor.D2
open Go.RowKit Go.Maps Go.ChangeMaps Go.MapKept
open Dp Jp
attribute [local go_sem ↓] Go.wp_at_zero Go.wp_at_succ

section
variable {w0 w : World} {os : List Ob} {i k b d : Nat} {D : Dk} {J : Jn}
theorem form_len (s : List UInt8) (hs : s.length ≤ 1099511627776) : (form s).length ≤ s.length + 60 := by
  have h0 := jsum_lt s
  have h1 := Lib.itoa_length_le (jsum s : Int) (by omega) (by omega)
  have h2 := Lib.itoa_length_le (s.length : Int) (by omega) (by omega)
  have : ¬ ((jsum s : Int) < 0) := by omega
  simp [form, Sp.eText, Sp.eNum, Sp.eInt, this]
  omega
theorem OMem.three (h : OMem w0 w os) (hk : os[k]? = some (.jour b d J)) : w.cell? ⟨b, 0, none⟩ = some (.pointer (some ⟨d, 0, none⟩)) ∧ w.cell? ⟨b, 1, none⟩ = some (.int .i64 J.file) ∧ w.cell? ⟨b, 3, none⟩ = some (.int .i64 ((forms J.l).length : Int)) := by
  obtain ⟨v, hc⟩ := h.jour hk
  exact ⟨hc.c0, hc.c1, hc.c3⟩

set_option maxHeartbeats 1000000 in
set_option maxRecDepth 100000 in
theorem append_refused (h : OMem w0 w os) (hi : os[i]? = some (.disk d D)) (hk : os[k]? = some (.jour b d J)) (s : List UInt8) (he : Env w) (hx : J.bad = true ∨ 20000 < s.length ∨ 1048576 < (forms J.l).length + (form s).length) :
    Calls Tryd.prog 14 #[.pointer (some ⟨b, 0, none⟩), .string (bs s)] w (JPost w0 os i k b d (jappend D J s)) := by
  obtain ⟨v, hc⟩ := h.jour hk
  have c3 := hc.c3
  have c4 := hc.c4
  have hz := hc.size
  have hsz := bs_size s
  have H := Lib.hid h
  clear hc h
  cases hb : J.bad with
  | true =>
    rw [hb] at c4
    have HR := Lib.hid (show jappend D J s = (7, D, J) by unfold jappend; rw [hb]; rfl)
    clear hb hx hsz
    go_enter Tryd.func14, Tryd.ntmps14
    go_wp2
    go_ret
    unfold JPost
    rw [HR.out]
    exact ⟨rfl, by simp only; rw [set_noop hi, set_noop hk]; exact H.out⟩
  | false =>
    rw [hb] at c4
    by_cases hl : 20000 < s.length
    · have HR := Lib.hid (show jappend D J s = (3, D, J) by unfold jappend; rw [hb, if_neg (by simp), if_pos hl])
      have hl2 : 20000 < (bs s).size := by omega
      clear hb hx hsz hl
      go_enter Tryd.func14, Tryd.ntmps14
      go_wp2
      go_ret
      unfold JPost
      rw [HR.out]
      exact ⟨rfl, by simp only; rw [set_noop hi, set_noop hk]; exact H.out⟩
    · have hf : 1048576 < (forms J.l).length + (form s).length := by
        rcases hx with h | h | h
        · rw [hb] at h; cases h
        · exact absurd h hl
        · exact h
      have HR := Lib.hid (show jappend D J s = (6, D, J) by unfold jappend; rw [hb, if_neg (by simp), if_neg hl, if_pos hf])
      have hl2 : (bs s).size ≤ 20000 := by omega
      have hfl := form_len s (by omega)
      have hq := bs_size (form s)
      have hf2 : 1048576 < ((forms J.l).length : Int) + ((bs (form s)).size : Int) := by omega
      have hf3 : (bs (form s)).size ≤ 20060 := by omega
      have HF := Lib.hid (formOf_any s (by omega))
      have HC3 := Lib.hid c3
      clear hb hx hsz hl hf hq hfl
      go_enter Tryd.func14, Tryd.ntmps14
      go_wp2_with (go_at_call 39; refine (HF.out _ he).mono ?_; rintro e w1 ⟨rfl, b1⟩; refine Hid.out ?_)
      refine Lib.hid ?_
      have m1 := H.out.fresh b1
      have M1 := Lib.hid m1
      obtain ⟨v1, hc1⟩ := m1.jour hk
      have d3 := hc1.c3
      clear m1 hc1 b1 c3 c4
      go_wp2
      go_ret
      unfold JPost
      rw [HR.out]
      exact ⟨rfl, by simp only; rw [set_noop hi, set_noop hk]; exact M1.out⟩

set_option maxHeartbeats 4000000 in
set_option maxRecDepth 100000 in
theorem append_tried (h : OMem w0 w os) (hi : os[i]? = some (.disk d D)) (hk : os[k]? = some (.jour b d J)) (hne : i ≠ k) (s : List UInt8) (he : Env w) (hb : J.bad = false) (hs : s.length ≤ 20000) (hf : (forms J.l).length + (form s).length ≤ 1048576) :
    Calls Tryd.prog 14 #[.pointer (some ⟨b, 0, none⟩), .string (bs s)] w (JPost w0 os i k b d (jappend D J s)) := by
  obtain ⟨i0, hi0, hz0, hz1, hz2⟩ := info_parts string_info
  obtain ⟨v, hc⟩ := h.jour hk
  have c3 := hc.c3
  have c4 := hc.c4
  have hz := hc.size
  have hjf := hc.file
  have hsz := bs_size s
  have hn : J.l.length ≤ 1048576 := by
    have : ∀ l : List (List UInt8), l.length ≤ (forms l).length := by
      intro l
      induction l with
      | nil => simp
      | cons a l ih => rw [forms_cons]; have := form_pos a; simp; omega
    have := this J.l
    omega
  have H := Lib.hid h
  clear hc h
  rw [hb] at c4
  have hr := i64_err_write D J.file ((forms J.l).length : Int) (form s)
  have HR := Lib.hid (show jappend D J s = if (D.write J.file ((forms J.l).length : Int) (form s)).1 ≠ 0 then ((D.write J.file ((forms J.l).length : Int) (form s)).1, (D.write J.file ((forms J.l).length : Int) (form s)).2, { J with bad := true }) else (0, (D.write J.file ((forms J.l).length : Int) (form s)).2, { J with l := J.l ++ [s] }) by
    unfold jappend; rw [hb, if_neg (by simp), if_neg (by omega), if_neg (by omega)])
  have hl2 : (bs s).size ≤ 20000 := by omega
  have hfl := form_len s (by omega)
  have hq := bs_size (form s)
  have hf2 : ¬ 1048576 < ((forms J.l).length : Int) + ((bs (form s)).size : Int) := by omega
  have hf3 : (bs (form s)).size ≤ 20060 := by omega
  have HQ := Lib.hid (show ((bs (form s)).size : Int) = ((form s).length : Int) by rw [hq])
  have HB := Lib.hid hb
  have HF := Lib.hid (formOf_any s (by omega))
  have HX := Lib.hid (fun w1 (m : OMem w0 w1 os) => o_write m hi J.file ((forms J.l).length : Int) (form s) hjf ⟨by omega, by omega⟩ (by omega))
  generalize D.write J.file ((forms J.l).length : Int) (form s) = r at HR hr HX
  have HK := Lib.hid (set_get (a := Ob.disk d r.2) hk hne)
  have HFT := Lib.hid hf
  clear hb hsz hq hfl hf
  go_enter Tryd.func14, Tryd.ntmps14
  go_wp2_with (go_at_call 39; refine (HF.out _ he).mono ?_; rintro e w1 ⟨rfl, b1⟩; refine Hid.out ?_)
  refine Lib.hid ?_
  have m1 := H.out.fresh b1
  have S1 := m1.three hk
  have d3 := S1.2.2
  have S0 : w1.drew.cell? ⟨b, 0, none⟩ = some (.pointer (some ⟨d, 0, none⟩)) ∧ w1.drew.cell? ⟨b, 1, none⟩ = some (.int .i64 J.file) ∧ w1.drew.cell? ⟨b, 3, none⟩ = some (.int .i64 ((forms J.l).length : Int)) := S1
  have HY := Lib.hid (HX.out _ (m1.fresh (below_drew w1)))
  clear m1 b1 c3 c4 S1
  go_wp2
  go_region_held3 (fun w' => w'.cell? ⟨b, 0, none⟩ = some (.pointer (some ⟨d, 0, none⟩)) ∧ w'.cell? ⟨b, 1, none⟩ = some (.int .i64 J.file) ∧ w'.cell? ⟨b, 3, none⟩ = some (.int .i64 ((forms J.l).length : Int))) (first | exact S0 | assumption) (first | (go_at_call 22; refine HY.out.mono ?_; rintro e w2 ⟨rfl, m2⟩; have M2 := Lib.hid m2; have S2 := m2.three HK.out; clear m2) | (go_at_call 40; refine (note_any M2.out HK.out r.1 hr).mono ?_; rintro e w3 ⟨rfl, m3⟩; have M3 := Lib.hid m3; have S3 := m3.three (set_here HK.out); clear m3))
  by_cases h0 : r.1 = 0
  · have m3 := M3.out
    have hbad : decide (r.1 ≠ 0) = false := by simp [h0]
    rw [hbad] at m3
    have HK3 := Lib.hid (set_here (a := Ob.jour b d { J with bad := false }) HK.out)
    obtain ⟨v3, hc3⟩ := m3.jour HK3.out
    have c2 := hc3.c2
    have hown := hc3.row
    have hsl := hc3.size
    have HC3 := Lib.hid hc3
    have M3b := Lib.hid m3
    clear m3 hc3 S3 hbad
    go_wp2_with (at_builtin; refine Hid.out ?_)
    refine Lib.hid ?_
    refine wpList_append_own_at _ rfl _ _ 32 rfl 0 9 i0 (.string ⟨#[]⟩) 1 16 Tryd.underlying32 hi0 hz0 hz1 hz2 rfl (by decide) _ _ _ rfl (hown.alloc _) ⟨w3.heap.size, 0, none⟩ 1 1 [.string (bs s)] rfl rfl (cell_one_new _ _ _) ?p2 ?p3 ?p4 (Nat.zero_le _) ?_
    case p2 => intro y hy; simp at hy; subst hy; rfl
    case p3 => unfold maxLen; omega
    case p4 => omega
    intro v' w4 hown4 hgrow _ hat
    obtain ⟨va, vc, rfl⟩ := own_form hown4
    have hc4 := HC3.out.fresh (below_alloc w3 (.cells #[.string (bs s)] 9))
    have hblk4 := (hgrow.block b (lt_heap hc4.blk) hc4.apart).trans hc4.blk
    have d2 : w4.cell? ⟨b, 2, none⟩ = some v3 := by rw [Lib.cell_of_heap hblk4]; rfl
    have d3 : w4.cell? ⟨b, 3, none⟩ = some (.int .i64 ((forms J.l).length : Int)) := by rw [Lib.cell_of_heap hblk4]; rfl
    have f2 : w4.frozen? ⟨b, 2, none⟩ = false := Lib.frozen_of_heap hblk4 2
    have f3 : w4.frozen? ⟨b, 3, none⟩ = false := Lib.frozen_of_heap hblk4 3
    have HC4 := Lib.hid hc4
    have HO4 := Lib.hid hown4
    have HG4 := Lib.hid hgrow
    have HAT := Lib.hid hat
    clear hown4 hgrow hat hc4 hblk4 hown
    go_wp2
    go_ret
    unfold JPost
    rw [HR.out, if_neg (by simpa using h0)]
    refine ⟨rfl, ?_⟩
    have hlen : ((forms (J.l ++ [s])).length : Int) = ((forms J.l).length : Int) + ((bs (form s)).size : Int) := by rw [forms_snoc, List.length_append, HQ.out]; simp
    have hft := HFT.out
    have hq := HQ.out
    have g4 := (M3b.out.fresh (below_alloc w3 (.cells #[.string (bs s)] 9))).jgrow HK3.out HC4.out (l := J.l ++ [s]) HG4.out (by simpa [strVs] using HO4.out) HAT.out (by omega) (by rw [hlen]; exact Hp.refl _)
    rw [List.set_set] at g4
    simp only
    rw [HB.out]
    exact g4
  · go_wp2
    go_ret
    unfold JPost
    rw [HR.out, if_pos h0]
    refine ⟨rfl, ?_⟩
    have := M3.out
    rw [decide_eq_true h0] at this
    exact this
theorem o_append (h : OMem w0 w os) (hi : os[i]? = some (.disk d D)) (hk : os[k]? = some (.jour b d J)) (hne : i ≠ k) (s : List UInt8) (he : Env w) :
    Calls Tryd.prog 14 #[.pointer (some ⟨b, 0, none⟩), .string (bs s)] w (JPost w0 os i k b d (jappend D J s)) := by
  by_cases hx : J.bad = true ∨ 20000 < s.length ∨ 1048576 < (forms J.l).length + (form s).length
  · exact append_refused h hi hk s he hx
  · have h1 : J.bad = false := by cases hb : J.bad <;> simp_all
    exact append_tried h hi hk hne s he h1 (by omega) (by omega)

/-! ### Len, Get, All -/
set_option maxRecDepth 100000 in
theorem o_len (h : OMem w0 w os) (hk : os[k]? = some (.jour b d J)) :
    Calls Tryd.prog 32 #[.pointer (some ⟨b, 0, none⟩)] w fun e w' => e = .returned (.int .i64 (J.l.length : Int)) ∧ w = w' := by
  obtain ⟨v, hc⟩ := h.jour hk
  have c2 := hc.c2
  obtain ⟨va, vc, rfl⟩ := own_form hc.row
  clear h hc
  go_enter Tryd.func32, Tryd.ntmps32
  go_wp2
  go_ret
  exact ⟨rfl, rfl⟩
set_option maxRecDepth 100000 in
theorem o_get (h : OMem w0 w os) (hk : os[k]? = some (.jour b d J)) (n : Int) (hn : I64 n) :
    Calls Tryd.prog 33 #[.pointer (some ⟨b, 0, none⟩), .int .i64 n] w fun e w' => e = .returned (.string (bs (if 0 ≤ n then J.l.getD n.toNat [] else []))) ∧ w = w' := by
  obtain ⟨v, hc⟩ := h.jour hk
  have c2 := hc.c2
  have hrow := hc.row
  obtain ⟨va, vc, rfl⟩ := own_form hc.row
  have n2 := hn.2
  clear h hc
  by_cases h0 : n < 0
  · rw [if_neg (by omega)]
    clear hn n2 hrow
    go_enter Tryd.func33, Tryd.ntmps33
    go_wp2
    go_ret
    exact ⟨rfl, rfl⟩
  · rw [if_pos (by omega)]
    obtain ⟨m, rfl⟩ : ∃ m : Nat, n = (m : Int) := ⟨n.toNat, by omega⟩
    rw [Int.toNat_natCast]
    by_cases hm : m < J.l.length
    · obtain ⟨g, cap, e1, e2⟩ : ∃ g cap, Value.slice va J.l.length vc = .slice (some ⟨g, 0, none⟩) J.l.length cap ∧ ∀ j u, (strVs J.l)[j]? = some u → w.cell? ((⟨g, 0, none⟩ : Addr).add j) = some u := by
        rcases hrow.2 with ⟨h2, h3⟩ | ⟨g, cap, cur, h2, _⟩
        · omega
        · exact ⟨g, cap, h2, fun j u hj => hrow.cells (g := g) (by rw [h2]; rfl) j u hj⟩
      have hcell := e2 m (.string (bs (J.l.getD m []))) (by simp [strVs, List.getElem?_eq_getElem hm, List.getD_eq_getElem?_getD])
      rw [Lib.add_plain] at hcell
      simp only [Nat.zero_add] at hcell
      simp only [Value.slice.injEq] at e1
      obtain ⟨rfl, _, rfl⟩ := e1
      clear hrow e2 hn h0
      go_enter Tryd.func33, Tryd.ntmps33
      go_wp2
      go_ret
      exact ⟨by rw [List.getD_eq_getElem?_getD, List.getElem?_eq_getElem hm]; rfl, rfl⟩
    · rw [show J.l.getD m [] = [] from by rw [List.getD_eq_getElem?_getD, List.getElem?_eq_none (by omega)]; rfl]
      clear hrow hn h0
      go_enter Tryd.func33, Tryd.ntmps33
      go_wp2
      go_ret
      exact ⟨rfl, rfl⟩
set_option maxHeartbeats 1000000 in
set_option maxRecDepth 100000 in
theorem cloneT (v : Value) (n : Nat) (xs : List Value) (w : World) (h : SrcIs w 1 v n xs) (hn : n * 16 ≤ 140737488355328) :
    Calls Tryd.prog 38 #[v] w (ClonePost w 9 1 n xs) := by
  obtain ⟨i0, hi, hz0, hz1, hz2⟩ := info_parts string_info
  have q22 : ∀ (w : World) (a : Option Addr) (n c n' c' : Nat), (binOp .eql 32 (.slice a n c) (.slice none n' c')).run Tryd.prog w = .ok (.bool a.isNone) w := fun w a n c n' c' => Lib.run_eql_slice_nil w _ _ a n c n' c' Tryd.underlying32
  obtain ⟨hl, h⟩ := h
  rcases h with ⟨rfl, rfl⟩ | ⟨ad, cap, rfl, hc, h1⟩
  · obtain rfl : xs = [] := List.eq_nil_of_length_eq_zero (by omega)
    go_enter Tryd.func38, Tryd.ntmps38
    go_wp2
    go_ret
    exact ⟨_, rfl, ⟨World.ownsRow_nil _ _ _ _, fun k hk => by cases hk⟩, Below.refl _ _⟩
  · have HC := Lib.hid hc
    have H1 := Lib.hid h1
    have HL := Lib.hid hl
    clear hc h1 hl
    go_enter Tryd.func38, Tryd.ntmps38
    go_wp2_with (at_builtin; refine wpList_append_own_at _ rfl _ _ 32 rfl 0 9 i0 (.string ⟨#[]⟩) 1 16 Tryd.underlying32 hi hz0 hz1 hz2 rfl (by decide) _ _ _ rfl (World.ownsRow_made w #[] 0 (Nat.zero_le _) (by unfold maxLen; omega) (by simp)) ad n cap xs rfl HL.out ?c1 H1.out ?c3 ?c4 (Nat.zero_le _) ?_)
    case c1 =>
      intro j u hj
      have := HC.out j u hj
      exact (World.grownBy_alloc w _ none).cell this (by simp)
    case c3 => unfold maxLen; omega
    case c4 => omega
    intro v' w1 hown hg _ hat
    have hg := (show (w.alloc (.cells #[] 9)).grownBy w1 (some w.heap.size) from hg)
    have HAT := Lib.hid hat
    clear hat
    go_wp2
    go_ret
    refine ⟨v', rfl, ⟨by simpa using hown, fun k hk => ?_⟩, ?_⟩
    · rcases HAT.out with h | h
      · have h2 := h.symm.trans hk; simp [Value.ownBlock] at h2; omega
      · have h2 := h.symm.trans hk; simp at h2; omega
    · exact ((Below.refl _ _).alloc (Nat.le_refl _) _).grown hg (by simp) (fun k hk => by cases hk; exact Nat.le_refl _)
theorem oneCell_strs (l : List (List UInt8)) : ∀ u ∈ strVs l, u.oneCell' = true := by
  intro u hu; obtain ⟨b, _, rfl⟩ := List.mem_map.1 hu; rfl
theorem forms_count : ∀ l : List (List UInt8), l.length ≤ (forms l).length := by
  intro l
  induction l with
  | nil => simp
  | cons a l ih => rw [forms_cons]; have := form_pos a; simp; omega
set_option maxRecDepth 100000 in
/-- All: a copy of the list, as an object of its own. -/
theorem o_all (h : OMem w0 w os) (hk : os[k]? = some (.jour b d J)) :
    Calls Tryd.prog 13 #[.pointer (some ⟨b, 0, none⟩)] w fun e w' => ∃ v, e = .returned v ∧ OMem w0 w' (os ++ [.own 9 v (strVs J.l)]) := by
  obtain ⟨v, hc⟩ := h.jour hk
  have c2 := hc.c2
  have hsz := hc.size
  have hfc := forms_count J.l
  have HX := Lib.hid (cloneT v J.l.length (strVs J.l) w (SrcIs.of_own hc.row (oneCell_strs _)) (by omega))
  have H := Lib.hid h
  clear h hc hsz hfc
  go_enter Tryd.func13, Tryd.ntmps13
  go_wp2_with (go_at_call 38; refine HX.out.mono ?_; rintro e w1 ⟨v1, rfl, f1, b1⟩)
  go_ret
  exact ⟨v1, rfl, H.out.row b1 (by rw [strVs_length]; exact f1.1) f1.2⟩
end
end Go.Proofs.YtjbcgahdiolhhaaDoor.D2
