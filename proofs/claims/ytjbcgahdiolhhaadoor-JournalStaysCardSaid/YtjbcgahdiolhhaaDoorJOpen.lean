/- Open of a journal. -/
import Derived.Test.YtjbcgahdiolhhaaDoorJApp
namespace Go.Proofs.YtjbcgahdiolhhaaDoor.D2
open Go.RowKit Go.Maps Go.ChangeMaps Go.MapKept
open Dp Jp
attribute [local go_sem ↓] Go.wp_at_zero Go.wp_at_succ

section
variable {w0 w : World} {os : List Ob} {i d : Nat} {D : Dk} {v : Value} {l : List (List UInt8)}
/-- What Open leaves of the disk at place i. -/
def OpenPost (w0 : World) (os : List Ob) (i d : Nat) (f : Int) (r : Option (List (List UInt8)) × Int × Dk) (e : Ending) (w' : World) : Prop :=
  (r.1 = none ∧ e = .returned (.tuple #[.pointer none, .int .i64 r.2.1]) ∧ OMem w0 w' (os.set i (.disk d r.2.2))) ∨
  ∃ l b, r.1 = some l ∧ e = .returned (.tuple #[.pointer (some ⟨b, 0, none⟩), .int .i64 r.2.1]) ∧ OMem w0 w' (os.set i (.disk d r.2.2) ++ [.jour b d ⟨f, l, false⟩])
theorem OMem.ok (h : OMem w0 w os) (hi : os[i]? = some (.disk d D)) : D.Ok := by
  obtain ⟨lab, h⟩ := h
  obtain ⟨⟨L, h1⟩, _⟩ := h.at_ i _ hi
  exact h1.ok
theorem i64_err_truncate (D : Dk) (f n : Int) : I64 (D.truncate f n).1 := by
  apply i64_small
  unfold Dk.truncate eDown eArg eOK
  split
  · exact ⟨by simp, by simp⟩
  · simp only
    split
    · exact ⟨by simp, by simp⟩
    · split <;> exact ⟨by simp, by simp⟩

theorem set_push {α : Type} (l : List α) (x y : α) : (l ++ [x]).set l.length y = l ++ [y] := by simp
theorem get_push {α : Type} (l : List α) (x : α) : (l ++ [x])[l.length]? = some x := by simp
theorem set_app {α : Type} {l : List α} {i : Nat} (h : i < l.length) (x a b : α) : (l.set i x ++ [a]).set i b = l.set i b ++ [a] := by
  rw [List.set_append_left _ _ (by simpa using h), List.set_set]
theorem get_app {α : Type} {l : List α} {i : Nat} {x : α} (h : l[i]? = some x) (a : α) : (l ++ [a])[i]? = some x := by
  obtain ⟨hlt, _⟩ := List.getElem?_eq_some_iff.1 h
  rw [List.getElem?_append_left hlt]; exact h
/-- A list of one's own becomes a journal. -/
theorem OMem.made (h : OMem w0 w (os ++ [.own 9 v (strVs l)])) (f : Int) (hf : I64 f) (hsz : ((forms l).length : Int) ≤ 16777216) (d : Nat) :
    OMem w0 (w.alloc (.cells #[.pointer (some ⟨d, 0, none⟩), .int .i64 f, v, .int .i64 ((forms l).length : Int), .bool false] 73)) (os ++ [.jour w.heap.size d ⟨f, l, false⟩]) := by
  have := h.toJour (d := d) (get_push os _) (below_alloc w _) (Nat.le_refl _) f false (MapKept.heap_alloc w _).1 hf hsz
  rw [set_push] at this
  exact this

set_option maxHeartbeats 4000000 in
set_option maxRecDepth 100000 in
theorem o_open (h : OMem w0 w os) (hi : os[i]? = some (.disk d D)) (f : Int) (hf : I64 f) (he : Env w0) :
    Calls Tryd.prog 10 #[.pointer (some ⟨d, 0, none⟩), .int .i64 f] w (OpenPost w0 os i d f (jopen D f)) := by
  have hlt := (List.getElem?_eq_some_iff.1 hi).1
  cases hb : isFile f with
  | false =>
    have HR := Lib.hid (show jopen D f = (none, 1, D) by unfold jopen; rw [if_pos hb])
    have H := Lib.hid h
    have h2 : f < 0 ∨ 16 ≤ f := by unfold isFile at hb; rw [decide_eq_false_iff_not] at hb; omega
    clear hb h
    rcases h2 with h2 | h2
    all_goals
      go_enter Tryd.func10, Tryd.ntmps10
      go_wp2
      go_ret2
      unfold OpenPost
      rw [HR.out]
      exact .inl ⟨rfl, rfl, by simp only; rw [set_noop hi]; exact H.out⟩
  | true =>
    have h2 : 0 ≤ f ∧ f < 16 := by unfold isFile at hb; rw [decide_eq_true_iff] at hb; exact hb
    have h3 := h2.1
    have h4 := h2.2
    have hr := i64_err_sync D f
    have HX := Lib.hid (o_sync h hi f hf)
    have HJ : Hid (jopen D f = if (D.sync f).1 ≠ 0 then (none, (D.sync f).1, (D.sync f).2)
      else if (forms (recs (D.now f.toNat))).length < (D.now f.toNat).length then
        if ((D.sync f).2.truncate f ((forms (recs (D.now f.toNat))).length : Int)).1 ≠ 0 then (none, ((D.sync f).2.truncate f ((forms (recs (D.now f.toNat))).length : Int)).1, ((D.sync f).2.truncate f ((forms (recs (D.now f.toNat))).length : Int)).2)
        else (some (recs (D.now f.toNat)), 0, ((D.sync f).2.truncate f ((forms (recs (D.now f.toNat))).length : Int)).2)
      else (some (recs (D.now f.toNat)), 0, (D.sync f).2)) := Lib.hid (by unfold jopen; rw [hb, if_neg (by simp)])
    have HS := Lib.hid (fun e => (sync_ok (h.good hi) (f := f) e))
    have hnow := (h.ok hi).now f.toNat
    have H := Lib.hid h
    clear h2 h
    generalize D.now f.toNat = s at HJ HS hnow
    generalize D.sync f = r at HX HJ HS hr
    have HI := Lib.hid (set_here (a := Ob.disk d r.2) hi)
    by_cases h0 : r.1 = 0
    · obtain ⟨_, hup, _, hst⟩ := HS.out h0
      have hsz : r.2.size f = s.length := by unfold Dk.size; rw [hb, if_pos rfl, hst.now]
      have hrd : r.2.read f 0 (s.length : Int) = (s, 0) := by rw [read_all hup hb (by rw [hst.now]; exact Int.le_refl _), hst.now]
      have HRD := Lib.hid hrd
      have HSZ := Lib.hid hsz
      have hbs := bs_size s
      have hbs1 : (bs s).size ≤ 16777216 := by omega
      have HBS := Lib.hid hbs
      have HREC := Lib.hid (recordsOf_any s (by omega))
      have hpre := (recs_pre s).length_le
      have HT := i64_err_truncate r.2 f ((forms (recs s)).length : Int)
      have hl5 : (forms (recs s)).length ≤ 16777216 := by omega
      have HJ2 : Hid (jopen D f = if (forms (recs s)).length < s.length then
        if (r.2.truncate f ((forms (recs s)).length : Int)).1 ≠ 0 then (none, (r.2.truncate f ((forms (recs s)).length : Int)).1, (r.2.truncate f ((forms (recs s)).length : Int)).2)
        else (some (recs s), 0, (r.2.truncate f ((forms (recs s)).length : Int)).2)
      else (some (recs s), 0, r.2)) := Lib.hid (by rw [HJ.out, if_neg (by simpa using h0)])
      have H0 := Lib.hid h0
      rw [h0] at HX
      clear hst hsz hrd hbs HJ HS h0 hr
      go_enter Tryd.func10, Tryd.ntmps10
      go_wp2_with (go_at_call 34; refine HX.out.mono ?_; rintro e w1 ⟨rfl, m1⟩; refine Hid.out ?_)
      refine Lib.hid ?_
      have M1 := Lib.hid m1
      have HC1 := o_size m1 HI.out f hf
      rw [HSZ.out] at HC1
      have HC2 := o_read m1 HI.out f 0 (s.length : Int) hf ⟨by decide, by decide⟩ ⟨by omega, by omega⟩
      rw [HRD.out] at HC2
      have HC1 := Lib.hid HC1
      have HC2 := Lib.hid HC2
      clear m1
      go_wp2_with (go_at_call 31; refine HC1.out.mono ?_; rintro e w2 ⟨rfl, rfl⟩; refine Hid.out ?_)
      refine Lib.hid ?_
      go_wp2_with (go_at_call 30; refine HC2.out.mono ?_; rintro e w2 ⟨rfl, m2⟩; refine Hid.out ?_)
      refine Lib.hid ?_
      have M2 := Lib.hid m2
      have e2 := m2.env he
      clear m2
      go_wp2_with (go_at_call 35; refine (HREC.out _ e2).mono ?_; rintro e w3 ⟨v, rfl, hrow, b3⟩; refine Hid.out ?_)
      refine Lib.hid ?_
      obtain ⟨va, vc, rfl⟩ := own_form hrow
      have m3 := M2.out.row b3 (by rw [strVs_length]; exact hrow.mono (Nat.zero_le _)) (fun k hk => (hrow.lt k hk).1)
      have M3 := Lib.hid m3
      clear m3 e2 hrow b3
      have HI3 := Lib.hid (get_app HI.out (Ob.own 9 (.slice va (recs s).length vc) (strVs (recs s))))
      by_cases hlen : (forms (recs s)).length < s.length
      · have hl6 : ((forms (recs s)).length : Int) < ((bs s).size : Int) := by rw [HBS.out]; omega
        have HY := Lib.hid (o_truncate M3.out HI3.out f ((forms (recs s)).length : Int) hf ⟨by omega, by omega⟩)
        have HJ3 := Lib.hid (HJ2.out.trans (if_pos hlen))
        clear hlen HJ2
        generalize r.2.truncate f ((forms (recs s)).length : Int) = t at HY HJ3 HT
        by_cases ht : t.1 = 0
        · have HR := Lib.hid (HJ3.out.trans (if_neg (by simpa using ht)))
          rw [ht] at HY
          have HTZ := Lib.hid ht
          clear ht HT
          go_wp2_with (go_at_call 36; refine HY.out.mono ?_; rintro e w4 ⟨rfl, m4⟩; have M4 := Lib.hid m4; clear m4)
          go_ret2
          unfold OpenPost
          rw [HR.out]
          have := M4.out
          rw [set_app hlt] at this
          exact .inr ⟨_, _, rfl, rfl, this.made f hf (by omega) d⟩
        · have HR := Lib.hid (HJ3.out.trans (if_pos ht))
          go_wp2_with (go_at_call 36; refine HY.out.mono ?_; rintro e w4 ⟨rfl, m4⟩; have M4 := Lib.hid m4; clear m4)
          go_ret2
          unfold OpenPost
          rw [HR.out]
          have := M4.out.take os.length
          rw [set_app hlt, List.take_left' (by simp)] at this
          exact .inl ⟨rfl, rfl, this⟩
      · have hl6 : ¬ ((forms (recs s)).length : Int) < ((bs s).size : Int) := by rw [HBS.out]; omega
        have HR := Lib.hid (HJ2.out.trans (if_neg hlen))
        clear hlen HT
        go_wp2
        go_ret2
        unfold OpenPost
        rw [HR.out]
        exact .inr ⟨_, _, rfl, rfl, M3.out.made f hf (by omega) d⟩
    · have HR := Lib.hid (HJ.out.trans (if_pos h0))
      clear HS
      go_enter Tryd.func10, Tryd.ntmps10
      go_wp2_with (go_at_call 34; refine HX.out.mono ?_; rintro e w1 ⟨rfl, m1⟩; have M1 := Lib.hid m1; clear m1)
      go_ret2
      unfold OpenPost
      rw [HR.out]
      exact .inl ⟨rfl, rfl, M1.out⟩
end
end Go.Proofs.YtjbcgahdiolhhaaDoor.D2
