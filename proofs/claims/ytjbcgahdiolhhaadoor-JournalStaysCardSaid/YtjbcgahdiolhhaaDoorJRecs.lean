/- recordsOf: the records of a string, and their length. -/
import Derived.Test.YtjbcgahdiolhhaaDoorJSum
import Derived.Test.YtjbcgahdiolhhaaDoorSmall
import Derived.WalkMore
import Derived.Deep.Onto
namespace Go.Proofs.YtjbcgahdiolhhaaDoor.D2
open Go.RowKit Go.Shelf
open Jp

def strVs (l : List (List UInt8)) : List Value := l.map fun z : List UInt8 => Value.string (bs z)
theorem strVs_length (l : List (List UInt8)) : (strVs l).length = l.length := by simp [strVs]
theorem strVs_snoc (l : List (List UInt8)) (a : List UInt8) : strVs l ++ [Value.string (bs a)] = strVs (l ++ [a]) := by simp [strVs]
/-- What recordsOf leaves: a list of its own, and its length. -/
def RecsPost (w : World) (l : List (List UInt8)) (n : Int) (e : Ending) (w' : World) : Prop :=
  ∃ v, e = .returned (.tuple #[v, .int .i64 n]) ∧ w'.ownsRow w.heap.size 9 1 v l.length (strVs l) ∧ Below w.heap.size w w'
/-- How far the reading has come. -/
structure Scan (s : List UInt8) (ts : List (List UInt8)) (u : List UInt8) : Prop where
  text : s = forms ts ++ u
  recs : recs s = ts ++ Jp.recs u
theorem Scan.next {s u a v : List UInt8} {ts : List (List UInt8)} (h : Scan s ts u) (hr : rec1 u = some (a, v)) : Scan s (ts ++ [a]) v := by
  refine ⟨?_, ?_⟩
  · rw [h.text, forms_snoc, List.append_assoc, ← (rec1_some hr).1]
  · rw [h.recs, recs_some hr]; simp
theorem Scan.done {s u : List UInt8} {ts : List (List UInt8)} (h : Scan s ts u) (hr : rec1 u = none) : Jp.recs s = ts ∧ (forms ts).length = s.length - u.length := by
  refine ⟨by rw [h.recs, recs_none hr, List.append_nil], ?_⟩
  have := congrArg List.length h.text
  rw [List.length_append] at this
  omega
theorem Scan.len {s u : List UInt8} {ts : List (List UInt8)} (h : Scan s ts u) : u.length ≤ s.length ∧ ts.length ≤ s.length := by
  have h1 := congrArg List.length h.text
  rw [List.length_append] at h1
  have : ∀ l : List (List UInt8), l.length ≤ (forms l).length := by
    intro l
    induction l with
    | nil => simp
    | cons a l ih => rw [forms_cons]; have := form_pos a; simp; omega
  have := this ts
  omega
/-- What is read of what is left. -/
theorem read_next (u : List UInt8) : ∃ a n st1 st2, rText (some u) = (a, st1) ∧ rNum 59 st1 = (n, st2) ∧ a.length ≤ u.length ∧ (st1.getD []).length ≤ u.length ∧ Sp.I64 n ∧
    ((st2 = none ∧ rec1 u = none) ∨ ∃ v, st2 = some v ∧ v.length ≤ u.length ∧ rec1 u = if a.length ≤ 20000 ∧ n = (jsum a : Int) then some (a, v) else none) := by
  rcases h1 : Sp.pText u with _ | ⟨a, u1⟩
  · exact ⟨[], 0, none, none, by simp [rText, h1], rfl, by simp, by simp, ⟨by decide, by decide⟩, .inl ⟨rfl, by simp [rec1, h1]⟩⟩
  · have hl := Sp.pText_less h1
    have ha : a.length ≤ u.length := by have := congrArg List.length (Sp.eText_p h1); simp [Sp.eText] at this; omega
    rcases h2 : Sp.pNum 59 u1 with _ | ⟨n, v⟩
    · exact ⟨a, 0, some u1, none, by simp [rText, h1], by simp [rNum, h2], ha, by simp; omega, ⟨by decide, by decide⟩, .inl ⟨rfl, by simp [rec1, h1, h2]⟩⟩
    · obtain ⟨e1, e2, _⟩ := Sp.pNum_some h2
      have hv : v.length ≤ u1.length := by have := congrArg List.length e1; simp at this; omega
      exact ⟨a, n, some u1, some v, by simp [rText, h1], by simp [rNum, h2], ha, by simp; omega, e2, .inr ⟨v, rfl, by omega, by simp [rec1, h1, h2]⟩⟩

theorem recs_len {z : Int} {n : Nat} {f : List UInt8} {v : List UInt8} (h : z = (n : Int)) (h2 : n = f.length + v.length) (h3 : n ≤ 1099511627776) : Value.int IntKind.i64 (wrap64 (z - (v.length : Int))) = Value.int IntKind.i64 (f.length : Int) := by
  rw [h, w64_of (by omega)]
  congr 1
  omega
theorem recs_len0 {z : Int} {n : Nat} {f : List UInt8} (h : z = (n : Int)) (h2 : n = f.length + ([] : List UInt8).length) : Value.int IntKind.i64 z = Value.int IntKind.i64 (f.length : Int) := by
  rw [h]
  congr 1
  simp at h2
  omega
theorem recs_meas {n : Nat} {ts : List (List UInt8)} (a : List UInt8) (h : (forms (ts ++ [a])).length ≤ n) : n - (intOf (Value.int IntKind.i64 ((forms (ts ++ [a])).length : Int))).toNat < n - (intOf (Value.int IntKind.i64 ((forms ts).length : Int))).toNat := by
  have := form_pos a
  rw [forms_snoc] at h ⊢
  simp [intOf] at h ⊢
  omega

set_option maxHeartbeats 4000000 in
set_option maxRecDepth 100000 in
theorem recordsOf_any (s : List UInt8) (hs : s.length ≤ 1099511627776) (w : World) (he : Env w) :
    Calls Tryd.prog 35 #[.string (bs s)] w (RecsPost w (recs s) ((forms (recs s)).length : Int)) := by
  obtain ⟨i0, hi, hz0, hz1, hz2⟩ := info_parts string_info
  have hsz : ((bs s).size : Int) = (s.length : Int) := by rw [bs_size]
  have HSZ := Lib.hid hsz
  have hsz2 : (bs s).size ≤ 1099511627776 := by rw [bs_size]; exact hs
  have HS := Lib.hid hs
  have hg0 := he.size
  clear hsz hs
  go_enter Tryd.func35, Tryd.ntmps35
  go_wp2
  go_step3
  go_wp2_with (go_at_call 23; refine (open_any s _).mono ?_; rintro e w1 ⟨rfl, h1, b1⟩; refine Hid.out ?_)
  refine Lib.hid ?_
  go_wp2
  go_step3
  go_wp2
  go_loopw [2, 3] (fun rv ln wr => ∃ (ts : List (List UInt8)) (u : List UInt8), Hid (Scan s ts u) ∧ ln = .int .i64 (((forms ts).length : Nat) : Int) ∧ wr.ownsRow (w.heap.size + 1) 9 1 rv ts.length (strVs ts) ∧ RdAt 80 w.heap.size (some u) wr ∧ Below w.heap.size w wr) (fun _ ln _ => s.length - (intOf ln).toNat)
  case atStart => exact ⟨[], s, Lib.hid ⟨rfl, rfl⟩, rfl, World.ownsRow_nil _ _ _ _, h1, b1⟩
  case round =>
    obtain ⟨ts, u, HP, rfl, hown, hrd, br⟩ := hrel
    clear h1 b1 w1
    have er := he.fresh br
    obtain ⟨a, n, st1, st2, r1, r2, la, l1, hn, hr⟩ := read_next u
    have lu := HP.out.len
    have lS := HS.out
    have T1 := text_any w.heap.size (some u) (by simp; omega)
    rw [r1] at T1
    have T1 := Lib.hid T1
    have T2 := num_any w.heap.size st1 (by omega)
    rw [r2] at T2
    have T2 := Lib.hid T2
    have hal : (bs a).size = a.length := bs_size a
    have HAL := Lib.hid hal
    have SA := Lib.hid (sum_any a (by omega))
    have hb := br.size
    clear r1 r2 hal
    rcases hr with ⟨rfl, hr⟩ | ⟨v, rfl, lv, hr⟩
    · obtain ⟨e1, e2⟩ := HP.out.done hr
      have HD := Lib.hid e1
      clear e1 e2 hr
      go_wp2_with (go_at_call 25; refine (T1.out _ er hrd).mono ?_; rintro e w2 ⟨rfl, h2, g2⟩; refine Hid.out ?_)
      refine Lib.hid ?_
      have br2 := below_trans_gb br g2 (Nat.le_refl _) (Nat.le_refl _)
      have er2 := he.fresh br2
      have hown2 := hown.kept g2 (.inr (own_reader hown (by omega)))
      go_wp2_with (go_at_call 26; refine (T2.out _ er2 h2).mono ?_; rintro e w3 ⟨rfl, h3, g3⟩; refine Hid.out ?_)
      refine Lib.hid ?_
      have br3 := below_trans_gb br2 g3 (Nat.le_refl _) (Nat.le_refl _)
      have hown3 := hown2.kept g3 (.inr (own_reader hown2 (by omega)))
      have hb3 := br3.size
      clear hrd h2 g2 g3 er er2 br br2 hown hown2
      go_wp2_with (go_at_call 51; refine (done_any _ none _ h3).mono ?_; rintro e w4 ⟨rfl, rfl⟩)
      go_wp2_with (go_at_call 24; refine (left_any _ rfl _ none _ h3).mono ?_; rintro e w4 ⟨rfl, rfl⟩)
      go_ret2
      rw [show recs s = ts from HD.out]
      exact ⟨_, rfl, hown3.mono (Nat.le_succ _), br3⟩
    · go_wp2_with (go_at_call 25; refine (T1.out _ er hrd).mono ?_; rintro e w2 ⟨rfl, h2, g2⟩; refine Hid.out ?_)
      refine Lib.hid ?_
      have br2 := below_trans_gb br g2 (Nat.le_refl _) (Nat.le_refl _)
      have er2 := he.fresh br2
      have hown2 := hown.kept g2 (.inr (own_reader hown (by omega)))
      go_wp2_with (go_at_call 26; refine (T2.out _ er2 h2).mono ?_; rintro e w3 ⟨rfl, h3, g3⟩; refine Hid.out ?_)
      refine Lib.hid ?_
      have br3 := below_trans_gb br2 g3 (Nat.le_refl _) (Nat.le_refl _)
      have hown3 := hown2.kept g3 (.inr (own_reader hown2 (by omega)))
      have hb3 := br3.size
      clear hrd h2 g2 g3 er er2 br br2 hown hown2
      have HR := Lib.hid hr
      clear hr
      have ha2 : (bs a).size ≤ 1099511627776 := by rw [HAL.out]; omega
      rcases v with _ | ⟨c, v⟩
      · have d1 : rDone (some []) = true := rfl
        go_wp2_with (go_at_call 51; refine (done_any _ (some []) _ h3).mono ?_; rintro e w4 ⟨rfl, rfl⟩; refine Hid.out ?_)
        refine Lib.hid ?_
        clear d1
        by_cases hlen : a.length ≤ 20000
        · have hl2 : (bs a).size ≤ 20000 := by rw [HAL.out]; exact hlen
          go_wp2_with (go_at_call 29; refine (SA.out _).mono ?_; rintro e w4 ⟨rfl, rfl⟩; refine Hid.out ?_)
          refine Lib.hid ?_
          by_cases hsum : n = (jsum a : Int)
          · have hnx := HP.out.next (HR.out.trans (if_pos ⟨hlen, hsum⟩))
            have HN := Lib.hid hnx
            clear hnx
            subst hsum
            go_wp2_with (at_builtin; refine Hid.out ?_)
            refine Lib.hid ?_
            refine (wpList_append_own _ rfl _ _ 32 rfl (w.heap.size + 1) 9 i0 (.string ⟨#[]⟩) 1 16 Tryd.underlying32 hi hz0 hz1 hz2 rfl (by decide) _ _ _ rfl (hown3.alloc _) ⟨w3.heap.size, 0, none⟩ 1 1 [.string (bs a)] rfl rfl ?c1 ?c2 ?c3 ?c4 ?c5 ?_)
            case c1 =>
              intro j y hj
              match j, hj with
              | 0, hj => simp at hj; subst hj; simp [Addr.add]
            case c2 => intro y hy; simp at hy; subst hy; rfl
            case c3 => unfold maxLen; omega
            case c4 => omega
            case c5 => have := h3.lt; simp; omega
            intro v' w4 hown4 hgrow _
            have h4 : RdAt 80 w.heap.size (some []) w4 := by
              refine RdAt.old (w := w3.alloc (.cells #[.string (bs a)] 9)) ?_ hgrow (fun e => own_reader hown3 (by omega) e.symm)
              exact RdAt.fresh h3 ((Below.refl _ _).alloc (Nat.le_refl _) _)
            have br4 : Below w.heap.size w w4 := (br3.alloc (by omega) _).grown hgrow (by simp; omega) (fun k hk => by have := (hown3.lt k hk).1; omega)
            have hown5 : w4.ownsRow (w.heap.size + 1) 9 1 v' (ts ++ [a]).length (strVs (ts ++ [a])) := by
              rw [← strVs_snoc]; simpa using hown4
            have HL := congrArg List.length HN.out.text
            rw [List.length_append] at HL
            have HL2 := Lib.hid HL
            clear HL hown3 hown4 hgrow h3 br3
            go_wp2_with (go_at_call 24; refine (left_any _ rfl _ (some []) _ h4).mono ?_; rintro e w5 ⟨rfl, rfl⟩; refine Hid.out ?_)
            refine Lib.hid ?_
            go_wp2
            go_roundw
            case rel => exact ⟨ts ++ [a], [], HN, recs_len0 HSZ.out HL2.out, hown5, h4, br4⟩
            case measure =>
              have h1 := recs_len0 HSZ.out HL2.out
              rw [h1]
              exact recs_meas _ (by have := HL2.out; omega)
          · have HD := Lib.hid (HP.out.done (HR.out.trans (if_neg (fun h => hsum h.2)))).1
            go_wp2
            go_ret2
            rw [show recs s = ts from HD.out]
            exact ⟨_, rfl, hown3.mono (Nat.le_succ _), br3⟩
        · have hl2 : 20000 < (bs a).size := by rw [HAL.out]; omega
          have HD := Lib.hid (HP.out.done (HR.out.trans (if_neg (fun h => hlen h.1)))).1
          go_wp2
          go_ret2
          rw [show recs s = ts from HD.out]
          exact ⟨_, rfl, hown3.mono (Nat.le_succ _), br3⟩
      · have d1 : rDone (some (c :: v)) = false := rfl
        go_wp2_with (go_at_call 51; refine (done_any _ (some (c :: v)) _ h3).mono ?_; rintro e w4 ⟨rfl, rfl⟩; refine Hid.out ?_)
        refine Lib.hid ?_
        clear d1
        go_wp2_with (go_at_call 24; refine (left_any _ rfl _ (some (c :: v)) _ h3).mono ?_; rintro e w4 ⟨rfl, rfl⟩; refine Hid.out ?_)
        refine Lib.hid ?_
        by_cases hlen : a.length ≤ 20000
        · have hl2 : (bs a).size ≤ 20000 := by rw [HAL.out]; exact hlen
          go_wp2_with (go_at_call 29; refine (SA.out _).mono ?_; rintro e w4 ⟨rfl, rfl⟩; refine Hid.out ?_)
          refine Lib.hid ?_
          by_cases hsum : n = (jsum a : Int)
          · have hnx := HP.out.next (HR.out.trans (if_pos ⟨hlen, hsum⟩))
            have HN := Lib.hid hnx
            clear hnx
            subst hsum
            go_wp2_with (at_builtin; refine Hid.out ?_)
            refine Lib.hid ?_
            refine (wpList_append_own _ rfl _ _ 32 rfl (w.heap.size + 1) 9 i0 (.string ⟨#[]⟩) 1 16 Tryd.underlying32 hi hz0 hz1 hz2 rfl (by decide) _ _ _ rfl (hown3.alloc _) ⟨w3.heap.size, 0, none⟩ 1 1 [.string (bs a)] rfl rfl ?c1q ?c2q ?c3q ?c4q ?c5q ?_)
            case c1q =>
              intro j y hj
              match j, hj with
              | 0, hj => simp at hj; subst hj; simp [Addr.add]
            case c2q => intro y hy; simp at hy; subst hy; rfl
            case c3q => unfold maxLen; omega
            case c4q => omega
            case c5q => have := h3.lt; simp; omega
            intro v' w4 hown4 hgrow _
            have h4 : RdAt 80 w.heap.size (some (c :: v)) w4 := by
              refine RdAt.old (w := w3.alloc (.cells #[.string (bs a)] 9)) ?_ hgrow (fun e => own_reader hown3 (by omega) e.symm)
              exact RdAt.fresh h3 ((Below.refl _ _).alloc (Nat.le_refl _) _)
            have br4 : Below w.heap.size w w4 := (br3.alloc (by omega) _).grown hgrow (by simp; omega) (fun k hk => by have := (hown3.lt k hk).1; omega)
            have hown5 : w4.ownsRow (w.heap.size + 1) 9 1 v' (ts ++ [a]).length (strVs (ts ++ [a])) := by
              rw [← strVs_snoc]; simpa using hown4
            have HL := congrArg List.length HN.out.text
            rw [List.length_append] at HL
            have HL2 := Lib.hid HL
            clear HL hown3 hown4 hgrow h3 br3
            go_wp2_with (go_at_call 24; refine (left_any _ rfl _ (some (c :: v)) _ h4).mono ?_; rintro e w5 ⟨rfl, rfl⟩; refine Hid.out ?_)
            refine Lib.hid ?_
            go_wp2
            go_roundw
            case rel => exact ⟨ts ++ [a], (c :: v), HN, recs_len HSZ.out HL2.out lS, hown5, h4, br4⟩
            case measure =>
              have h1 : Value.int IntKind.i64 (wrap64 (((bs s).size : Int) - ((v.length : Int) + 1))) = _ := recs_len HSZ.out HL2.out lS
              rw [h1]
              exact recs_meas _ (by have := HL2.out; omega)
          · have HD := Lib.hid (HP.out.done (HR.out.trans (if_neg (fun h => hsum h.2)))).1
            go_wp2
            go_ret2
            rw [show recs s = ts from HD.out]
            exact ⟨_, rfl, hown3.mono (Nat.le_succ _), br3⟩
        · have hl2 : 20000 < (bs a).size := by rw [HAL.out]; omega
          have HD := Lib.hid (HP.out.done (HR.out.trans (if_neg (fun h => hlen h.1)))).1
          go_wp2
          go_ret2
          rw [show recs s = ts from HD.out]
          exact ⟨_, rfl, hown3.mono (Nat.le_succ _), br3⟩
end Go.Proofs.YtjbcgahdiolhhaaDoor.D2
