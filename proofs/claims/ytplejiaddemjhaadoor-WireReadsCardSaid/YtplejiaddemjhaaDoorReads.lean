/-
  WireReads' walk: whatever the string and the calls, the Go function returns true and turns nothing that was there.
  Conditions: what the library's own variables hold, and the list of calls lies whole in memory.
-/
import Derived.Test.YtplejiaddemjhaaDoorRead4
namespace Go.Proofs.YtplejiaddemjhaaDoor
open Go.RowKit Go.Shelf

theorem st_len {s : List UInt8} {st : Option (List UInt8)} {e : List UInt8} (h : st = none ∨ ∃ u, st = some u ∧ s = e ++ u) : (st.getD []).length ≤ s.length := by
  rcases h with rfl | ⟨u, rfl, rfl⟩ <;> simp
theorem len_num (st : Option (List UInt8)) (h : (st.getD []).length ≤ 400) : ((rNum 59 st).2.getD []).length ≤ 400 := by
  cases st with
  | none => simp [rNum]
  | some s => exact Nat.le_trans (st_len (st_num s).2) h
theorem len_int (st : Option (List UInt8)) (h : (st.getD []).length ≤ 400) : ((rInt 59 st).2.getD []).length ≤ 400 := by
  cases st with
  | none => simp [rInt]
  | some s => exact Nat.le_trans (st_len (st_int s).2) h
theorem len_text (st : Option (List UInt8)) (h : (st.getD []).length ≤ 400) : ((rText st).2.getD []).length ≤ 400 := by
  cases st with
  | none => simp [rText]
  | some s => exact Nat.le_trans (st_len (st_text s).2) h
theorem len_nums (st : Option (List UInt8)) (h : (st.getD []).length ≤ 400) : ((rList (Sp.pInt 59) st).2.getD []).length ≤ 400 ∧ (rList (Sp.pInt 59) st).1.length ≤ 400 := by
  cases st with
  | none => simp [rList]
  | some s => exact ⟨Nat.le_trans (st_len (st_nums s).2.2.2) h, Nat.le_trans (st_nums s).2.1 h⟩
theorem len_texts (st : Option (List UInt8)) (h : (st.getD []).length ≤ 400) : ((rList Sp.pText st).2.getD []).length ≤ 400 ∧ (rList Sp.pText st).1.length ≤ 400 := by
  cases st with
  | none => simp [rList]
  | some s => exact ⟨Nat.le_trans (st_len (st_texts s).2.2.2) h, Nat.le_trans (st_texts s).2.1 h⟩
theorem sameNums_self (v v' : Value) (l : List Int) (hm : l.length ≤ 400) (w : World) (h : IntsAt w v l) (h' : IntsAt w v' l) :
    Calls Tryd.prog 30 #[v, v'] w fun e w' => e = .returned (.bool true) ∧ Below w.heap.size w w' := by
  have := sameNums_any v v' l l (by omega) w h h'
  rwa [show decide (l = l) = true by simp] at this
theorem sameTexts_self (v v' : Value) (l : List (List UInt8)) (hm : l.length ≤ 400) (w : World) (h : TextsAt w v l) (h' : TextsAt w v' l) :
    Calls Tryd.prog 33 #[v, v'] w fun e w' => e = .returned (.bool true) ∧ Below w.heap.size w w' := by
  have := sameTexts_any v v' l l (by omega) w h h'
  rwa [show decide (l = l) = true by simp] at this
/-- A list that was made stays while a reader that lies below it moves. -/
theorem ListFrom.past {α : Type} {f : α → Value} {lo g : Nat} {w w' : World} {v : Value} {zs : List α} (h : ListFrom f lo w v zs) (hg : w.grownBy w' (some g)) (hl : g < lo) : ListFrom f lo w' v zs :=
  h.keep (fun k h1 h2 => hg.block k h2 (by intro e; injection e; omega)) hg.size
theorem ints_get {w wr : World} {a : Option Addr} {zs : List Int} (h : zs = [] ∨ ∃ b off, a = some ⟨b, off, none⟩ ∧ b < w.heap.size ∧ ∀ k, k < zs.length → w.cell? ⟨b, off + k, none⟩ = some (.int .i64 (zs.getD k 0)))
    (ho : ∀ z ∈ zs, Sp.I64 z) (hb : Below w.heap.size w wr) (k : Nat) (hk : k < zs.length) : ∃ b off z, a = some ⟨b, off, none⟩ ∧ wr.cell? ⟨b, off + k, none⟩ = some (.int .i64 z) ∧ Sp.I64 z := by
  rcases h with rfl | ⟨b, off, rfl, hbl, hc⟩
  · simp at hk
  · have hg : zs.getD k 0 = zs[k] := by rw [List.getD_eq_getElem?_getD, List.getElem?_eq_getElem hk]; rfl
    exact ⟨b, off, zs[k], rfl, by rw [hb.cell (p := ⟨b, off + k, none⟩) hbl, hc k hk, hg], ho _ (List.getElem_mem hk)⟩

set_option maxRecDepth 100000 in
theorem reads_long (s : List UInt8) (a : Option Addr) (n cap : Nat) (w : World) (he : Env w) (h : 400 < (bs s).size ∨ ((bs s).size ≤ 400 ∧ 20 < n)) :
    Calls Tryd.prog 4 #[.string (bs s), .slice a n cap] w fun e w' => e = .returned (.bool true) ∧ Below w.heap.size w w' := by
  rcases h with h | ⟨h, h'⟩
  all_goals
    go_enter Tryd.func4, Tryd.ntmps4
    go_wp2_with (go_at_call 9; refine (small_any _ he).mono ?_; rintro e w1 ⟨rfl, b1⟩)
    go_ret
    exact ⟨rfl, b1⟩

set_option maxRecDepth 100000 in
set_option maxHeartbeats 8000000 in
theorem reads_some (s : List UInt8) (hs : (bs s).size ≤ 400) (a : Option Addr) (zs : List Int) (cap : Nat) (hn : zs.length ≤ 20) (ho : ∀ z ∈ zs, Sp.I64 z) (w : World) (he : Env w)
    (hc : zs = [] ∨ ∃ b off, a = some ⟨b, off, none⟩ ∧ b < w.heap.size ∧ ∀ k, k < zs.length → w.cell? ⟨b, off + k, none⟩ = some (.int .i64 (zs.getD k 0))) :
    Calls Tryd.prog 4 #[.string (bs s), .slice a zs.length cap] w fun e w' => e = .returned (.bool true) ∧ Below w.heap.size w w' := by
  have HC := Lib.hid hc
  have HO := Lib.hid ho
  have hsl : s.length ≤ 400 := by rw [bs_size] at hs; exact hs
  clear hc ho
  go_enter Tryd.func4, Tryd.ntmps4
  go_wp2_with (go_at_call 9; refine (small_any _ he).mono ?_; rintro e w1 ⟨rfl, b1⟩; refine Hid.out ?_)
  refine Lib.hid ?_
  have m1 : w.heap.size ≤ w1.heap.size := b1.size
  have q1 : G0 ≤ w1.heap.size := (he.fresh b1).size
  go_wp2_with (go_at_call 21; refine (open_any s _).mono ?_; rintro e w2 ⟨rfl, r2, b2⟩; refine Hid.out ?_)
  refine Lib.hid ?_
  have k2 := b1.trans (b2.mono m1)
  have m2 : w1.heap.size < w2.heap.size := r2.lt
  clear b1 b2
  generalize w1.heap.size = B1 at m1 q1 r2 m2 ⊢
  go_wp2_with (go_at_call 22; refine (qOpen_any s _).mono ?_; rintro e w3 ⟨rfl, p3, b3⟩; refine Hid.out ?_)
  refine Lib.hid ?_
  have r3 := r2.fresh b3
  have k3 := k2.trans (b3.mono (by omega))
  clear k2 b3 r2
  generalize w2.heap.size = B2 at m2 p3 ⊢
  have hne : B1 ≠ B2 := by omega
  have hne' : B2 ≠ B1 := by omega
  have m2' : w.heap.size ≤ B2 := by omega
  go_wp2
  go_loopw [4, 8, 9] (fun _ i _ wr => ∃ (k : Nat) (st : Option (List UInt8)), k ≤ zs.length ∧ i = .int .i64 k ∧ (st.getD []).length ≤ 400 ∧ Hid (RdAt 54 B1 st wr) ∧ Hid (RdAt 56 B2 st wr) ∧ Below w.heap.size w wr) (fun _ i _ _ => zs.length - (intOf i).toNat)
  case atStart => exact ⟨0, some s, Nat.zero_le _, rfl, by simpa using hsl, Lib.hid r3, Lib.hid p3, k3⟩
  case round =>
    obtain ⟨k, st, hk, rfl, hst, HR, HP, kr⟩ := hrel
    clear r3 p3 k3
    have mr := kr.size
    by_cases hlt : k < zs.length
    · obtain ⟨b, off, z, rfl, c0, hz⟩ := ints_get HC.out HO.out kr k hlt
      by_cases h0 : z % 5 = 0
      · have HJ := Lib.hid h0
        clear h0
        go_wp2_with (go_at_call 23; refine (kind_at z 0 hz HJ.out _ _ _ _ _).mono ?_; rintro e w4 ⟨rfl, b4⟩; refine Hid.out ?_)
        refine Lib.hid ?_
        have r4 := HR.out.fresh b4
        have p4 := HP.out.fresh b4
        have k4 := kr.trans (b4.mono mr)
        have e4 := he.fresh k4
        have hl2 := len_num st hst
        have HW := num_any B1 st (by omega)
        have HQ := qrNum_any B2 st hst
        obtain ⟨v, st2, hR⟩ : ∃ v st2, (rNum 59 st) = (v, st2) := ⟨_, _, rfl⟩
        rw [hR] at HW HQ hl2
        have HW' := Lib.hid HW
        have HQ' := Lib.hid HQ
        have bl1 := r4.lt
        have bl2 := p4.lt
        clear HW HQ hR b4 kr HR HP c0
        go_wp2_with (first | (go_at_call 24; refine (HW'.out _ e4 r4).mono ?_; rintro x w5 ⟨rfl, r5, g5⟩; have p5 := p4.other g5 hne') | (go_at_call 25; refine (HQ'.out _ p5).mono ?_; rintro x w6 ⟨rfl, p6, g6⟩; have r6 := r5.other g6 hne) | (go_at_call 36; refine (left_any _ rfl _ st2 _ r6).mono ?_; rintro e w8 ⟨rfl, rfl⟩) | (go_at_call 37; refine (qLeft_any _ st2 _ p6).mono ?_; rintro e w8 ⟨rfl, rfl⟩) | (go_at_call 38; refine (done_any _ st2 _ r6).mono ?_; rintro e w8 ⟨rfl, rfl⟩) | (go_at_call 39; refine (qDone_any _ st2 _ p6).mono ?_; rintro e w8 ⟨rfl, rfl⟩))
        have k6 := below_trans_gb (below_trans_gb k4 g5 m1 (Nat.le_refl _)) g6 m2' (Nat.le_refl _)
        go_roundw
        case rel => exact ⟨k + 1, st2, by omega, by go_num, hl2, Lib.hid r6, Lib.hid p6, k6⟩
        case measure => simp [intOf]; omega
      by_cases h1 : z % 5 = 1
      · have HJ := Lib.hid h1
        clear h0 h1
        go_wp2_with (go_at_call 23; refine (kind_at z 1 hz HJ.out _ _ _ _ _).mono ?_; rintro e w4 ⟨rfl, b4⟩; refine Hid.out ?_)
        refine Lib.hid ?_
        have r4 := HR.out.fresh b4
        have p4 := HP.out.fresh b4
        have k4 := kr.trans (b4.mono mr)
        have e4 := he.fresh k4
        have hl2 := len_int st hst
        have HW := int_any B1 st (by omega)
        have HQ := qrInt_any B2 st hst
        obtain ⟨v, st2, hR⟩ : ∃ v st2, (rInt 59 st) = (v, st2) := ⟨_, _, rfl⟩
        rw [hR] at HW HQ hl2
        have HW' := Lib.hid HW
        have HQ' := Lib.hid HQ
        have bl1 := r4.lt
        have bl2 := p4.lt
        clear HW HQ hR b4 kr HR HP c0
        go_wp2_with (first | (go_at_call 26; refine (HW'.out _ e4 r4).mono ?_; rintro x w5 ⟨rfl, r5, g5⟩; have p5 := p4.other g5 hne') | (go_at_call 27; refine (HQ'.out _ p5).mono ?_; rintro x w6 ⟨rfl, p6, g6⟩; have r6 := r5.other g6 hne) | (go_at_call 36; refine (left_any _ rfl _ st2 _ r6).mono ?_; rintro e w8 ⟨rfl, rfl⟩) | (go_at_call 37; refine (qLeft_any _ st2 _ p6).mono ?_; rintro e w8 ⟨rfl, rfl⟩) | (go_at_call 38; refine (done_any _ st2 _ r6).mono ?_; rintro e w8 ⟨rfl, rfl⟩) | (go_at_call 39; refine (qDone_any _ st2 _ p6).mono ?_; rintro e w8 ⟨rfl, rfl⟩))
        have k6 := below_trans_gb (below_trans_gb k4 g5 m1 (Nat.le_refl _)) g6 m2' (Nat.le_refl _)
        go_roundw
        case rel => exact ⟨k + 1, st2, by omega, by go_num, hl2, Lib.hid r6, Lib.hid p6, k6⟩
        case measure => simp [intOf]; omega
      by_cases h2 : z % 5 = 2
      · have HJ := Lib.hid h2
        clear h0 h1 h2
        go_wp2_with (go_at_call 23; refine (kind_at z 2 hz HJ.out _ _ _ _ _).mono ?_; rintro e w4 ⟨rfl, b4⟩; refine Hid.out ?_)
        refine Lib.hid ?_
        have r4 := HR.out.fresh b4
        have p4 := HP.out.fresh b4
        have k4 := kr.trans (b4.mono mr)
        have e4 := he.fresh k4
        have hl2 := len_text st hst
        have HW := text_any B1 st (by omega)
        have HQ := qrText_any B2 st hst
        obtain ⟨v, st2, hR⟩ : ∃ v st2, (rText st) = (v, st2) := ⟨_, _, rfl⟩
        rw [hR] at HW HQ hl2
        have HW' := Lib.hid HW
        have HQ' := Lib.hid HQ
        have bl1 := r4.lt
        have bl2 := p4.lt
        clear HW HQ hR b4 kr HR HP c0
        go_wp2_with (first | (go_at_call 28; refine (HW'.out _ e4 r4).mono ?_; rintro x w5 ⟨rfl, r5, g5⟩; have p5 := p4.other g5 hne') | (go_at_call 29; refine (HQ'.out _ p5).mono ?_; rintro x w6 ⟨rfl, p6, g6⟩; have r6 := r5.other g6 hne) | (go_at_call 36; refine (left_any _ rfl _ st2 _ r6).mono ?_; rintro e w8 ⟨rfl, rfl⟩) | (go_at_call 37; refine (qLeft_any _ st2 _ p6).mono ?_; rintro e w8 ⟨rfl, rfl⟩) | (go_at_call 38; refine (done_any _ st2 _ r6).mono ?_; rintro e w8 ⟨rfl, rfl⟩) | (go_at_call 39; refine (qDone_any _ st2 _ p6).mono ?_; rintro e w8 ⟨rfl, rfl⟩))
        have k6 := below_trans_gb (below_trans_gb k4 g5 m1 (Nat.le_refl _)) g6 m2' (Nat.le_refl _)
        go_roundw
        case rel => exact ⟨k + 1, st2, by omega, by go_num, hl2, Lib.hid r6, Lib.hid p6, k6⟩
        case measure => simp [intOf]; omega
      by_cases h3 : z % 5 = 3
      · have HJ := Lib.hid h3
        clear h0 h1 h2 h3
        go_wp2_with (go_at_call 23; refine (kind_at z 3 hz HJ.out _ _ _ _ _).mono ?_; rintro e w4 ⟨rfl, b4⟩; refine Hid.out ?_)
        refine Lib.hid ?_
        have r4 := HR.out.fresh b4
        have p4 := HP.out.fresh b4
        have k4 := kr.trans (b4.mono mr)
        have e4 := he.fresh k4
        have hl2 := len_nums st hst
        have HW := rNums_any B1 st (by omega)
        have HQ := qrNums_any B2 st hst
        obtain ⟨v, st2, hR⟩ : ∃ v st2, (rList (Sp.pInt 59) st) = (v, st2) := ⟨_, _, rfl⟩
        rw [hR] at HW HQ hl2
        have HW' := Lib.hid HW
        have HQ' := Lib.hid HQ
        have bl1 := r4.lt
        have bl2 := p4.lt
        clear HW HQ hR b4 kr HR HP c0
        go_wp2_with (first | (go_at_call 31; refine (HW'.out _ e4 q1 r4).mono ?_; rintro x w5 ⟨v5, rfl, l5, r5, g5⟩; have p5 := p4.other g5 hne') | (go_at_call 32; refine (HQ'.out _ p5).mono ?_; rintro x w6 ⟨v6, rfl, l6, p6, g6⟩; have r6 := r5.other g6 hne; have l5' := l5.past g6 bl2) | (go_at_call 30; refine (sameNums_self _ _ _ hl2.2 _ (intsAt_of l5') (intsAt_of l6)).mono ?_; rintro x w7 ⟨rfl, b7⟩; have r7 := r6.fresh b7; have p7 := p6.fresh b7) | (go_at_call 36; refine (left_any _ rfl _ st2 _ r7).mono ?_; rintro e w8 ⟨rfl, rfl⟩) | (go_at_call 37; refine (qLeft_any _ st2 _ p7).mono ?_; rintro e w8 ⟨rfl, rfl⟩) | (go_at_call 38; refine (done_any _ st2 _ r7).mono ?_; rintro e w8 ⟨rfl, rfl⟩) | (go_at_call 39; refine (qDone_any _ st2 _ p7).mono ?_; rintro e w8 ⟨rfl, rfl⟩))
        have k6 := below_trans_gb (below_trans_gb k4 g5 m1 (Nat.le_refl _)) g6 m2' (Nat.le_refl _)
        have k7 := k6.trans (b7.mono k6.size)
        go_roundw
        case rel => exact ⟨k + 1, st2, by omega, by go_num, hl2.1, Lib.hid r7, Lib.hid p7, k7⟩
        case measure => simp [intOf]; omega
      · have h4 : z % 5 = 4 := by omega
        have HJ := Lib.hid h4
        clear h0 h1 h2 h3 h4
        go_wp2_with (go_at_call 23; refine (kind_at z 4 hz HJ.out _ _ _ _ _).mono ?_; rintro e w4 ⟨rfl, b4⟩; refine Hid.out ?_)
        refine Lib.hid ?_
        have r4 := HR.out.fresh b4
        have p4 := HP.out.fresh b4
        have k4 := kr.trans (b4.mono mr)
        have e4 := he.fresh k4
        have hl2 := len_texts st hst
        have HW := rTexts_any B1 st (by omega)
        have HQ := qrTexts_any B2 st hst
        obtain ⟨v, st2, hR⟩ : ∃ v st2, (rList Sp.pText st) = (v, st2) := ⟨_, _, rfl⟩
        rw [hR] at HW HQ hl2
        have HW' := Lib.hid HW
        have HQ' := Lib.hid HQ
        have bl1 := r4.lt
        have bl2 := p4.lt
        clear HW HQ hR b4 kr HR HP c0
        go_wp2_with (first | (go_at_call 34; refine (HW'.out _ e4 q1 r4).mono ?_; rintro x w5 ⟨v5, rfl, l5, r5, g5⟩; have p5 := p4.other g5 hne') | (go_at_call 35; refine (HQ'.out _ p5).mono ?_; rintro x w6 ⟨v6, rfl, l6, p6, g6⟩; have r6 := r5.other g6 hne; have l5' := l5.past g6 bl2) | (go_at_call 33; refine (sameTexts_self _ _ _ hl2.2 _ (textsAt_of l5') (textsAt_of l6)).mono ?_; rintro x w7 ⟨rfl, b7⟩; have r7 := r6.fresh b7; have p7 := p6.fresh b7) | (go_at_call 36; refine (left_any _ rfl _ st2 _ r7).mono ?_; rintro e w8 ⟨rfl, rfl⟩) | (go_at_call 37; refine (qLeft_any _ st2 _ p7).mono ?_; rintro e w8 ⟨rfl, rfl⟩) | (go_at_call 38; refine (done_any _ st2 _ r7).mono ?_; rintro e w8 ⟨rfl, rfl⟩) | (go_at_call 39; refine (qDone_any _ st2 _ p7).mono ?_; rintro e w8 ⟨rfl, rfl⟩))
        have k6 := below_trans_gb (below_trans_gb k4 g5 m1 (Nat.le_refl _)) g6 m2' (Nat.le_refl _)
        have k7 := k6.trans (b7.mono k6.size)
        go_roundw
        case rel => exact ⟨k + 1, st2, by omega, by go_num, hl2.1, Lib.hid r7, Lib.hid p7, k7⟩
        case measure => simp [intOf]; omega
    · have hkl : k = zs.length := by omega
      subst hkl
      have r4 := HR.out
      have p4 := HP.out
      have HW := rest_any B1 st (by omega)
      have HQ := qTail_any B2 st
      obtain ⟨v, st2, hR⟩ : ∃ v st2, rRest st = (v, st2) := ⟨_, _, rfl⟩
      rw [hR] at HW HQ
      have HW' := Lib.hid HW
      have HQ' := Lib.hid HQ
      clear HW HQ hR HR HP
      go_wp2_with (first | (go_at_call 40; refine (HW'.out _ r4).mono ?_; rintro x w5 ⟨rfl, r5, g5⟩; have p5 := p4.other g5 hne') | (go_at_call 41; refine (HQ'.out _ p5).mono ?_; rintro x w6 ⟨rfl, p6, g6⟩; have r6 := r5.other g6 hne) | (go_at_call 36; refine (left_any _ rfl _ st2 _ r6).mono ?_; rintro e w8 ⟨rfl, rfl⟩) | (go_at_call 37; refine (qLeft_any _ st2 _ p6).mono ?_; rintro e w8 ⟨rfl, rfl⟩) | (go_at_call 38; refine (done_any _ st2 _ r6).mono ?_; rintro e w8 ⟨rfl, rfl⟩) | (go_at_call 39; refine (qDone_any _ st2 _ p6).mono ?_; rintro e w8 ⟨rfl, rfl⟩))
      go_ret
      exact ⟨rfl, below_trans_gb (below_trans_gb kr g5 m1 (Nat.le_refl _)) g6 m2' (Nat.le_refl _)⟩

theorem reads_walk (t : ByteArray) (v : Value) (zs : List Int) (w : World) (he : Env w) (h : IntsAt w v zs) (ho : ∀ z ∈ zs, Sp.I64 z) :
    Calls Tryd.prog 4 #[.string t, v] w fun e w' => e = .returned (.bool true) ∧ Below w.heap.size w w' := by
  obtain ⟨s, rfl⟩ : ∃ l, t = bs l := ⟨t.data.toList, (bs_of t).symm⟩
  obtain ⟨a, cap, rfl, hc⟩ := h
  by_cases h1 : (bs s).size ≤ 400
  · by_cases h2 : zs.length ≤ 20
    · exact reads_some s h1 a zs cap h2 ho w he hc
    · exact reads_long s a _ cap w he (.inr ⟨h1, by omega⟩)
  · exact reads_long s a _ cap w he (.inl (by omega))
end Go.Proofs.YtplejiaddemjhaaDoor
