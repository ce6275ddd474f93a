/- JournalReads, walked. -/
import Derived.Test.YtjbcgahdiolhhaaDoorJSmall
import Derived.Deep.Onto
namespace Go.Proofs.YtjbcgahdiolhhaaDoor.D2
open Go.RowKit Go.Maps Go.ChangeMaps Go.MapKept
open Dp Jp
attribute [local go_sem ↓] Go.wp_at_zero Go.wp_at_succ

set_option maxRecDepth 100000 in
theorem jreads_long (s : ByteArray) (hs : 300 < s.size) (w : World) (he : Env w) :
    Calls Tryd.prog 5 #[.string s] w fun e w' => e = .returned (.bool true) ∧ Below w.heap.size w w' := by
  go_enter Tryd.func5, Tryd.ntmps5
  go_wp2_with (go_at_call 7; refine (small_any _ he).mono ?_; rintro e w1 ⟨rfl, b1⟩)
  go_ret
  exact ⟨rfl, b1⟩

theorem reads_plain (s : List UInt8) (hs : s.length ≤ 300) : ∃ D1 D2 D3, new.write 7 0 s = (0, D1) ∧ jopen D1 7 = (some (recs s), 0, D2) ∧ D2.size 7 = (forms (recs s)).length ∧ D2.read 7 0 ((forms (recs s)).length : Int) = (forms (recs s), 0) ∧
    jopen D2 7 = (some (recs s), 0, D3) ∧ D3.size 7 = (forms (recs s)).length ∧ D3.read 7 0 ((forms (recs s)).length : Int) = (forms (recs s), 0) := by
  have i7 : isFile 7 = true := isFile_nat (f := 7) (by decide)
  obtain ⟨D1, o1, q1, g1, m1, _, _⟩ := write_quiet good_new quiet_new (f := 7) (a := 0) (by decide) (s := s) (by omega)
  rw [show new.now 7 = [] from rfl, putN_nil] at m1
  obtain ⟨D2, o2, q2, g2, s2, _⟩ := open_quiet g1 q1 (f := 7) (by decide)
  rw [m1] at o2 s2
  obtain ⟨D3, o3, q3, _, s3, _⟩ := open_quiet g2 q2 (f := 7) (by decide)
  rw [s2.now, recs_forms' _ (recs_size _ s (Nat.le_refl _))] at o3 s3
  have h2 : D2.now (7 : Int).toNat = _ := s2.now
  have h3 : D3.now (7 : Int).toNat = _ := s3.now
  refine ⟨D1, D2, D3, o1, o2, ?_, ?_, o3, ?_, ?_⟩
  · unfold Dk.size; rw [i7, if_pos rfl, h2]
  · rw [read_all q2.up i7 (by rw [h2]; exact Int.le_refl _), h2]
  · unfold Dk.size; rw [i7, if_pos rfl, h3]
  · rw [read_all q3.up i7 (by rw [h3]; exact Int.le_refl _), h3]
theorem form_out {u a : List UInt8} (ha : a.length ≤ 20000) (h : rec1 u = none) : ¬ form a <+: u := by
  rintro ⟨z, rfl⟩
  rw [rec1_form ha] at h
  cases h
/-- Where the form of what was read does not stand. -/
theorem form_off {s u a : List UInt8} {ts : List (List UInt8)} (h : Scan s ts u) (ha : a.length ≤ 20000) (hr : rec1 u = none) :
    ((s.drop (forms ts).length).take (form a).length) ≠ form a := by
  intro e
  rw [h.text, List.drop_left] at e
  exact form_out ha hr ⟨u.drop (form a).length, by
    have := List.take_append_drop (form a).length u
    rw [e] at this
    exact this⟩
theorem form_on {s u a v : List UInt8} {ts : List (List UInt8)} (h : Scan s ts u) (hr : rec1 u = some (a, v)) : (forms ts).length + (form a).length ≤ s.length ∧ ((s.drop (forms ts).length).take (form a).length) = form a := by
  have h1 := (rec1_some hr).1
  have h2 := congrArg List.length h.text
  rw [List.length_append, h1, List.length_append] at h2
  refine ⟨by omega, ?_⟩
  rw [h.text, List.drop_left, h1, List.take_left]
theorem eNum_len (n : Int) (hn : Sp.I64 n) : (Sp.eNum n).length ≤ 30 := by
  have h1 := Lib.itoa_length_le n hn.1 hn.2
  unfold Sp.eNum Sp.eInt
  split
  · simp
  · simp; omega
theorem eText_len (a : List UInt8) (h : a.length ≤ 300) : (Sp.eText a).length ≤ 400 := by
  have h1 := Lib.itoa_length_le (a.length : Int) (by omega) (by omega)
  simp [Sp.eText]; omega
theorem jr_len {x y z : Int} (h : x + y = z) : Value.int IntKind.i64 (x + y) = Value.int IntKind.i64 z := by rw [h]
theorem same_self {w : World} {v v' : Value} {l : List (List UInt8)} (hm : l.length ≤ 1099511627776) (h : TextsAt w v l) (h' : TextsAt w v' l) :
    Calls Tryd.prog 16 #[v, v'] w fun e w' => e = .returned (.bool true) ∧ Below w.heap.size w w' := by
  have := sameTexts_any v v' l l hm w h h'
  rwa [decide_eq_true rfl] at this

set_option maxHeartbeats 16000000 in
set_option maxRecDepth 100000 in
theorem jreads_main (s : List UInt8) (hs : s.length ≤ 300) (w : World) (he : Env w) :
    Calls Tryd.prog 5 #[.string (bs s)] w fun e w' => e = .returned (.bool true) ∧ Below w.heap.size w w' := by
  obtain ⟨i0, hi, hz0, hz1, hz2⟩ := info_parts string_info
  obtain ⟨D1, D2, D3, p1, p2, p3, p4, p5, p6, p7⟩ := reads_plain s hs
  have P1 := Lib.hid p1
  have P2 := Lib.hid p2
  have P3 := Lib.hid p3
  have P4 := Lib.hid p4
  have P5 := Lib.hid p5
  have P6 := Lib.hid p6
  have P7 := Lib.hid p7
  have hsz : ((bs s).size : Int) = (s.length : Int) := by rw [bs_size]
  have HSZ := Lib.hid hsz
  have hsz2 : (bs s).size ≤ 300 := by rw [bs_size]; exact hs
  have HS := Lib.hid hs
  have hpre := recs_pre s
  have hfl := hpre.length_le
  have HFL : Hid ((forms (recs s)).length ≤ s.length) := Lib.hid hfl
  have HPRE := Lib.hid hpre
  have hrc : (recs s).length ≤ 1099511627776 := by have := recs_count s; omega
  have HRC := Lib.hid hrc
  clear p1 p2 p3 p4 p5 p6 p7 hsz hs hpre hfl hrc
  go_enter Tryd.func5, Tryd.ntmps5
  go_wp2_with (go_at_call 7; refine (small_any _ he).mono ?_; rintro e w0 ⟨rfl, b0⟩; refine Hid.out ?_)
  refine Lib.hid ?_
  have e0 := he.fresh b0
  have B0 := Lib.hid b0
  clear b0
  go_wp2_with (go_at_call 9; refine (o_new (OMem.start w0)).mono ?_; rintro e w1 ⟨d, rfl, m⟩; refine Hid.out ?_)
  refine Lib.hid ?_
  have M1 := Lib.hid (show OMem w0 w1 [.disk d new] from m)
  clear m
  go_wp2_with (go_at_call 22; refine (o_write1 (i := 0) M1.out rfl 7 0 s ⟨by decide, by decide⟩ I64.zero (by have := HS.out; omega) P1.out).mono ?_; rintro e w2 ⟨rfl, m⟩; refine Hid.out ?_)
  refine Lib.hid ?_
  have M2 := Lib.hid (show OMem w0 w2 [.disk d D1] from m)
  clear m M1
  go_wp2_with (go_at_call 10; refine (o_open1 (i := 0) M2.out rfl 7 ⟨by decide, by decide⟩ e0 P2.out).mono ?_; rintro e w3 ⟨b, rfl, m⟩; refine Hid.out ?_)
  refine Lib.hid ?_
  have M3 := Lib.hid (show OMem w0 w3 [.disk d D2, .jour b d ⟨7, recs s, false⟩] from m)
  clear m M2
  go_wp2_with (go_at_call 13; refine (o_all (k := 1) M3.out rfl).mono ?_; rintro e w4 ⟨vg, rfl, m⟩; refine Hid.out ?_)
  refine Lib.hid ?_
  have M4 := Lib.hid (show OMem w0 w4 [.disk d D2, .jour b d ⟨7, recs s, false⟩, .own 9 vg (strVs (recs s))] from m)
  have e4 := m.env e0
  have hg0 := e4.size
  clear m M3
  go_wp2_with (go_at_call 23; refine (open_any s _).mono ?_; rintro e w5 ⟨rfl, h1, b1⟩; refine Hid.out ?_)
  refine Lib.hid ?_
  go_wp2
  go_loopw [9, 10] (fun rv ln wr => ∃ (ts : List (List UInt8)) (u : List UInt8), Hid (Scan s ts u) ∧ ln = .int .i64 (((forms ts).length : Nat) : Int) ∧ wr.ownsRow (w4.heap.size + 1) 9 1 rv ts.length (strVs ts) ∧ RdAt 80 w4.heap.size (some u) wr ∧ Below w4.heap.size w4 wr) (fun _ ln _ => s.length - (intOf ln).toNat)
  case atStart => exact ⟨[], s, Lib.hid ⟨rfl, rfl⟩, rfl, World.ownsRow_nil _ _ _ _, h1, b1⟩
  case round =>
    obtain ⟨ts, u, HP, rfl, hown, hrd, br⟩ := hrel
    clear h1 b1 w5
    have er := e4.fresh br
    have lu := HP.out.len
    have lS := HS.out
    rcases u with _ | ⟨c, u⟩
    · go_wp2_with (go_at_call 24; refine (left_any _ rfl _ (some []) _ hrd).mono ?_; rintro e w6 ⟨rfl, rfl⟩; refine Hid.out ?_)
      refine Lib.hid ?_
      have hts := (HP.out.done rec1_nil).1
      have br5 := br
      have hown5 := hown
      subst hts
      have m6 := M4.out.row br5 (by rw [strVs_length]; exact hown5.mono (Nat.zero_le _)) (fun k hk => by have := (hown5.lt k hk).1; omega)
      have M6 := Lib.hid m6
      have HX : Hid ((bs s).extract 0 (forms (recs s)).length = bs (forms (recs s))) := Lib.hid (by rw [bs_extract, List.drop_zero, Nat.sub_zero]; exact congrArg bs (List.prefix_iff_eq_take.1 HPRE.out).symm)
      have hfl2 : ((forms (recs s)).length : Int) ≤ ((bs s).size : Int) := by rw [HSZ.out]; have := HFL.out; omega
      clear m6 hown5 br5
      go_wp2_with (go_at_call 31; refine (o_size1 (i := 0) M6.out rfl 7 ⟨by decide, by decide⟩ P3.out).mono ?_; rintro e w11 ⟨rfl, rfl⟩; refine Hid.out ?_)
      refine Lib.hid ?_
      go_wp2_with (go_at_call 30; refine (o_read1 (i := 0) M6.out rfl 7 0 _ ⟨by decide, by decide⟩ I64.zero ⟨by omega, by omega⟩ P4.out).mono ?_; rintro e w11 ⟨rfl, m⟩; refine Hid.out ?_)
      refine Lib.hid ?_
      have M7 := Lib.hid m
      clear m M6
      go_wp2_with (go_at_call 10; refine (o_open1 (i := 0) M7.out rfl 7 ⟨by decide, by decide⟩ e0 P5.out).mono ?_; rintro e w12 ⟨b2, rfl, m⟩; refine Hid.out ?_)
      refine Lib.hid ?_
      have M8 := Lib.hid m
      clear m M7
      go_wp2_with (go_at_call 31; refine (o_size1 (i := 0) M8.out rfl 7 ⟨by decide, by decide⟩ P6.out).mono ?_; rintro e w13 ⟨rfl, rfl⟩; refine Hid.out ?_)
      refine Lib.hid ?_
      go_wp2_with (go_at_call 30; refine (o_read1 (i := 0) M8.out rfl 7 0 _ ⟨by decide, by decide⟩ I64.zero ⟨by omega, by omega⟩ P7.out).mono ?_; rintro e w13 ⟨rfl, m⟩; refine Hid.out ?_)
      refine Lib.hid ?_
      have M9 := Lib.hid m
      have X1 := Lib.hid (m.texts (i := 2) rfl)
      have X2 := Lib.hid (m.texts (i := 3) rfl)
      clear m M8
      go_wp2_with (go_at_call 16; refine (same_self HRC.out X1.out X2.out).mono ?_; rintro e w14 ⟨rfl, b14⟩; refine Hid.out ?_)
      refine Lib.hid ?_
      have M10 := Lib.hid (M9.out.fresh b14)
      have hx := HX.out
      clear b14 M9 X1 X2
      go_wp2_with (go_at_call 13; refine (o_all (k := 4) M10.out rfl).mono ?_; rintro e w15 ⟨v2, rfl, m⟩; refine Hid.out ?_)
      refine Lib.hid ?_
      have M11 := Lib.hid m
      have X1 := Lib.hid (m.texts (i := 5) rfl)
      have X2 := Lib.hid (m.texts (i := 3) rfl)
      clear m M10
      go_wp2_with (go_at_call 16; refine (same_self HRC.out X1.out X2.out).mono ?_; rintro e w16 ⟨rfl, b16⟩; refine Hid.out ?_)
      refine Lib.hid ?_
      have M12 := Lib.hid (M11.out.fresh b16)
      clear b16 M11 X1 X2
      go_wp2
      go_ret
      exact ⟨rfl, B0.out.trans (M12.out.below.mono B0.out.size)⟩
    · obtain ⟨a, n, st1, st2, r1, r2, la, l1, hn, hr⟩ := read_next (c :: u)
      have lu2 : (c :: u).length ≤ 300 := by omega
      have T1 := text_any w4.heap.size (some (c :: u)) (by simp at lu2 ⊢; omega)
      rw [r1] at T1
      have T1 := Lib.hid T1
      have T2 := num_any w4.heap.size st1 (by omega)
      rw [r2] at T2
      have T2 := Lib.hid T2
      have SA := Lib.hid (sum_any a (by omega))
      have la3 : a.length ≤ 300 := by omega
      have hnl := eNum_len n hn
      have htl := eText_len a la3
      have q1 := bs_size (Sp.eText a)
      have q2 := bs_size (Sp.eNum n)
      have q3 : (bs (Sp.eText a)).size ≤ 400 := by omega
      have q4 : (bs (Sp.eNum n)).size ≤ 40 := by omega
      have HQ := Lib.hid (show (bs (Sp.eText a) ++ bs (Sp.eNum n)) = bs (Sp.eText a ++ Sp.eNum n) from bs_append _ _)
      have lu3 := lu
      clear r1 r2 lu q1 q2 hnl htl
      go_wp2_with (go_at_call 24; refine (left_any _ rfl _ (some (c :: u)) _ hrd).mono ?_; rintro e w6 ⟨rfl, rfl⟩; refine Hid.out ?_)
      refine Lib.hid ?_
      go_wp2_with (go_at_call 25; refine (T1.out _ er hrd).mono ?_; rintro e w6 ⟨rfl, h2, g2⟩; refine Hid.out ?_)
      refine Lib.hid ?_
      have br2 := below_trans_gb br g2 (Nat.le_refl _) (Nat.le_refl _)
      have er2 := e4.fresh br2
      have hown2 := hown.kept g2 (.inr (own_reader hown (by omega)))
      go_wp2_with (go_at_call 26; refine (T2.out _ er2 h2).mono ?_; rintro e w7 ⟨rfl, h3, g3⟩; refine Hid.out ?_)
      refine Lib.hid ?_
      have br3 := below_trans_gb br2 g3 (Nat.le_refl _) (Nat.le_refl _)
      have hown3 := hown2.kept g3 (.inr (own_reader hown2 (by omega)))
      have er3 := e4.fresh br3
      clear hrd h2 g2 g3 er er2 br br2 hown hown2
      go_wp2_with (go_at_call 27; refine (wText_any a (by omega) _ er3).mono ?_; rintro e w8 ⟨rfl, b8⟩; refine Hid.out ?_)
      refine Lib.hid ?_
      have br4 := br3.trans (b8.mono br3.size)
      have er4 := er3.fresh b8
      have hown4 := ownsRow_block (w' := w8) hown3 fun k hk => b8.block k (hown3.lt k hk).2
      have h4 := h3.fresh b8
      clear b8 h3 hown3 er3 br3
      go_wp2_with (go_at_call 28; refine (wNum_any n hn _ er4).mono ?_; rintro e w9 ⟨rfl, b9⟩; refine Hid.out ?_)
      refine Lib.hid ?_
      have br5 := br4.trans (b9.mono br4.size)
      have hown5 := ownsRow_block (w' := w9) hown4 fun k hk => b9.block k (hown4.lt k hk).2
      have h5 := h4.fresh b9
      clear b9 h4 hown4 er4 br4
      go_wp2_with (go_at_call 29; refine (SA.out _).mono ?_; rintro e w10 ⟨rfl, rfl⟩; refine Hid.out ?_)
      refine Lib.hid ?_
      have la4 := la3
      have hP : (forms ts).length ≤ 300 := by have h1 := congrArg List.length HP.out.text; have h2 := HS.out; rw [List.length_append] at h1; omega
      by_cases hsum : n = (jsum a : Int)
      · subst hsum
        have HF := Lib.hid (show Sp.eText a ++ Sp.eNum (jsum a : Int) = form a from rfl)
        rw [HF.out] at HQ
        rw [HQ.out]
        have hfs := bs_size (form a)
        have hfl := form_len a (by omega)
        have hf9 : (bs (form a)).size ≤ 400 := by omega
        have HFS := Lib.hid (show ((bs (form a)).size : Int) = ((form a).length : Int) by rw [hfs])
        clear hfs hfl
        cases hrc : rec1 (c :: u) with
        | none =>
          have hts := (HP.out.done hrc).1
          by_cases hB : s.length < (forms ts).length + (form a).length
          · have hB2 : ((bs s).size : Int) < ((forms ts).length : Int) + ((bs (form a)).size : Int) := by rw [HSZ.out, HFS.out]; omega
            subst hts
            have m6 := M4.out.row br5 (by rw [strVs_length]; exact hown5.mono (Nat.zero_le _)) (fun k hk => by have := (hown5.lt k hk).1; omega)
            have M6 := Lib.hid m6
            have HX : Hid ((bs s).extract 0 (forms (recs s)).length = bs (forms (recs s))) := Lib.hid (by rw [bs_extract, List.drop_zero, Nat.sub_zero]; exact congrArg bs (List.prefix_iff_eq_take.1 HPRE.out).symm)
            have hfl2 : ((forms (recs s)).length : Int) ≤ ((bs s).size : Int) := by rw [HSZ.out]; have := HFL.out; omega
            clear m6 hown5 br5
            go_wp2_with (go_at_call 31; refine (o_size1 (i := 0) M6.out rfl 7 ⟨by decide, by decide⟩ P3.out).mono ?_; rintro e w11 ⟨rfl, rfl⟩; refine Hid.out ?_)
            refine Lib.hid ?_
            go_wp2_with (go_at_call 30; refine (o_read1 (i := 0) M6.out rfl 7 0 _ ⟨by decide, by decide⟩ I64.zero ⟨by omega, by omega⟩ P4.out).mono ?_; rintro e w11 ⟨rfl, m⟩; refine Hid.out ?_)
            refine Lib.hid ?_
            have M7 := Lib.hid m
            clear m M6
            go_wp2_with (go_at_call 10; refine (o_open1 (i := 0) M7.out rfl 7 ⟨by decide, by decide⟩ e0 P5.out).mono ?_; rintro e w12 ⟨b2, rfl, m⟩; refine Hid.out ?_)
            refine Lib.hid ?_
            have M8 := Lib.hid m
            clear m M7
            go_wp2_with (go_at_call 31; refine (o_size1 (i := 0) M8.out rfl 7 ⟨by decide, by decide⟩ P6.out).mono ?_; rintro e w13 ⟨rfl, rfl⟩; refine Hid.out ?_)
            refine Lib.hid ?_
            go_wp2_with (go_at_call 30; refine (o_read1 (i := 0) M8.out rfl 7 0 _ ⟨by decide, by decide⟩ I64.zero ⟨by omega, by omega⟩ P7.out).mono ?_; rintro e w13 ⟨rfl, m⟩; refine Hid.out ?_)
            refine Lib.hid ?_
            have M9 := Lib.hid m
            have X1 := Lib.hid (m.texts (i := 2) rfl)
            have X2 := Lib.hid (m.texts (i := 3) rfl)
            clear m M8
            go_wp2_with (go_at_call 16; refine (same_self HRC.out X1.out X2.out).mono ?_; rintro e w14 ⟨rfl, b14⟩; refine Hid.out ?_)
            refine Lib.hid ?_
            have M10 := Lib.hid (M9.out.fresh b14)
            have hx := HX.out
            clear b14 M9 X1 X2
            go_wp2_with (go_at_call 13; refine (o_all (k := 4) M10.out rfl).mono ?_; rintro e w15 ⟨v2, rfl, m⟩; refine Hid.out ?_)
            refine Lib.hid ?_
            have M11 := Lib.hid m
            have X1 := Lib.hid (m.texts (i := 5) rfl)
            have X2 := Lib.hid (m.texts (i := 3) rfl)
            clear m M10
            go_wp2_with (go_at_call 16; refine (same_self HRC.out X1.out X2.out).mono ?_; rintro e w16 ⟨rfl, b16⟩; refine Hid.out ?_)
            refine Lib.hid ?_
            have M12 := Lib.hid (M11.out.fresh b16)
            clear b16 M11 X1 X2
            go_wp2
            go_ret
            exact ⟨rfl, B0.out.trans (M12.out.below.mono B0.out.size)⟩
          · have hB2 : ((forms ts).length : Int) + ((bs (form a)).size : Int) ≤ ((bs s).size : Int) := by rw [HSZ.out, HFS.out]; omega
            have hC := form_off HP.out (by omega : a.length ≤ 20000) hrc
            have hxc : (bs s).extract (forms ts).length ((forms ts).length + (bs (form a)).size) = bs ((s.drop (forms ts).length).take (form a).length) := by rw [bs_extract, bs_size, Nat.add_sub_cancel_left]
            have hne : ((bs ((s.drop (forms ts).length).take (form a).length)).toList == (bs (form a)).toList) = false := by rw [bs_toList, bs_toList]; simpa using hC
            generalize (s.drop (forms ts).length).take (form a).length = g at hxc hne
            clear hC hB
            subst hts
            have m6 := M4.out.row br5 (by rw [strVs_length]; exact hown5.mono (Nat.zero_le _)) (fun k hk => by have := (hown5.lt k hk).1; omega)
            have M6 := Lib.hid m6
            have HX : Hid ((bs s).extract 0 (forms (recs s)).length = bs (forms (recs s))) := Lib.hid (by rw [bs_extract, List.drop_zero, Nat.sub_zero]; exact congrArg bs (List.prefix_iff_eq_take.1 HPRE.out).symm)
            have hfl2 : ((forms (recs s)).length : Int) ≤ ((bs s).size : Int) := by rw [HSZ.out]; have := HFL.out; omega
            clear m6 hown5 br5
            go_wp2_with (go_at_call 31; refine (o_size1 (i := 0) M6.out rfl 7 ⟨by decide, by decide⟩ P3.out).mono ?_; rintro e w11 ⟨rfl, rfl⟩; refine Hid.out ?_)
            refine Lib.hid ?_
            go_wp2_with (go_at_call 30; refine (o_read1 (i := 0) M6.out rfl 7 0 _ ⟨by decide, by decide⟩ I64.zero ⟨by omega, by omega⟩ P4.out).mono ?_; rintro e w11 ⟨rfl, m⟩; refine Hid.out ?_)
            refine Lib.hid ?_
            have M7 := Lib.hid m
            clear m M6
            go_wp2_with (go_at_call 10; refine (o_open1 (i := 0) M7.out rfl 7 ⟨by decide, by decide⟩ e0 P5.out).mono ?_; rintro e w12 ⟨b2, rfl, m⟩; refine Hid.out ?_)
            refine Lib.hid ?_
            have M8 := Lib.hid m
            clear m M7
            go_wp2_with (go_at_call 31; refine (o_size1 (i := 0) M8.out rfl 7 ⟨by decide, by decide⟩ P6.out).mono ?_; rintro e w13 ⟨rfl, rfl⟩; refine Hid.out ?_)
            refine Lib.hid ?_
            go_wp2_with (go_at_call 30; refine (o_read1 (i := 0) M8.out rfl 7 0 _ ⟨by decide, by decide⟩ I64.zero ⟨by omega, by omega⟩ P7.out).mono ?_; rintro e w13 ⟨rfl, m⟩; refine Hid.out ?_)
            refine Lib.hid ?_
            have M9 := Lib.hid m
            have X1 := Lib.hid (m.texts (i := 2) rfl)
            have X2 := Lib.hid (m.texts (i := 3) rfl)
            clear m M8
            go_wp2_with (go_at_call 16; refine (same_self HRC.out X1.out X2.out).mono ?_; rintro e w14 ⟨rfl, b14⟩; refine Hid.out ?_)
            refine Lib.hid ?_
            have M10 := Lib.hid (M9.out.fresh b14)
            have hx := HX.out
            clear b14 M9 X1 X2
            go_wp2_with (go_at_call 13; refine (o_all (k := 4) M10.out rfl).mono ?_; rintro e w15 ⟨v2, rfl, m⟩; refine Hid.out ?_)
            refine Lib.hid ?_
            have M11 := Lib.hid m
            have X1 := Lib.hid (m.texts (i := 5) rfl)
            have X2 := Lib.hid (m.texts (i := 3) rfl)
            clear m M10
            go_wp2_with (go_at_call 16; refine (same_self HRC.out X1.out X2.out).mono ?_; rintro e w16 ⟨rfl, b16⟩; refine Hid.out ?_)
            refine Lib.hid ?_
            have M12 := Lib.hid (M11.out.fresh b16)
            clear b16 M11 X1 X2
            go_wp2
            go_ret
            exact ⟨rfl, B0.out.trans (M12.out.below.mono B0.out.size)⟩
        | some p =>
          obtain ⟨v, rfl, lv, hrv⟩ : ∃ v, st2 = some v ∧ v.length ≤ (c :: u).length ∧ rec1 (c :: u) = some (a, v) := by
            rcases hr with ⟨_, hr⟩ | ⟨v, e1, e2, e3⟩
            · rw [hr] at hrc; cases hrc
            · exact ⟨v, e1, e2, e3.trans (if_pos ⟨by omega, rfl⟩)⟩
          obtain ⟨hf1, hf2⟩ := form_on HP.out hrv
          have hnx := HP.out.next hrv
          have HN := Lib.hid hnx
          have hB2 : ((forms ts).length : Int) + ((bs (form a)).size : Int) ≤ ((bs s).size : Int) := by rw [HSZ.out, HFS.out]; omega
          have hxc : (bs s).extract (forms ts).length ((forms ts).length + (bs (form a)).size) = bs (form a) := by rw [bs_extract, bs_size, Nat.add_sub_cancel_left, hf2]
          have ltS := lu3.2
          clear hf1 hf2 hnx hrv hrc hr
          go_wp2_with (at_builtin; refine Hid.out ?_)
          refine Lib.hid ?_
          refine wpList_append_own _ rfl _ _ 32 rfl (w4.heap.size + 1) 9 i0 (.string ⟨#[]⟩) 1 16 Tryd.underlying32 hi hz0 hz1 hz2 rfl (by decide) _ _ _ rfl (hown5.alloc _) ⟨w9.heap.size, 0, none⟩ 1 1 [.string (bs a)] rfl rfl ?c1 ?c2 ?c3 ?c4 ?c5 ?_
          case c1 =>
            intro j y hj
            match j, hj with
            | 0, hj => simp at hj; subst hj; simp [Addr.add]
          case c2 => intro y hy; simp at hy; subst hy; rfl
          case c3 => unfold maxLen; omega
          case c4 => omega
          case c5 => have := h5.lt; simp; omega
          intro v' w10 hown6 hgrow _
          have hs5 := br5.size
          have h6 : RdAt 80 w4.heap.size (some v) w10 := by
            refine RdAt.old (w := w9.alloc (.cells #[.string (bs a)] 9)) ?_ hgrow (fun e => own_reader hown5 (by omega) e.symm)
            exact RdAt.fresh h5 ((Below.refl _ _).alloc (Nat.le_refl _) _)
          have br6 : Below w4.heap.size w4 w10 := (br5.alloc (by omega) _).grown hgrow (by simp; omega) (fun k hk => by have := (hown5.lt k hk).1; omega)
          have hown7 : w10.ownsRow (w4.heap.size + 1) 9 1 v' (ts ++ [a]).length (strVs (ts ++ [a])) := by
            rw [← strVs_snoc]; simpa using hown6
          have HL : Hid (((forms ts).length : Int) + ((bs (form a)).size : Int) = ((forms (ts ++ [a])).length : Int)) := Lib.hid (by rw [HFS.out, forms_snoc, List.length_append]; simp)
          have HLE := Lib.hid HN.out.len
          clear hown5 hown6 hgrow h5 br5 hxc
          go_wp2
          go_roundw
          case rel => exact ⟨ts ++ [a], v, HN, jr_len HL.out, hown7, h6, br6⟩
          case measure =>
            rw [jr_len HL.out]
            exact recs_meas _ (by have h1 := congrArg List.length HN.out.text; rw [List.length_append] at h1; omega)
      · have hts : recs s = ts := by
          rcases hr with ⟨_, hr⟩ | ⟨v, _, _, hr⟩
          · exact (HP.out.done hr).1
          · exact (HP.out.done (hr.trans (if_neg (fun h => hsum h.2)))).1
        subst hts
        have m6 := M4.out.row br5 (by rw [strVs_length]; exact hown5.mono (Nat.zero_le _)) (fun k hk => by have := (hown5.lt k hk).1; omega)
        have M6 := Lib.hid m6
        have HX : Hid ((bs s).extract 0 (forms (recs s)).length = bs (forms (recs s))) := Lib.hid (by rw [bs_extract, List.drop_zero, Nat.sub_zero]; exact congrArg bs (List.prefix_iff_eq_take.1 HPRE.out).symm)
        have hfl2 : ((forms (recs s)).length : Int) ≤ ((bs s).size : Int) := by rw [HSZ.out]; have := HFL.out; omega
        clear m6 hown5 br5
        go_wp2_with (go_at_call 31; refine (o_size1 (i := 0) M6.out rfl 7 ⟨by decide, by decide⟩ P3.out).mono ?_; rintro e w11 ⟨rfl, rfl⟩; refine Hid.out ?_)
        refine Lib.hid ?_
        go_wp2_with (go_at_call 30; refine (o_read1 (i := 0) M6.out rfl 7 0 _ ⟨by decide, by decide⟩ I64.zero ⟨by omega, by omega⟩ P4.out).mono ?_; rintro e w11 ⟨rfl, m⟩; refine Hid.out ?_)
        refine Lib.hid ?_
        have M7 := Lib.hid m
        clear m M6
        go_wp2_with (go_at_call 10; refine (o_open1 (i := 0) M7.out rfl 7 ⟨by decide, by decide⟩ e0 P5.out).mono ?_; rintro e w12 ⟨b2, rfl, m⟩; refine Hid.out ?_)
        refine Lib.hid ?_
        have M8 := Lib.hid m
        clear m M7
        go_wp2_with (go_at_call 31; refine (o_size1 (i := 0) M8.out rfl 7 ⟨by decide, by decide⟩ P6.out).mono ?_; rintro e w13 ⟨rfl, rfl⟩; refine Hid.out ?_)
        refine Lib.hid ?_
        go_wp2_with (go_at_call 30; refine (o_read1 (i := 0) M8.out rfl 7 0 _ ⟨by decide, by decide⟩ I64.zero ⟨by omega, by omega⟩ P7.out).mono ?_; rintro e w13 ⟨rfl, m⟩; refine Hid.out ?_)
        refine Lib.hid ?_
        have M9 := Lib.hid m
        have X1 := Lib.hid (m.texts (i := 2) rfl)
        have X2 := Lib.hid (m.texts (i := 3) rfl)
        clear m M8
        go_wp2_with (go_at_call 16; refine (same_self HRC.out X1.out X2.out).mono ?_; rintro e w14 ⟨rfl, b14⟩; refine Hid.out ?_)
        refine Lib.hid ?_
        have M10 := Lib.hid (M9.out.fresh b14)
        have hx := HX.out
        clear b14 M9 X1 X2
        go_wp2_with (go_at_call 13; refine (o_all (k := 4) M10.out rfl).mono ?_; rintro e w15 ⟨v2, rfl, m⟩; refine Hid.out ?_)
        refine Lib.hid ?_
        have M11 := Lib.hid m
        have X1 := Lib.hid (m.texts (i := 5) rfl)
        have X2 := Lib.hid (m.texts (i := 3) rfl)
        clear m M10
        go_wp2_with (go_at_call 16; refine (same_self HRC.out X1.out X2.out).mono ?_; rintro e w16 ⟨rfl, b16⟩; refine Hid.out ?_)
        refine Lib.hid ?_
        have M12 := Lib.hid (M11.out.fresh b16)
        clear b16 M11 X1 X2
        go_wp2
        go_ret
        exact ⟨rfl, B0.out.trans (M12.out.below.mono B0.out.size)⟩
theorem jreads_walk (s : ByteArray) (w : World) (he : Env w) : Calls Tryd.prog 5 #[.string s] w fun e w' => e = .returned (.bool true) ∧ Below w.heap.size w w' := by
  by_cases h : 300 < s.size
  · exact jreads_long s h w he
  · have h1 := bs_of s
    have h2 := bs_size s.data.toList
    rw [h1] at h2
    have := jreads_main s.data.toList (by omega) w he
    rwa [h1] at this
end Go.Proofs.YtjbcgahdiolhhaaDoor.D2
