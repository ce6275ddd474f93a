/- small: the examples of the documentation. -/
import Derived.Test.YtjbcgahdiolhhaaDoorJOpen
import Derived.Test.YtjbcgahdiolhhaaDoorJCrash
import Derived.Test.YtjbcgahdiolhhaaDoorJSame
namespace Go.Proofs.YtjbcgahdiolhhaaDoor.D2
open Go.RowKit Go.Maps Go.ChangeMaps Go.MapKept
open Dp Jp
attribute [local go_sem ↓] Go.wp_at_zero Go.wp_at_succ

/-! ### Calls whose results are known -/
section
variable {w0 w : World} {os : List Ob} {i k b d : Nat} {D D' : Dk} {J J' : Jn}
theorem o_open1 (h : OMem w0 w os) (hi : os[i]? = some (.disk d D)) (f : Int) (hf : I64 f) (he : Env w0) {l : List (List UInt8)} {n : Int} (hr : jopen D f = (some l, n, D')) :
    Calls Tryd.prog 10 #[.pointer (some ⟨d, 0, none⟩), .int .i64 f] w fun e w' => ∃ b, e = .returned (.tuple #[.pointer (some ⟨b, 0, none⟩), .int .i64 n]) ∧ OMem w0 w' (os.set i (.disk d D') ++ [.jour b d ⟨f, l, false⟩]) := by
  refine (o_open h hi f hf he).mono ?_
  rw [hr]
  rintro e w' (⟨h1, _⟩ | ⟨l', b, h1, h2, h3⟩)
  · cases h1
  · cases h1; exact ⟨b, h2, h3⟩
theorem o_open0 (h : OMem w0 w os) (hi : os[i]? = some (.disk d D)) (f : Int) (hf : I64 f) (he : Env w0) {n : Int} (hr : jopen D f = (none, n, D')) :
    Calls Tryd.prog 10 #[.pointer (some ⟨d, 0, none⟩), .int .i64 f] w fun e w' => e = .returned (.tuple #[.pointer none, .int .i64 n]) ∧ OMem w0 w' (os.set i (.disk d D')) := by
  refine (o_open h hi f hf he).mono ?_
  rw [hr]
  rintro e w' (⟨_, h2, h3⟩ | ⟨l', b, h1, _⟩)
  · exact ⟨h2, h3⟩
  · cases h1
theorem o_append1 (h : OMem w0 w os) (hi : os[i]? = some (.disk d D)) (hk : os[k]? = some (.jour b d J)) (hne : i ≠ k) (s : List UInt8) (he : Env w) {n : Int} (hr : jappend D J s = (n, D', J')) :
    Calls Tryd.prog 14 #[.pointer (some ⟨b, 0, none⟩), .string (bs s)] w fun e w' => e = .returned (.int .i64 n) ∧ OMem w0 w' ((os.set i (.disk d D')).set k (.jour b d J')) := by
  have := o_append h hi hk hne s he
  rw [hr] at this
  exact this
theorem o_jsync1 (h : OMem w0 w os) (hi : os[i]? = some (.disk d D)) (hk : os[k]? = some (.jour b d J)) (hne : i ≠ k) {n : Int} (hr : jsync D J = (n, D', J')) :
    Calls Tryd.prog 17 #[.pointer (some ⟨b, 0, none⟩)] w fun e w' => e = .returned (.int .i64 n) ∧ OMem w0 w' ((os.set i (.disk d D')).set k (.jour b d J')) := by
  have := o_jsync h hi hk hne
  rw [hr] at this
  exact this
theorem o_write1 (h : OMem w0 w os) (hi : os[i]? = some (.disk d D)) (f a : Int) (s : List UInt8) (hf : I64 f) (ha : I64 a) (hs : s.length ≤ 140737488355327) {n : Int} (hr : D.write f a s = (n, D')) :
    Calls Tryd.prog 22 #[.pointer (some ⟨d, 0, none⟩), .int .i64 f, .int .i64 a, .string (bs s)] w fun e w' => e = .returned (.int .i64 n) ∧ OMem w0 w' (os.set i (.disk d D')) := by
  have := o_write h hi f a s hf ha hs
  rw [hr] at this
  exact this
theorem o_read1 (h : OMem w0 w os) (hi : os[i]? = some (.disk d D)) (f a n : Int) (hf : I64 f) (ha : I64 a) (hn : I64 n) {s : List UInt8} {r : Int} (hr : D.read f a n = (s, r)) :
    Calls Tryd.prog 30 #[.pointer (some ⟨d, 0, none⟩), .int .i64 f, .int .i64 a, .int .i64 n] w fun e w' => e = .returned (.tuple #[.string (bs s), .int .i64 r]) ∧ OMem w0 w' os := by
  have := o_read h hi f a n hf ha hn
  rw [hr] at this
  exact this
theorem o_read2 (h : OMem w0 w os) (hi : os[i]? = some (.disk d D)) (f a n : Int) (hf : I64 f) (ha : I64 a) (hn : I64 n) {s : List UInt8} {r : Int} (hr : D.read f a n = (s, r)) (z : ByteArray) (hz : bs s = z) :
    Calls Tryd.prog 30 #[.pointer (some ⟨d, 0, none⟩), .int .i64 f, .int .i64 a, .int .i64 n] w fun e w' => e = .returned (.tuple #[.string z, .int .i64 r]) ∧ OMem w0 w' os := by
  rw [← hz]
  exact o_read1 h hi f a n hf ha hn hr
theorem o_get1 (h : OMem w0 w os) (hk : os[k]? = some (.jour b d J)) (n : Int) (hn : I64 n) (z : ByteArray) (hz : bs (if 0 ≤ n then J.l.getD n.toNat [] else []) = z) :
    Calls Tryd.prog 33 #[.pointer (some ⟨b, 0, none⟩), .int .i64 n] w fun e w' => e = .returned (.string z) ∧ w = w' := by
  rw [← hz]
  exact o_get h hk n hn
theorem o_len1 (h : OMem w0 w os) (hk : os[k]? = some (.jour b d J)) (n : Int) (hn : (J.l.length : Int) = n) :
    Calls Tryd.prog 32 #[.pointer (some ⟨b, 0, none⟩)] w fun e w' => e = .returned (.int .i64 n) ∧ w = w' := by
  rw [← hn]
  exact o_len h hk
theorem o_size1 (h : OMem w0 w os) (hi : os[i]? = some (.disk d D)) (f : Int) (hf : I64 f) {r : Nat} (hr : D.size f = r) : Calls Tryd.prog 31 #[.pointer (some ⟨d, 0, none⟩), .int .i64 f] w fun e w' => e = .returned (.int .i64 (r : Int)) ∧ w = w' := by
  have := o_size h hi f hf
  rwa [hr] at this
theorem OMem.texts (h : OMem w0 w os) {v : Value} {l : List (List UInt8)} (hi : os[i]? = some (.own 9 v (strVs l))) : TextsAt w v l := by
  have h1 := h.at_row hi
  rw [strVs_length] at h1
  obtain ⟨a, cap, e1, e2⟩ := listFrom_own (lo := 0) (f := fun z : List UInt8 => Value.string (bs z)) h1
  refine ⟨a, cap, e1, ?_⟩
  rcases e2 with h2 | ⟨b, h3, _, h5, h6⟩
  · exact .inl h2
  · exact .inr ⟨b, 0, h3, h5, fun k hk => by rw [Nat.zero_add, List.getD_eq_getElem?_getD, List.getElem?_eq_getElem hk]; exact h6 k _ (List.getElem?_eq_getElem hk)⟩
end
theorem texts_fresh {w w' : World} {v : Value} {l : List (List UInt8)} (h : TextsAt w v l) (hb : Below w.heap.size w w') : TextsAt w' v l := by
  obtain ⟨a, cap, e1, e2⟩ := h
  refine ⟨a, cap, e1, ?_⟩
  rcases e2 with h2 | ⟨b, off, h3, h5, h6⟩
  · exact .inl h2
  · exact .inr ⟨b, off, h3, Nat.lt_of_lt_of_le h5 hb.size, fun k hk => by rw [hb.cell (p := ⟨b, off + k, none⟩) h5]; exact h6 k hk⟩
theorem texts_one (w : World) (l : List UInt8) (T : TypeId) : TextsAt (w.alloc (.cells #[.string (bs l)] T)) (.slice (some ⟨w.heap.size, 0, none⟩) 1 1) [l] :=
  ⟨some ⟨w.heap.size, 0, none⟩, 1, rfl, .inr ⟨w.heap.size, 0, rfl, by simp, fun k hk => by
    have : k = 0 := by simp at hk; omega
    subst this
    rw [alloc_new_cell]; rfl⟩⟩

/-! ### The examples, reckoned -/
theorem it293 : Lib.itoa 293 = [50, 57, 51] := by unfold Lib.itoa; rw [if_neg (by decide)]; show Lib.decDigits 293 = _; rw [Sp.decDigits_big (by decide), Sp.decDigits_big (by decide), Sp.decDigits_small (by decide)]; rfl
theorem it98 : Lib.itoa 98 = [57, 56] := by unfold Lib.itoa; rw [if_neg (by decide)]; show Lib.decDigits 98 = _; rw [Sp.decDigits_big (by decide), Sp.decDigits_small (by decide)]; rfl
theorem form_ab : form [97, 98] = [50, 58, 97, 98, 44, 50, 57, 51, 59] := by
  have h1 : ((jsum [97, 98] : Nat) : Int) = 293 := by decide
  have h2 : (([97, 98] : List UInt8).length : Int) = 2 := rfl
  unfold form Sp.eText Sp.eNum Sp.eInt
  rw [h1, h2, it293, it2]
  rfl
theorem form_no : form [] = [48, 58, 44, 48, 59] := by
  have h1 : ((jsum [] : Nat) : Int) = 0 := by decide
  have h2 : (([] : List UInt8).length : Int) = 0 := rfl
  unfold form Sp.eText Sp.eNum Sp.eInt
  rw [h1, h2, it0]
  rfl
theorem rec_odd : rec1 [49, 58, 97, 44, 57, 56, 59] = none := by
  have h : ([49, 58, 97, 44, 57, 56, 59] : List UInt8) = Sp.eText [97] ++ (Sp.eNum 98 ++ []) := by
    have h2 : (([97] : List UInt8).length : Int) = 1 := rfl
    unfold Sp.eText Sp.eNum Sp.eInt
    rw [h2, it1, it98]
    rfl
  unfold rec1
  rw [h, Sp.pText_e [97] (by decide)]
  simp only
  rw [Sp.pNum_e 98 ⟨by decide, by decide⟩ (by decide)]
  simp only
  rw [if_neg (by decide)]
theorem recs_odd : recs [50, 58, 97, 98, 44, 50, 57, 51, 59, 49, 58, 97, 44, 57, 56, 59] = [[97, 98]] := by
  have h := recs_forms [[97, 98]] [49, 58, 97, 44, 57, 56, 59] (by decide) rec_odd
  rw [forms_cons, forms_nil, List.append_nil, form_ab] at h
  exact h
theorem small_plain : ∃ D1 D2 D3 D4 D5, jopen new 3 = (some [], 0, D1) ∧ jappend D1 ⟨3, [], false⟩ [97, 98] = (0, D2, ⟨3, [[97, 98]], false⟩) ∧ jappend D2 ⟨3, [[97, 98]], false⟩ [] = (0, D3, ⟨3, [[97, 98], []], false⟩) ∧
    D3.read 3 0 99 = ([50, 58, 97, 98, 44, 50, 57, 51, 59, 48, 58, 44, 48, 59], 0) ∧ D3.write 4 0 [50, 58, 97, 98, 44, 50, 57, 51, 59, 49, 58, 97, 44, 57, 56, 59] = (0, D4) ∧ jopen D4 4 = (some [[97, 98]], 0, D5) ∧ D5.size 4 = 9 := by
  obtain ⟨D1, o1, q1, g1, s1, n1⟩ := open_quiet good_new quiet_new (f := 3) (by decide)
  have e1 : recs (new.now 3) = [] := rfl
  rw [e1] at o1 s1
  have hf1 := form_ab
  have hf2 := form_no
  obtain ⟨D2, o2, q2, g2, m2, n2, _⟩ := append_quiet g1 q1 (J := ⟨3, [], false⟩) (f := 3) (by decide) rfl rfl s1.now (s := [97, 98]) (by decide) (by rw [hf1]; decide)
  obtain ⟨D3, o3, q3, g3, m3, n3, _⟩ := append_quiet g2 q2 (J := ⟨3, [[97, 98]], false⟩) (f := 3) (by decide) rfl rfl m2 (s := []) (by decide) (by simp only; rw [forms_cons, forms_nil, List.append_nil, hf1, hf2]; decide)
  obtain ⟨D4, o4, q4, g4, m4, _, _⟩ := write_quiet g3 q3 (f := 4) (a := 0) (by decide) (s := [50, 58, 97, 98, 44, 50, 57, 51, 59, 49, 58, 97, 44, 57, 56, 59]) (by decide)
  have z : D3.now 4 = [] := by rw [n3 4 (by decide), n2 4 (by decide), n1 4 (by decide)]; rfl
  rw [z, putN_nil] at m4
  obtain ⟨D5, o5, q5, g5, s5, _⟩ := open_quiet g4 q4 (f := 4) (by decide)
  rw [m4, recs_odd] at o5 s5
  have h3 : D3.now 3 = [50, 58, 97, 98, 44, 50, 57, 51, 59, 48, 58, 44, 48, 59] := by
    rw [m3]
    show form [97, 98] ++ (form [] ++ []) = _
    rw [hf1, hf2]
    rfl
  refine ⟨D1, D2, D3, D4, D5, o1, o2, o3, ?_, o4, o5, ?_⟩
  · have h33 : D3.now (3 : Int).toNat = _ := h3
    have := read_all (f := 3) (n := 99) q3.up (isFile_nat (f := 3) (by decide)) (by rw [h33]; decide)
    rw [h33] at this
    exact this
  · have h44 : D5.now (4 : Int).toNat = _ := s5.now
    have i4 : isFile 4 = true := isFile_nat (f := 4) (by decide)
    unfold Dk.size
    rw [i4, if_pos rfl, h44, forms_cons, forms_nil, List.append_nil, hf1]
    rfl
theorem sum_e : jsum [] = 0 ∧ jsum [97] = 97 ∧ jsum [97, 98] = 293 := by decide

set_option maxHeartbeats 4000000 in
set_option maxRecDepth 100000 in
theorem small_any (w : World) (he : Env w) : Calls Tryd.prog 7 #[] w fun e w' => e = .returned (.bool true) ∧ Below w.heap.size w w' := by
  obtain ⟨D1, D2, D3, D4, D5, p1, p2, p3, p4, p5, p6, p7⟩ := small_plain
  have P1 := Lib.hid p1
  have P2 := Lib.hid p2
  have P3 := Lib.hid p3
  have P4 := Lib.hid p4
  have P5 := Lib.hid p5
  have P6 := Lib.hid p6
  have P7 := Lib.hid p7
  clear p1 p2 p3 p4 p5 p6 p7
  go_enter Tryd.func7, Tryd.ntmps7
  go_wp2_with (go_at_call 9; refine (o_new (OMem.start w)).mono ?_; rintro e w1 ⟨d, rfl, m⟩; refine Hid.out ?_)
  refine Lib.hid ?_
  have M1 := Lib.hid (show OMem w w1 [.disk d new] from m)
  clear m
  go_wp2_with (go_at_call 10; refine (o_open1 (i := 0) M1.out rfl 3 ⟨by decide, by decide⟩ he P1.out).mono ?_; rintro e w2 ⟨b, rfl, m⟩; refine Hid.out ?_)
  refine Lib.hid ?_
  have M2 := Lib.hid (show OMem w w2 [.disk d D1, .jour b d ⟨3, [], false⟩] from m)
  clear m M1
  go_wp2_with (go_at_call 14; refine (o_append1 (i := 0) (k := 1) M2.out rfl rfl (by decide) [97, 98] (M2.out.env he) P2.out).mono ?_; rintro e w3 ⟨rfl, m⟩; refine Hid.out ?_)
  refine Lib.hid ?_
  have M3 := Lib.hid (show OMem w w3 [.disk d D2, .jour b d ⟨3, [[97, 98]], false⟩] from m)
  clear m M2
  go_wp2_with (go_at_call 14; refine (o_append1 (i := 0) (k := 1) M3.out rfl rfl (by decide) [] (M3.out.env he) P3.out).mono ?_; rintro e w4 ⟨rfl, m⟩; refine Hid.out ?_)
  refine Lib.hid ?_
  have M4 := Lib.hid (show OMem w w4 [.disk d D3, .jour b d ⟨3, [[97, 98], []], false⟩] from m)
  clear m M3
  go_wp2_with (go_at_call 30; refine (o_read2 (i := 0) M4.out rfl 3 0 99 ⟨by decide, by decide⟩ I64.zero ⟨by decide, by decide⟩ P4.out ⟨#[50, 58, 97, 98, 44, 50, 57, 51, 59, 48, 58, 44, 48, 59]⟩ rfl).mono ?_; rintro e w5 ⟨rfl, m⟩; refine Hid.out ?_)
  refine Lib.hid ?_
  have M5 := Lib.hid m
  clear m M4
  go_wp2_with (go_at_call 22; refine (o_write1 (i := 0) M5.out rfl 4 0 [50, 58, 97, 98, 44, 50, 57, 51, 59, 49, 58, 97, 44, 57, 56, 59] ⟨by decide, by decide⟩ I64.zero (by decide) P5.out).mono ?_; rintro e w6 ⟨rfl, m⟩; refine Hid.out ?_)
  refine Lib.hid ?_
  have M6 := Lib.hid (show OMem w w6 [.disk d D4, .jour b d ⟨3, [[97, 98], []], false⟩] from m)
  clear m M5
  go_wp2_with (go_at_call 10; refine (o_open1 (i := 0) M6.out rfl 4 ⟨by decide, by decide⟩ he P6.out).mono ?_; rintro e w7 ⟨c, rfl, m⟩; refine Hid.out ?_)
  refine Lib.hid ?_
  have M7 := Lib.hid (show OMem w w7 [.disk d D5, .jour b d ⟨3, [[97, 98], []], false⟩, .jour c d ⟨4, [[97, 98]], false⟩] from m)
  clear m M6
  go_wp2_with (go_at_call 29; refine (sum_any [] (by decide) _).mono ?_; rintro e w8 ⟨rfl, rfl⟩; refine Hid.out ?_)
  refine Lib.hid ?_
  rw [sum_e.1]
  go_wp2_with (go_at_call 29; refine (sum_any [97] (by decide) _).mono ?_; rintro e w8 ⟨rfl, rfl⟩; refine Hid.out ?_)
  refine Lib.hid ?_
  rw [sum_e.2.1]
  go_wp2_with (go_at_call 29; refine (sum_any [97, 98] (by decide) _).mono ?_; rintro e w8 ⟨rfl, rfl⟩; refine Hid.out ?_)
  refine Lib.hid ?_
  rw [sum_e.2.2]
  go_wp2_with (go_at_call 32; refine (o_len1 (k := 1) M7.out rfl 2 rfl).mono ?_; rintro e w8 ⟨rfl, rfl⟩; refine Hid.out ?_)
  refine Lib.hid ?_
  go_wp2_with (go_at_call 33; refine (o_get1 (k := 1) M7.out rfl 0 I64.zero ⟨#[97, 98]⟩ rfl).mono ?_; rintro e w8 ⟨rfl, rfl⟩; refine Hid.out ?_)
  refine Lib.hid ?_
  go_wp2_with (go_at_call 13; refine (o_all (k := 2) M7.out rfl).mono ?_; rintro e w8 ⟨v, rfl, m⟩; refine Hid.out ?_)
  refine Lib.hid ?_
  have M8 := Lib.hid (show OMem w w8 [.disk d D5, .jour b d ⟨3, [[97, 98], []], false⟩, .jour c d ⟨4, [[97, 98]], false⟩, .own 9 v (strVs [[97, 98]])] from m)
  clear m M7
  have T1 := Lib.hid (texts_fresh (M8.out.texts (i := 3) rfl) (below_alloc w8 (.cells #[.string (bs [97, 98])] 9)))
  have T2 := Lib.hid (texts_one w8 [97, 98] 9)
  go_wp2_with (go_at_call 16; refine (sameTexts_any _ _ [[97, 98]] [[97, 98]] (by decide) _ T1.out T2.out).mono ?_; rintro e w9 ⟨rfl, b9⟩; refine Hid.out ?_)
  refine Lib.hid ?_
  have m9 := (M8.out.fresh (below_alloc w8 (.cells #[.string (bs [97, 98])] 9))).fresh b9
  have M9 := Lib.hid m9
  clear m9 b9 M8
  go_wp2_with (go_at_call 31; refine (o_size1 (i := 0) M9.out rfl 4 ⟨by decide, by decide⟩ P7.out).mono ?_; rintro e w10 ⟨rfl, rfl⟩; refine Hid.out ?_)
  refine Lib.hid ?_
  go_wp2
  go_ret
  exact ⟨rfl, M9.out.below⟩
end Go.Proofs.YtjbcgahdiolhhaaDoor.D2
