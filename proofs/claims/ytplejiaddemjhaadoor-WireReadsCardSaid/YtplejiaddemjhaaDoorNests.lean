/-
  WireNests' walk: whatever the values, the Go function returns true and turns nothing that was there.
  Conditions: what the library's own variables hold, and the list lies whole in memory.
-/
import Derived.Test.YtplejiaddemjhaaDoorBack
namespace Go.Proofs.YtplejiaddemjhaaDoor
open Go.RowKit Go.Shelf

theorem own_below {w w' : World} {lo n s : Nat} {e : TypeId} {v : Value} {xs : List Value} (h : w.ownsRow lo e s v n xs) (hb : Below w.heap.size w w') : w'.ownsRow lo e s v n xs := h.kept (gb_of_below hb none) (Classical.em _)

theorem below_row {B : Nat} {w w' : World} {row : Option Nat} (h : w.grownBy w' row) (hr : ∀ i, row = some i → B ≤ i) (hs : B ≤ w.heap.size) : Below B w w' :=
  ⟨h.os, h.tape, h.output, h.size, fun i hi => h.block i (Nat.lt_of_lt_of_le hi hs) (fun e => by have := hr i e.symm; omega)⟩
theorem take_snoc {α : Type} {xs : List α} {k : Nat} {x : α} (h : xs[k]? = some x) : xs.take (k + 1) = xs.take k ++ [x] := by
  obtain ⟨hi, rfl⟩ := List.getElem?_eq_some_iff.1 h
  exact List.take_succ_eq_append_getElem hi

theorem texts_len2 (ts : List (List UInt8)) (h : ∀ t ∈ ts, t.length ≤ 170000) : (Sp.eMany Sp.eText ts).length ≤ 170023 * ts.length := by
  induction ts with
  | nil => simp [Sp.eMany]
  | cons t ts ih =>
    have h1 := ih (fun y hy => h y (List.mem_cons_of_mem _ hy))
    have h3 := h t (by simp)
    have h2 := Lib.itoa_length_le (t.length : Int) (by omega) (by omega)
    simp only [Sp.eMany, List.length_append, List.length_cons, Sp.eText]
    simp; omega

theorem text_some (b : Nat) (s : List UInt8) (hs : s.length ≤ 100000000) (w : World) (he : Env w) (h : RdAt 54 b (some (Sp.eText s)) w) :
    Calls Tryd.prog 28 #[.pointer (some ⟨b, 0, none⟩)] w (Left 54 b (.string (bs s)) (some []) w) := by
  have hl := Lib.itoa_length_le (s.length : Int) (by omega) (by omega)
  have hr : rText (some (Sp.eText s)) = (s, some []) := by
    have := Sp.pText_e s (by omega) []
    rw [List.append_nil] at this
    simp [rText, this]
  have := text_any b (some (Sp.eText s)) (by simp [Sp.eText]; omega) w he h
  rwa [hr] at this
theorem texts_some (b : Nat) (ts : List (List UInt8)) (hl : ts.length ≤ 20) (hs : ∀ t ∈ ts, t.length ≤ 170000) (w : World) (he : Env w) (hb : G0 ≤ b) (h : RdAt 54 b (some (Sp.eList Sp.eText ts)) w) :
    Calls Tryd.prog 34 #[.pointer (some ⟨b, 0, none⟩)] w (LeftList (fun z : List UInt8 => Value.string (bs z)) 54 b ts (some []) w) := by
  have hi := Lib.itoa_length_le (ts.length : Int) (by omega) (by omega)
  have hm := texts_len2 ts hs
  have hr : rList Sp.pText (some (Sp.eList Sp.eText ts)) = (ts, some []) := by
    have := Sp.pList_e Sp.eText Sp.pText ts (by omega) (fun a ha t => Sp.pText_e a (by have := hs a ha; omega) t) []
    rw [List.append_nil] at this
    simp [rList, this]
  have := rTexts_any b (some (Sp.eList Sp.eText ts)) (by rw [Option.getD_some, eList_length]; omega) w he hb h
  rwa [hr] at this

theorem parts_at {wr : World} {lo : Nat} {v : Value} {xs : List Val} (hown : wr.ownsRow lo 9 1 v xs.length ((xs.take xs.length).map (fun x => Value.string (bs x.enc)))) : TextsAt wr v (xs.map Val.enc) := by
  have e : (xs.take xs.length).map (fun x => Value.string (bs x.enc)) = (xs.map Val.enc).map (fun z : List UInt8 => Value.string (bs z)) := by rw [List.take_length, List.map_map]; rfl
  rw [e] at hown
  have e2 : wr.ownsRow lo 9 1 v (xs.map Val.enc).length ((xs.map Val.enc).map (fun z : List UInt8 => Value.string (bs z))) := by rw [List.length_map]; exact hown
  exact textsAt_of (listFrom_own e2)

theorem Cells5.keep {w w' : World} {b o : Nat} {x : Val} {vL vT : Value} (h : Cells5 w b o x vL vT) (hb : Below w.heap.size w w') : Cells5 w' b o x vL vT := by
  have hl : b < w.heap.size := Lib.lt_of_cell h.c0
  have e : ∀ o, w'.cell? ⟨b, o, none⟩ = w.cell? ⟨b, o, none⟩ := fun o => hb.cell (p := ⟨b, o, none⟩) hl
  exact ⟨(e _).trans h.c0, (e _).trans h.c1, (e _).trans h.c2, (e _).trans h.c3, (e _).trans h.c4⟩
theorem texts_get {W wr : World} {a : Option Addr} {ts : List (List UInt8)} (h : ts = [] ∨ ∃ b off, a = some ⟨b, off, none⟩ ∧ b < W.heap.size ∧ ∀ k, k < ts.length → W.cell? ⟨b, off + k, none⟩ = some (.string (bs (ts.getD k []))))
    (hb : Below W.heap.size W wr) (k : Nat) (y : List UInt8) (hk : ts[k]? = some y) : ∃ b off, a = some ⟨b, off, none⟩ ∧ wr.cell? ⟨b, off + k, none⟩ = some (.string (bs y)) := by
  rcases h with rfl | ⟨b, off, rfl, hbl, hc⟩
  · simp at hk
  · refine ⟨b, off, rfl, ?_⟩
    rw [hb.cell (p := ⟨b, off + k, none⟩) hbl, hc k (List.getElem?_eq_some_iff.1 hk).1, List.getD_eq_getElem?_getD, hk]
    rfl

set_option maxRecDepth 100000 in
theorem nests_few (v : Value) (xs : List Val) (w : World) (he : Env w) (h : ValsAt w v xs) (hf : fewB xs = false) :
    Calls Tryd.prog 8 #[v] w fun e w' => e = .returned (.bool true) ∧ Below w.heap.size w w' := by
  have HX := Lib.hid hf
  clear hf
  go_enter Tryd.func8, Tryd.ntmps8
  go_wp2_with (go_at_call 9; refine (small_any _ he).mono ?_; rintro e w1 ⟨rfl, b1⟩; refine Hid.out ?_)
  refine Lib.hid ?_
  have h1 := h.keep b1
  have m1 := b1.size
  go_wp2_with (go_at_call 10; refine (few_at _ xs false HX.out _ h1).mono ?_; rintro e w2 ⟨rfl, b2⟩)
  go_ret
  exact ⟨rfl, b1.trans (b2.mono m1)⟩

set_option maxRecDepth 100000 in
set_option maxHeartbeats 2000000 in
theorem nests_some (a : Option Addr) (cap : Nat) (xs : List Val) (w : World) (he : Env w) (h : ValsAt w (.slice a xs.length cap) xs) (ho : ∀ x ∈ xs, x.Ok)
    (hc : xs = [] ∨ ∃ b off, a = some ⟨b, off, none⟩ ∧ b < w.heap.size ∧ ∀ i x, xs[i]? = some x → ∃ vL vT, Cells5 w b (off + i * 5) x vL vT ∧ IntsAt w vL x.L ∧ TextsAt w vT x.T) (hf : fewB xs = true) :
    Calls Tryd.prog 8 #[.slice a xs.length cap] w fun e w' => e = .returned (.bool true) ∧ Below w.heap.size w w' := by
  obtain ⟨i0, hi, hz0, hz1, hz2⟩ := info_parts string_info
  have HX := Lib.hid hf
  have HC := Lib.hid hc
  have HO := Lib.hid ho
  have hlen : xs.length ≤ 20 := (fewB_true hf).1
  have HS := Lib.hid (show ∀ t ∈ xs.map Val.enc, t.length ≤ 170000 from fun t ht => by
    obtain ⟨x, hx, rfl⟩ := List.mem_map.1 ht
    exact enc_small x (ho x hx) ((fewB_true hf).2.1 x hx))
  have HM := Lib.hid (show (xs.map Val.enc).length = xs.length from by rw [List.length_map])
  have hlt2 : (xs.map Val.enc).length ≤ 20 := by rw [List.length_map]; exact hlen
  have hmany : (Sp.eList Sp.eText (xs.map Val.enc)).length ≤ 4000000 := by
    have h1 := texts_len2 _ HS.out
    have h2 := Lib.itoa_length_le ((xs.map Val.enc).length : Int) (by omega) (by omega)
    rw [eList_length]; omega
  clear hf hc ho
  go_enter Tryd.func8, Tryd.ntmps8
  go_wp2_with (go_at_call 9; refine (small_any _ he).mono ?_; rintro e w1 ⟨rfl, b1⟩; refine Hid.out ?_)
  refine Lib.hid ?_
  have h1 := h.keep b1
  have m1 := b1.size
  go_wp2_with (go_at_call 10; refine (few_at _ xs true HX.out _ h1).mono ?_; rintro e w2 ⟨rfl, b2⟩)
  have k2 : Below w.heap.size w w2 := b1.trans (b2.mono m1)
  clear b1 b2 h1 m1
  go_loopw [4, 5] (fun v i wr => ∃ k : Nat, k ≤ xs.length ∧ wr.ownsRow w.heap.size 9 1 v k ((xs.take k).map (fun x => Value.string (bs x.enc))) ∧ i = .int .i64 k ∧ Below w.heap.size w wr) (fun _ i _ => xs.length - (intOf i).toNat)
  case atStart => exact ⟨0, Nat.zero_le _, World.ownsRow_nil _ _ _ _, rfl, k2⟩
  case round =>
    obtain ⟨k, hk, hown, rfl, kr⟩ := hrel
    have er := he.fresh kr
    have mr := kr.size
    by_cases hlt : k < xs.length
    · obtain ⟨b, off, x, vL, vT, rfl, hg, hm, h5, ha⟩ := vals_get HC.out HO.out kr k hlt
      have sx : Small x := (fewB_true HX.out).2.1 x hm
      obtain ⟨c0, c1, c2, c3, c4⟩ := h5
      have ax := ha.keep kr
      have HG := Lib.hid hg
      clear hg hm ha
      go_wp2_with (go_at_call 42; refine (write_any x vL vT _ er ax sx).mono ?_; rintro e w3 ⟨rfl, b3⟩; refine Hid.out ?_)
      refine Lib.hid ?_
      have hown2 := own_below hown b3
      have k3 := kr.trans (b3.mono mr)
      have m3 := k3.size
      clear b3 kr er hown c0 c1 c2 c3 c4 ax
      go_wp2_with (at_builtin; refine wpList_append_own _ rfl _ _ 23 rfl w.heap.size 9 i0 (.string ⟨#[]⟩) 1 16 Tryd.underlying23 hi hz0 hz1 hz2 rfl (by decide) _ _ _ rfl (hown2.alloc _) ⟨w3.heap.size, 0, none⟩ 1 1 [.string (bs x.enc)] rfl rfl ?c1 ?c2 ?c3 ?c4 ?c5 ?_)
      case c1 =>
        intro j y hj
        match j, hj with
        | 0, hj => simp at hj; subst hj; simp [Addr.add]
      case c2 => intro y hy; simp at hy; subst hy; rfl
      case c3 => unfold maxLen; omega
      case c4 => omega
      case c5 => simp; omega
      intro v' w4 hown3 hgrow _
      have k4 : Below w.heap.size w w4 := by
        refine k3.trans ?_
        exact ((Below.refl _ _).alloc m3 _).trans (below_row hgrow (fun i hi => (hown2.lt i hi).1) (by simp; omega))
      have hown4 : w4.ownsRow w.heap.size 9 1 v' (k + 1) ((xs.take (k + 1)).map (fun x => Value.string (bs x.enc))) := by
        rw [take_snoc HG.out, List.map_append]; simpa using hown3
      clear hown2 hown3 hgrow k3
      go_wp2
      go_roundw
      case rel => exact ⟨k + 1, by omega, hown4, by go_num, k4⟩
      case measure => simp [intOf]; omega
    · have hkl : k = xs.length := by omega
      subst hkl
      have hparts := parts_at hown
      have HV := Lib.hid hparts
      clear hown hparts hlt hk k2
      generalize hts : xs.map Val.enc = ts at HS HM hlt2 hmany HV
      have HTS := Lib.hid hts
      clear hts
      go_wp2_with (go_at_call 19; refine (wTexts_any _ _ _ er HV.out (fun z hz => by have := HS.out z hz; omega) (by omega) (by omega)).mono ?_; rintro e w4 ⟨rfl, b4⟩; refine Hid.out ?_)
      refine Lib.hid ?_
      have k4 := kr.trans (b4.mono mr)
      have m4 := k4.size
      have e4 := he.fresh k4
      clear b4 er kr HV mr
      generalize hT : Sp.eList Sp.eText ts = T at hmany ⊢
      have HT := Lib.hid hT
      clear hT
      go_wp2_with (go_at_call 15; refine (wText_any _ (by omega) _ e4).mono ?_; rintro e w5 ⟨rfl, b5⟩; refine Hid.out ?_)
      refine Lib.hid ?_
      have k5 := k4.trans (b5.mono m4)
      have m5 := k5.size
      clear b5 e4 k4 m4
      go_wp2_with (go_at_call 21; refine (open_any _ _).mono ?_; rintro e w6 ⟨rfl, r6, b6⟩; refine Hid.out ?_)
      refine Lib.hid ?_
      have k6 := k5.trans (b6.mono m5)
      have e6 := he.fresh k6
      have q5 : G0 ≤ w5.heap.size := (he.fresh k5).size
      clear b6 k5
      generalize w5.heap.size = B1 at r6 m5 q5 ⊢
      go_wp2_with (go_at_call 28; refine (text_some _ _ (by omega) _ e6 r6).mono ?_; rintro e w7 ⟨rfl, r7, g7⟩; refine Hid.out ?_)
      refine Lib.hid ?_
      have k7 := below_trans_gb k6 g7 m5 (Nat.le_refl _)
      have m7 := k7.size
      have e7 := he.fresh k7
      clear g7 r6 e6 k6
      go_wp2_with (go_at_call 21; refine (open_any _ _).mono ?_; rintro e w8 ⟨rfl, r8, b8⟩; refine Hid.out ?_)
      refine Lib.hid ?_
      have k8 := k7.trans (b8.mono m7)
      have p8 := r7.fresh b8
      have e8 := he.fresh k8
      have q7 : G0 ≤ w7.heap.size := e7.size
      clear b8 k7 e7 r7
      generalize w7.heap.size = B2 at r8 m7 q7 ⊢
      rw [← HT.out] at r8
      go_wp2_with (first | (go_at_call 38; refine (done_nil _ _ p8).mono ?_; rintro e w9 ⟨rfl, rfl⟩) | (go_at_call 34; refine (texts_some _ _ hlt2 HS.out _ e8 q7 r8).mono ?_; rintro e w9 ⟨vg, rfl, l9, r9, g9⟩; refine Hid.out ?_))
      refine Lib.hid ?_
      have k9 := below_trans_gb k8 g9 m7 (Nat.le_refl _)
      have m9 := k9.size
      have t9 := textsAt_of l9
      clear g9 l9 k8 e8 r8 p8
      obtain ⟨ag, cg, hvg, hg⟩ := t9
      rw [HM.out] at hvg
      subst hvg
      have HG := Lib.hid hg
      clear hg
      go_wp2_with (go_at_call 38; refine (done_nil _ _ r9).mono ?_; rintro e w10 ⟨rfl, rfl⟩)
      clear r9
      go_loopw [2, 9, 10] (fun _ i _ wr => ∃ k : Nat, k ≤ xs.length ∧ i = .int .i64 k ∧ Below w9.heap.size w9 wr) (fun _ i _ _ => xs.length - (intOf i).toNat)
      case atStart => exact ⟨0, Nat.zero_le _, rfl, Below.refl _ _⟩
      case round =>
        obtain ⟨k, hk, rfl, kr⟩ := hrel
        have mr := kr.size
        have kw := k9.trans (kr.mono m9)
        have mw := kw.size
        have ew := he.fresh kw
        by_cases hlt : k < xs.length
        · obtain ⟨b, off, x, vL, vT, rfl, hgx, hm, h5, ha⟩ := vals_get HC.out HO.out kw k hlt
          have sx : Small x := (fewB_true HX.out).2.1 x hm
          obtain ⟨bg, og, rfl, cg0⟩ := texts_get HG.out kr k x.enc (by rw [← HTS.out, List.getElem?_map, hgx]; rfl)
          clear hgx hm
          have hlen1 : x.enc.length ≤ 170000 := enc_small x ha.ok sx
          go_wp2_with (go_at_call 21; refine (open_any _ _).mono ?_; rintro e w10 ⟨rfl, r10, b10⟩; refine Hid.out ?_)
          refine Lib.hid ?_
          have k10 := kw.trans (b10.mono mw)
          have e10 := he.fresh k10
          have q10 := kr.trans (b10.mono mr)
          have hE := equal_any w x vL vT wr.heap.size (some x.enc) (by rw [Option.getD_some]; omega) w10 e10 ha sx k10 mw ew.size r10
          have hx0 := eq_enc x ha.ok sx []
          rw [List.append_nil] at hx0
          rw [hx0] at hE
          have HE := Lib.hid hE
          obtain ⟨c0, c1, c2, c3, c4⟩ := h5.keep b10
          have M9 : w9.heap.size ≤ w9.heap.size := Nat.le_refl _
          clear hE hx0 h5 b10 ha ew kw k10 e10 r10 kr cg0
          go_wp2_with (first | (go_at_call 43; refine HE.out.mono ?_; rintro e w11 ⟨rfl, r11, g11⟩) | (go_at_call 38; refine (done_nil _ _ r11).mono ?_; rintro e w12 ⟨rfl, rfl⟩))
          go_roundw
          case rel => exact ⟨k + 1, by omega, by go_num, below_trans_gb q10 g11 mr M9⟩
          case measure => simp [intOf]; omega
        · have hkl : k = xs.length := by omega
          subst hkl
          go_wp2
          go_ret
          exact ⟨rfl, kw⟩

theorem nests_walk (v : Value) (xs : List Val) (w : World) (he : Env w) (h : ValsAt w v xs) (ho : ∀ x ∈ xs, x.Ok) :
    Calls Tryd.prog 8 #[v] w fun e w' => e = .returned (.bool true) ∧ Below w.heap.size w w' := by
  cases hf : fewB xs with
  | false => exact nests_few v xs w he h hf
  | true =>
    have h' := h
    obtain ⟨a, cap, rfl, hc⟩ := h'
    exact nests_some a cap xs w he h ho hc hf
end Go.Proofs.YtplejiaddemjhaaDoor
