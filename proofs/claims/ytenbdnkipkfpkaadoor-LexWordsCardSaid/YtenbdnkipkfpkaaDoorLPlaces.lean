/- The walk of LexPlaces. -/
import Derived.Test.YtenbdnkipkfpkaaDoorLJoins
namespace Go.Proofs.YtenbdnkipkfpkaaDoor
open Go.RowKit Go.Maps Go.ChangeMaps Go.MapKept
open Lx
attribute [local go_sem ↓] Go.wp_at_zero Go.wp_at_succ
/-- The tokens from the k-th on stand behind byte e. -/
def PlIn (x : S) (ts : List Tk) (k e : Nat) : Prop := (k < ts.length → Placed x e (ts.drop k)) ∧ (k = ts.length → e = x.length)
theorem placed_ne {x : S} {e : Nat} {ts : List Tk} (h : Placed x e ts) : ts ≠ [] := by cases h <;> simp
/-- What the walk meets at the k-th token. -/
theorem placed_step {x : S} {ts : List Tk} {k e : Nat} (h : PlIn x ts k e) (hk : k < ts.length) : ∃ (z : Tk) (p : Nat), ts[k]? = some z ∧ z.pos = p ∧ e ≤ p ∧ p + z.text.length ≤ x.length ∧
    ((k + 1 = ts.length ∧ z.text = [] ∧ z.kind = 3 ∧ z.n = 0) ∨ (k + 1 < ts.length ∧ z.text ≠ [] ∧ z.kind ≠ 3 ∧ (z.kind ≠ 1 → z.n = 0))) ∧
    (x.drop p).take z.text.length = z.text ∧ (∀ j c, e ≤ j → j < p → x[j]? = some c → Lx.blank c = true) ∧ PlIn x ts (k + 1) (p + z.text.length) := by
  have h1 := h.1 hk
  obtain ⟨us, hus⟩ : ∃ us, ts.drop k = us := ⟨_, rfl⟩
  rw [hus] at h1
  have hlen : us.length = ts.length - k := by rw [← hus, List.length_drop]
  have hget : ∀ z l, us = z :: l → ts[k]? = some z := fun z l q => by
    have : (ts.drop k)[0]? = some z := by rw [hus, q]; rfl
    rwa [List.getElem?_drop, Nat.add_zero] at this
  cases h1 with
  | last he hb =>
    simp only [List.length_cons, List.length_nil] at hlen
    refine ⟨⟨3, [], 0, (x.length : Int)⟩, x.length, hget _ _ rfl, rfl, he, by simp, .inl ⟨by omega, rfl, rfl, rfl⟩, by simp, fun j c h1 _ h3 => hb j c h1 h3, fun q => by omega, fun _ => by simp⟩
  | @more _ p kk n w vs h1 h2 h3 h4 h5 h6 h7 h8 =>
    have hv := List.length_pos_iff.2 (placed_ne h8)
    rw [List.length_cons] at hlen
    refine ⟨⟨kk, w, n, (p : Int)⟩, p, hget _ _ rfl, rfl, h1, h6, .inr ⟨by omega, h2, h3, h4⟩, h5, h7, fun _ => ?_, fun q => by omega⟩
    have : ts.drop (k + 1) = vs := by rw [← List.drop_drop, hus]; rfl
    rw [this]; exact h8
theorem places_start {x : S} {ts : List Tk} (h : lex x 0 = .ok ts) : PlIn x ts 0 0 :=
  ⟨fun _ => by rw [List.drop_zero]; exact placed_of x 0 0 ts (by simp) (Nat.le_refl _) (Nat.zero_le _) (fun i c h1 h2 => by omega) h, fun q => by
    have := List.length_pos_iff.2 (lex_ne h); omega⟩
set_option maxHeartbeats 8000000 in
set_option maxRecDepth 100000 in
theorem places_walk {E : World → Prop} (A : LApi E) {w : World} {s : S} (hE : E w) :
    Calls Tryd.prog 5 #[.string (bs s)] w fun e w' => e = .returned (.bool true) ∧ Below w.heap.size w w' := by
  have HE := Lib.hid hE
  clear hE
  obtain ⟨x, hx⟩ : ∃ x, s.take 900 = x := ⟨_, rfl⟩
  have HC := fun w1 => @cut_any w1 s
  rw [hx] at HC
  have hxl : x.length ≤ 900 := by rw [← hx, List.length_take]; omega
  have HC := Lib.hid HC
  have zx := bs_size x
  clear hx
  rcases lexRes_cases x (by omega) with ⟨ts, hr, hr2⟩ | ⟨p, er, hr, hr2⟩
  · have HR := Lib.hid hr2
    have HPL := Lib.hid (places_start hr)
    have hne := List.length_pos_iff.2 (lex_ne hr)
    have hl1 := (lex_len hr).1
    clear hr hr2
    go_enter Tryd.func5, Tryd.ntmps5
    go_wp2_with (go_at_call 9; refine (small_any A HE.out).mono ?_; rintro e w1 ⟨rfl, b1⟩; refine Hid.out ?_)
    refine Lib.hid ?_
    have HE := Lib.hid (A.keep HE.out b1)
    have B := Lib.hid b1
    clear b1
    go_wp2_with (go_at_call 10; refine (HC.out _).mono ?_; rintro e w2 ⟨rfl, rfl⟩; refine Hid.out ?_)
    refine Lib.hid ?_
    have H := Lib.hid (A.lex_ok HR.out HE.out (by omega))
    go_wp2_with (go_at_call 11; refine (H.out).mono ?_; rintro e w3 ⟨a3, c3, rfl, h3, b1⟩; refine Hid.out ?_)
    refine Lib.hid ?_
    have HE := Lib.hid (A.keep HE.out b1)
    have B := Lib.hid (B.out.trans (b1.mono B.out.size))
    clear b1
    have HA := Lib.hid h3
    clear h3 H
    have hts : (0 : Int) < (ts.length : Int) := by omega
    go_wp2
    go_loopw [8, 9] (fun en i wr => ∃ e k : Nat, k ≤ ts.length ∧ e ≤ x.length ∧ en = .int .i64 e ∧ i = .int .i64 k ∧ Hid (PlIn x ts k e) ∧ Hid (Below w3.heap.size w3 wr)) (fun _ i _ => ts.length - (intOf i).toNat)
    case atStart => exact ⟨0, 0, Nat.zero_le _, Nat.zero_le _, rfl, rfl, HPL, Lib.hid (Below.refl _ _)⟩
    case round =>
      obtain ⟨e, k, hk, hex, rfl, rfl, HP, HB⟩ := hrel
      by_cases hlt : k < ts.length
      · obtain ⟨z, p, hz, hzp, hep, hpl, hcase, htx, hbl, hnext⟩ := placed_step HP.out hlt
        have hlt' : (k : Int) < (ts.length : Int) := by omega
        obtain ⟨ga, offa, capa, h1, _, hc⟩ := (HA.out.keep HB.out).form (by omega)
        cases h1
        obtain ⟨c0, c1, c2, c3⟩ := hc k z hz
        have hb3 := (Below.refl wr.heap.size wr).alloc (Nat.le_refl _) (.cells #[.int .i64 z.kind, .string (bs z.text), .int .i64 z.n, .int .i64 z.pos] 25)
        obtain ⟨t0, t1, t2, t3⟩ := tk_new wr z
        have HB6 := Lib.hid (HB.out.trans (hb3.mono HB.out.size))
        rw [hzp] at c3 t0 t1 t2 t3
        rw [hzp] at HB6
        have HBL := Lib.hid hbl
        have HN := Lib.hid hnext
        have f1 : (bs x).extract p (p + z.text.length) = bs z.text := by rw [bs_extract, Nat.add_sub_cancel_left, htx]
        have zt := bs_size z.text
        have hep' : (e : Int) ≤ (p : Int) := by omega
        have hd1 : decide (p < e) = false := decide_eq_false (by omega)
        have hd2 : decide (x.length < p) = false := decide_eq_false (by omega)
        have hd3 : decide ((x.length : Int) - (z.text.length : Int) < (p : Int)) = false := decide_eq_false (by omega)
        obtain ⟨m, hm⟩ : ∃ m : Nat, m = p + z.text.length := ⟨_, rfl⟩
        have hm' : (p : Int) + (z.text.length : Int) = (m : Int) := by omega
        rw [← hm] at f1 HN hpl
        have HM := Lib.hid hm
        have hpm : p ≤ m := by omega
        clear hm
        have hw1 : IntKind.i64.wrap ((p : Int) + (z.text.length : Int)) = (m : Int) := by rw [hm', IntKind.wrap_i64]; omega
        clear hc hz hzp hb3 hbl hnext htx
        rcases hcase with ⟨k1, k2, k3, k4⟩ | ⟨k1, k2, k3, k4⟩
        · have k1' : (ts.length : Int) - 1 = (k : Int) := by omega
          have K1 := Lib.hid k1
          rw [k2] at c1
          rw [k3] at c0
          rw [k4] at c2
          rw [k2, k3, k4] at t0 t1 t2 t3
          have k5 : m = p := by rw [HM.out, k2]; rfl
          rw [k2] at zt
          rw [k5] at f1 HN
          rw [k2] at f1
          rw [k2, k3, k4] at HB6
          have HE3 := empty_yes
          rw [k5] at hpl
          clear k1 k2 k3 k4 k5 hm' hw1
          go_wp2
          go_quiet (fail)
          have hdr := drewN_below (wr.alloc (.cells #[.int .i64 3, .string (bs []), .int .i64 0, .int .i64 p] 25)) nq
          have t0 := below_cell t0 hdr
          have t1 := below_cell t1 hdr
          have t3 := below_cell t3 hdr
          have HB7 := Lib.hid (HB6.out.trans (hdr.mono HB6.out.size))
          clear hdr c0 c1 c2 c3 t2
          generalize hW : (wr.alloc (.cells #[.int .i64 3, .string (bs []), .int .i64 0, .int .i64 p] 25)).drewN nq = W at t0 t1 t3 HB7
          generalize wr.heap.size = G at *
          go_wp2
          go_loopw [11] (fun kk wz => ∃ g : Nat, e ≤ g ∧ g ≤ p ∧ kk = .int .i64 g ∧ W = wz) (fun kk _ => p - (intOf kk).toNat)
          case atStart => exact ⟨e, Nat.le_refl _, hep, rfl, by trivial⟩
          case round =>
            obtain ⟨g, hg1, hg2, rfl, rfl⟩ := hrel
            by_cases hgp : g < p
            · have hgp' : (g : Int) < (p : Int) := by omega
              obtain ⟨c, hc⟩ : ∃ c, x[g]? = some c := ⟨_, List.getElem?_eq_getElem (by omega)⟩
              obtain ⟨i0, gc⟩ := bs_get hc
              have HQ := Lib.hid (q_blank_of (HBL.out g c hg1 hgp hc))
              clear hc
              go_wp2_with (go_at_call 21; refine (HQ.out _).mono ?_; rintro e9 w9 ⟨rfl, rfl⟩; refine Hid.out ?_)
              refine Lib.hid ?_
              clear HQ gc i0
              go_wp2
              go_roundw
              case rel => exact ⟨g + 1, by omega, by omega, by go_num, by trivial⟩
              case measure => simp [intOf]; omega
            · have hgp2 : p = g := by omega
              subst hgp2
              go_wp2
              go_roundw
              case rel => exact ⟨p, k + 1, by omega, by omega, by go_num, by go_num, HN, HB7⟩
              case measure => simp [intOf]; omega
        · have K1 := Lib.hid k1
          have hkk : ((k : Int) == (ts.length : Int) - 1) = false := by rw [beq_eq_false_iff_ne]; omega
          have hkd : (z.kind == 3) = false := beq_eq_false_iff_ne.2 k3
          have he3 := empty_no k2
          have he4 : (bs z.text).toList ≠ [] := by rw [bs_toList]; exact k2
          by_cases k5 : z.kind = 1
          · rw [k5] at c0 hkd
            rw [k5] at t0 t1 t2 t3 HB6
            clear k1 k2 k3 k4 k5
            go_wp2
            go_quiet (fail)
            have hdr := drewN_below (wr.alloc (.cells #[.int .i64 1, .string (bs z.text), .int .i64 z.n, .int .i64 p] 25)) nq
            have t0 := below_cell t0 hdr
            have t1 := below_cell t1 hdr
            have t3 := below_cell t3 hdr
            have HB7 := Lib.hid (HB6.out.trans (hdr.mono HB6.out.size))
            clear hdr c0 c1 c2 c3 t2
            generalize hW : (wr.alloc (.cells #[.int .i64 1, .string (bs z.text), .int .i64 z.n, .int .i64 p] 25)).drewN nq = W at t0 t1 t3 HB7
            generalize wr.heap.size = G at *
            go_wp2
            go_loopw [11] (fun kk wz => ∃ g : Nat, e ≤ g ∧ g ≤ p ∧ kk = .int .i64 g ∧ W = wz) (fun kk _ => p - (intOf kk).toNat)
            case atStart => exact ⟨e, Nat.le_refl _, hep, rfl, by trivial⟩
            case round =>
              obtain ⟨g, hg1, hg2, rfl, rfl⟩ := hrel
              by_cases hgp : g < p
              · have hgp' : (g : Int) < (p : Int) := by omega
                obtain ⟨c, hc⟩ : ∃ c, x[g]? = some c := ⟨_, List.getElem?_eq_getElem (by omega)⟩
                obtain ⟨i0, gc⟩ := bs_get hc
                have HQ := Lib.hid (q_blank_of (HBL.out g c hg1 hgp hc))
                clear hc
                go_wp2_with (go_at_call 21; refine (HQ.out _).mono ?_; rintro e9 w9 ⟨rfl, rfl⟩; refine Hid.out ?_)
                refine Lib.hid ?_
                clear HQ gc i0
                go_wp2
                go_roundw
                case rel => exact ⟨g + 1, by omega, by omega, by go_num, by trivial⟩
                case measure => simp [intOf]; omega
              · have hgp2 : p = g := by omega
                subst hgp2
                go_wp2
                go_roundw
                case rel => exact ⟨m, k + 1, by omega, by omega, by go_num, by go_num, HN, HB7⟩
                case measure => simp [intOf]; omega
          · have k6 : (z.kind != 1) = true := by simp [bne, beq_eq_false_iff_ne.2 k5]
            have k7 : z.n = 0 := k4 k5
            rw [k7] at c2 t0 t1 t2 t3 HB6
            clear k1 k2 k3 k4 k5 k7
            go_wp2
            go_quiet (fail)
            have hdr := drewN_below (wr.alloc (.cells #[.int .i64 z.kind, .string (bs z.text), .int .i64 0, .int .i64 p] 25)) nq
            have t0 := below_cell t0 hdr
            have t1 := below_cell t1 hdr
            have t3 := below_cell t3 hdr
            have HB7 := Lib.hid (HB6.out.trans (hdr.mono HB6.out.size))
            clear hdr c0 c1 c2 c3 t2
            generalize hW : (wr.alloc (.cells #[.int .i64 z.kind, .string (bs z.text), .int .i64 0, .int .i64 p] 25)).drewN nq = W at t0 t1 t3 HB7
            generalize wr.heap.size = G at *
            go_wp2
            go_loopw [11] (fun kk wz => ∃ g : Nat, e ≤ g ∧ g ≤ p ∧ kk = .int .i64 g ∧ W = wz) (fun kk _ => p - (intOf kk).toNat)
            case atStart => exact ⟨e, Nat.le_refl _, hep, rfl, by trivial⟩
            case round =>
              obtain ⟨g, hg1, hg2, rfl, rfl⟩ := hrel
              by_cases hgp : g < p
              · have hgp' : (g : Int) < (p : Int) := by omega
                obtain ⟨c, hc⟩ : ∃ c, x[g]? = some c := ⟨_, List.getElem?_eq_getElem (by omega)⟩
                obtain ⟨i0, gc⟩ := bs_get hc
                have HQ := Lib.hid (q_blank_of (HBL.out g c hg1 hgp hc))
                clear hc
                go_wp2_with (go_at_call 21; refine (HQ.out _).mono ?_; rintro e9 w9 ⟨rfl, rfl⟩; refine Hid.out ?_)
                refine Lib.hid ?_
                clear HQ gc i0
                go_wp2
                go_roundw
                case rel => exact ⟨g + 1, by omega, by omega, by go_num, by trivial⟩
                case measure => simp [intOf]; omega
              · have hgp2 : p = g := by omega
                subst hgp2
                go_wp2
                go_roundw
                case rel => exact ⟨m, k + 1, by omega, by omega, by go_num, by go_num, HN, HB7⟩
                case measure => simp [intOf]; omega
      · obtain rfl : k = ts.length := by omega
        obtain rfl : e = x.length := HP.out.2 rfl
        have B := Lib.hid (B.out.trans (HB.out.mono B.out.size))
        go_wp2
        go_ret
        exact ⟨rfl, B.out⟩
  · have HR := Lib.hid hr2
    have hne := err_ne hr
    obtain ⟨m, hm, hm2, -⟩ := lex_error hr
    have hm3 : 0 ≤ p ∧ p < (x.length : Int) := by omega
    clear hr hr2 hm hm2
    go_enter Tryd.func5, Tryd.ntmps5
    go_wp2_with (go_at_call 9; refine (small_any A HE.out).mono ?_; rintro e w1 ⟨rfl, b1⟩; refine Hid.out ?_)
    refine Lib.hid ?_
    have HE := Lib.hid (A.keep HE.out b1)
    have B := Lib.hid b1
    clear b1
    go_wp2_with (go_at_call 10; refine (HC.out _).mono ?_; rintro e w2 ⟨rfl, rfl⟩; refine Hid.out ?_)
    refine Lib.hid ?_
    have H := Lib.hid (A.lex_err HR.out HE.out (by omega))
    go_wp2_with (go_at_call 11; refine (H.out).mono ?_; rintro e w3 ⟨a3, c3, rfl, b1⟩; refine Hid.out ?_)
    refine Lib.hid ?_
    have HE := Lib.hid (A.keep HE.out b1)
    have B := Lib.hid (B.out.trans (b1.mono B.out.size))
    clear b1
    go_wp2
    go_ret
    exact ⟨rfl, B.out⟩
end Go.Proofs.YtenbdnkipkfpkaaDoor
