/- Truncate. -/
import Derived.Test.YtjbcgahdiolhhaaDoorDRead
import Derived.Test.YtjbcgahdiolhhaaDoorDDGood
namespace Go.Proofs.YtjbcgahdiolhhaaDoor.D2
open Go.RowKit Go.Maps Go.ChangeMaps Go.MapKept
open Dp
attribute [local go_sem ↓] Go.wp_at_zero Go.wp_at_succ

theorem own_take {w : World} {a : Option Addr} {len c n : Nat} {l : List UInt8} (h : w.ownsRow 0 5 1 (.slice a len c) len (byteVs l)) (hl : l.length = len) (hn : n ≤ len) : w.ownsRow 0 5 1 (.slice a n c) (l.take n).length (byteVs (l.take n)) := by
  have h1 : (l.take n).length = n := by simp; omega
  rw [h1]
  refine ⟨by rw [byteVs_length, h1]; omega, ?_⟩
  rcases h.2 with ⟨h2, h3⟩ | ⟨g, cap, cur, h2, h3, h4, h5, h6, h7, h8⟩
  · cases h2
    obtain rfl : n = 0 := by omega
    exact .inl ⟨rfl, rfl⟩
  · cases h2
    refine .inr ⟨g, c, cur, rfl, h3, h4, by omega, h6, h7, ?_⟩
    simp only [Nat.mul_one] at h8 ⊢
    rw [show byteVs (l.take n) = (byteVs l).take n by simp [byteVs, List.map_take], ← h8, List.take_take, Nat.min_eq_left hn]
theorem own_cap {w : World} {base : Nat} {e : TypeId} {size n c : Nat} {a : Option Addr} {xs : List Value} (h : w.ownsRow base e size (.slice a n c) n xs) : n ≤ c := by
  rcases h.2 with ⟨h1, h2⟩ | ⟨g, cap, cur, h1, _, _, h4, _⟩
  · omega
  · cases h1; exact h4

theorem chg_drew {id : Nat} {lab lab' : Nat → Nat} {w w' : World} (h : Chg id lab lab' w w') : Chg id lab lab' w w'.drew := ⟨h.os, h.tape, h.output, h.size, h.labs, h.block, h.fresh⟩
section
variable {w : World} {lab : Nat → Nat} {id b : Nat} {D : Dk} {L : Loc}

set_option maxHeartbeats 4000000 in
set_option maxRecDepth 100000 in
theorem truncate_any (h : DiskIn w lab id b D D.pend L) (hgd : Good D) (f n : Int) (hf : I64 f) (hn : I64 n) :
    Calls Tryd.prog 36 #[.pointer (some ⟨b, 0, none⟩), .int .i64 f, .int .i64 n] w (ResPost lab id b (.int .i64 (D.truncate f n).1) (D.truncate f n).2 w) := by
  have c3 := h.c 3
  simp only [List.getElem?_toArray, List.getElem?_cons_zero, List.getElem?_cons_succ] at c3
  have n1 := hn.1
  have n2 := hn.2
  cases hd : D.down with
  | true =>
    have hw : D.truncate f n = (eDown, D) := by simp [Dk.truncate, hd]
    rw [hw]
    rw [hd] at c3
    refine res_same h _ ?_
    clear h hgd hf hw hn
    go_enter Tryd.func36, Tryd.ntmps36
    go_wp2
    go_ret
    exact ⟨rfl, rfl⟩
  | false =>
    rw [hd] at c3
    have H := Lib.hid h
    have HI := Lib.hid hgd
    have HF := Lib.hid hf
    have HW := Lib.hid (show D.truncate f n = if D.strike.1 then (eDown, D.strike.2) else if isFile f = false ∨ n < 0 ∨ (D.strike.2.size f : Int) < n then (eArg, D.strike.2) else (eOK, D.strike.2.trunc f n.toNat) by simp [Dk.truncate, hd])
    clear h hgd hf hd hn
    cases hst : D.strike.1 with
    | true =>
      have HST := Lib.hid hst
      clear hst
      go_enter Tryd.func36, Tryd.ntmps36
      go_wp2_with (go_at_call 43; ((with_reducible refine (strike_any H.out HI.out.inn).mono ?_); rintro e w2 ⟨rfl, lab2, L2, h2, k2⟩; have H2 := Lib.hid h2; have K2 := Lib.hid k2; clear h2 k2; refine Hid.out ?_))
      refine Lib.hid ?_
      rw [HST.out]
      go_wp2
      go_ret
      exact ⟨by rw [HW.out, if_pos HST.out]; rfl, lab2, L2, by rw [HW.out, if_pos HST.out]; exact H2.out, K2.out⟩
    | false =>
      have HST := Lib.hid (show ¬ (D.strike.1 = true) by rw [hst]; simp)
      have HST2 := Lib.hid hst
      have HI2 := Lib.hid (good_strike HI.out)
      clear hst
      go_enter Tryd.func36, Tryd.ntmps36
      go_wp2_with (go_at_call 43; ((with_reducible refine (strike_any H.out HI.out.inn).mono ?_); rintro e w2 ⟨rfl, lab2, L2, h2, k2⟩; have H2 := Lib.hid h2; have K2 := Lib.hid k2; clear h2 k2; refine Hid.out ?_))
      refine Lib.hid ?_
      rw [HST2.out]
      generalize D.strike.2 = D2 at H2 HW HI2
      have c0 := H2.out.c 0
      simp only [List.getElem?_toArray, List.getElem?_cons_zero] at c0
      have hl := H2.out.lookF HF.out
      cases hi : isFile f with
      | false =>
        rw [if_neg (isFile_false hi)] at hl
        have HR := Lib.hid (show D.truncate f n = (eArg, D2) by rw [HW.out, if_neg HST.out, if_pos (.inl hi)])
        clear hi
        go_wp2
        go_ret
        exact ⟨by rw [HR.out]; rfl, lab2, L2, by rw [HR.out]; exact H2.out, K2.out⟩
      | true =>
        rw [if_pos (isFile_true hi)] at hl
        have h16 := isFile_true hi
        have hin2 : ¬ (isFile f = false) := by rw [hi]; simp
        have hszle : D2.size f ≤ 16777216 := by
          have := H2.out.ok.now f.toNat
          simp only [Dk.size, hi, if_true]; omega
        by_cases hneg : n < 0
        · have HR := Lib.hid (show D.truncate f n = (eArg, D2) by rw [HW.out, if_neg HST.out, if_pos (.inr (.inl hneg))])
          clear hi hin2
          go_wp2
          go_ret
          exact ⟨by rw [HR.out]; rfl, lab2, L2, by rw [HR.out]; exact H2.out, K2.out⟩
        · by_cases hbig : (D2.size f : Int) < n
          · have HR := Lib.hid (show D.truncate f n = (eArg, D2) by rw [HW.out, if_neg HST.out, if_pos (.inr (.inr hbig))])
            clear hi hin2
            go_wp2_with (go_at_call 31; ((with_reducible refine (size_any H2.out f HF.out).mono ?_); rintro e w3 ⟨rfl, rfl⟩))
            go_ret
            exact ⟨by rw [HR.out]; rfl, lab2, L2, by rw [HR.out]; exact H2.out, K2.out⟩
          · have HR := Lib.hid (show D.truncate f n = (eOK, D2.trunc f n.toNat) by rw [HW.out, if_neg HST.out, if_neg (by rintro (h | h | h); exact hin2 h; exact hneg h; exact hbig h)])
            have hsz : D2.size f = (D2.now f.toNat).length := by simp [Dk.size, hi]
            have hle : n ≤ ((D2.now f.toNat).length : Int) := by omega
            obtain ⟨fn, rfl⟩ : ∃ n : Nat, f = (n : Int) := ⟨f.toNat, by omega⟩
            obtain ⟨m, rfl⟩ : ∃ m : Nat, n = (m : Int) := ⟨n.toNat, by omega⟩
            rw [Int.toNat_natCast] at hl hle
            rw [Int.toNat_natCast] at HR
            have hf16 : fn < 16 := by omega
            have HLE := Lib.hid hle
            clear hi hin2 hsz hle h16
            go_wp2_with (first | (go_at_call 31; ((with_reducible refine (size_any H2.out (fn : Int) HF.out).mono ?_); rintro e w3 ⟨rfl, rfl⟩)) | (go_at_call 50; ((with_reducible refine (settle_any H2.out HI2.out.inn fn hf16).mono ?_); rintro e w3 ⟨rfl, lab3, L3, h3, k3⟩; have H3 := Lib.hid h3; have K3 := Lib.hid k3; clear h3 k3; refine Hid.out ?_)))
            refine Lib.hid ?_
            have hds : (D2.settle fn).dur fn = D2.now fn := HI2.out.settled fn
            have hdn : (D2.settle fn).now fn = D2.now fn := by show (hardens D2 (keepsF fn D2.pend)).now fn = _; rw [(hardens_keeps _ _).1]
            have h3 := H3.out
            have c0' := h3.c 0
            have x0 := h3.fc hf16 0
            have x1 := h3.fc hf16 1
            have y0 := h3.ffz hf16 0
            have y1 := h3.ffz hf16 1
            simp only [List.getElem?_toArray, List.getElem?_cons_zero, List.getElem?_cons_succ] at c0' x0 x1
            have hl3 := h3.lookN hf16
            have on := h3.now fn hf16
            have od := h3.dur fn hf16
            rw [hdn] at on
            rw [hds] at od
            obtain ⟨na, nc, hnv⟩ := own_form on
            obtain ⟨da, dc, hdv⟩ := own_form od
            rw [hnv] at on x0
            rw [hdv] at od x1
            have hmn : m ≤ (D2.now fn).length := by have := HLE.out; omega
            have hc1 := own_cap on
            have hc2 := own_cap od
            obtain ⟨i0, hif, _, hz1, _⟩ := info_parts byte_info
            have hs1 : ∀ w, (Instr.slice 58 (.slice na (D2.now fn).length nc) none (some (.int .i64 (m : Int))) none).run Tryd.prog w = .ok (.slice na m nc) w := fun w => slice_to w Tryd.underlying58 hif na _ nc m (by omega)
            have hs2 : ∀ w, (Instr.slice 58 (.slice da (D2.now fn).length dc) none (some (.int .i64 (m : Int))) none).run Tryd.prog w = .ok (.slice da m dc) w := fun w => slice_to w Tryd.underlying58 hif da _ dc m (by omega)
            obtain ⟨h4, k4⟩ := h3.setNow hf16 (r := (D2.now fn).take m) (v' := .slice na m nc) (by have := H2.out.ok.now fn; simp; omega) ⟨rfl, rfl, rfl, Nat.le_refl _, fun _ _ _ => rfl⟩ (own_take on rfl hmn) (by rw [hnv]; exact .inl (own_len _ _ _ _)) (Hp.refl _)
            have od4 : (w3.setCell ⟨L3.g fn, 0, none⟩ (.slice na m nc)).ownsRow 0 5 1 (.slice da m dc) ((D2.now fn).take m).length (byteVs ((D2.now fn).take m)) := by
              have := h4.dur fn hf16
              simp only at this
              rw [hds, hdv] at this
              exact own_take this rfl hmn
            obtain ⟨h5, k5⟩ := h4.setDur hf16 (r := (D2.now fn).take m) (v' := .slice da m dc) (by have := H2.out.ok.now fn; simp; omega) ⟨rfl, rfl, rfl, Nat.le_refl _, fun _ _ _ => rfl⟩ od4 (by simp only; rw [hdv]; exact .inl (own_len _ _ _ _)) (Hp.refl _)
            have HT := Lib.hid (show D2.trunc (fn : Int) m = { (D2.settle fn) with now := upd (D2.settle fn).now fn ((D2.now fn).take m), dur := upd (D2.settle fn).dur fn ((D2.now fn).take m) } by
              have e1 : D2.trunc (fn : Int) m = { (D2.settle fn) with now := upd (D2.settle fn).now fn (((D2.settle fn).now fn).take m), dur := upd (D2.settle fn).dur fn (((D2.settle fn).dur fn).take m) } := rfl
              rw [e1, hdn, hds])
            have H5 := Lib.hid h5
            have K5 := Lib.hid (k4.trans k5)
            clear h3 h4 k4 h5 k5 on od od4 hnv hdv hds hdn hif hz1 hc1 hc2 c0 hl
            generalize hL : (D2.now fn).length = len at *
            have HL := Lib.hid hL
            clear hL
            go_wp2
            go_region_with (fail)
            all_goals
              go_wp2
              go_ret
              exact ⟨by rw [HR.out]; rfl, _, _, by rw [HR.out]; show DiskIn _ _ id b (D2.trunc (fn : Int) m) _ _; rw [HT.out]; exact H5.out.drew, chg_drew ((K2.out.trans K3.out).trans K5.out)⟩
end
end Go.Proofs.YtjbcgahdiolhhaaDoor.D2
