/- JournalTorn, walked. -/
import Derived.Test.YtjbcgahdiolhhaaDoorMP
import Derived.Test.YtjbcgahdiolhhaaDoorME
import Derived.Deep.CutRange
import Derived.Deep.CutBlock
import Derived.Deep.QuietTactic
import Derived.BigQuiet
namespace Go.Proofs.YtjbcgahdiolhhaaDoor.D2
open Go.RowKit Go.Maps Go.ChangeMaps Go.MapKept
open Dp Jp
attribute [local go_sem ↓] Go.wp_at_zero Go.wp_at_succ

section
variable {w : World} {a a2 : Option Addr} {ts : List (List UInt8)} {ks : List Int}
set_option maxHeartbeats 2000000 in
set_option maxRecDepth 100000 in
theorem jtorn_out (cap c2 : Nat) (z : Int) (ht : TextsAt w (.slice a ts.length cap) ts) (hlt : ts.length ≤ 9223372036854775807) (hk : ks.length ≤ 9223372036854775807) (hb : fewT ts = false ∨ 50 < ks.length) (he : Env w) :
    Calls Tryd.prog 6 #[.slice a ts.length cap, .int .i64 z, .slice a2 ks.length c2] w fun e w' => e = .returned (.bool true) ∧ Below w.heap.size w w' := by
  have HT := Lib.hid ht
  obtain ⟨r, hr⟩ : ∃ r, fewT ts = r := ⟨_, rfl⟩
  rw [hr] at hb
  have HR := Lib.hid hr
  clear ht hr
  have hb : r = false ∨ (r = true ∧ 50 < ks.length) := by
    cases r <;> simp_all
  rcases hb with h | ⟨h, h2⟩
  all_goals
    subst h
    go_enter Tryd.func6, Tryd.ntmps6
    go_wp2_with (go_at_call 7; refine (small_any _ he).mono ?_; rintro e w1 ⟨rfl, b1⟩; refine Hid.out ?_)
    refine Lib.hid ?_
    have B1 := Lib.hid b1
    have F1 := Lib.hid (fewT_at HT.out hlt b1 HR.out)
    clear b1
    go_wp2_with (go_at_call 21; refine F1.out.mono ?_; rintro e w2 ⟨rfl, rfl⟩)
    go_ret
    exact ⟨rfl, B1.out⟩

theorem below_drewN {n : Nat} {w w' : World} (h : Below n w w') (k : Nat) : Below n w (w'.drewN k) := ⟨h.os, h.tape, h.output, h.size, h.block⟩
theorem ints_cell {w : World} {v : Value} {l : List Int} {k : Nat} {x : Int} (h : w.ownsRow 0 3 1 v (intVs l).length (intVs l)) (hk : k < l.length) (hx : l[k]? = some x) : ∃ g cap, v = .slice (some ⟨g, 0, none⟩) l.length cap ∧ w.cell? ⟨g, k, none⟩ = some (.int .i64 x) := by
  rw [intVs_length] at h
  rcases h.2 with ⟨rfl, h0⟩ | ⟨g, cap, cur, hv, _⟩
  · omega
  · subst hv
    refine ⟨g, cap, rfl, ?_⟩
    have := h.cells (g := g) rfl k (.int .i64 x) (by simp [intVs, hx])
    rwa [Lib.add_plain, Nat.zero_add] at this

set_option maxHeartbeats 4000000 in
set_option maxRecDepth 100000 in
theorem jtorn_main (cap c2 : Nat) (z : Int) (ht : TextsAt w (.slice a ts.length cap) ts) (hft : fewT ts = true) (hk : Nums w w (.slice a2 ks.length c2) ks) (hkl : ks.length ≤ 50) (hcp : ts.length ≤ cap) (he : Env w) :
    Calls Tryd.prog 6 #[.slice a ts.length cap, .int .i64 z, .slice a2 ks.length c2] w fun e w' => e = .returned (.bool true) ∧ Below w.heap.size w w' := by
  obtain ⟨i0, hi, hz0, hz1, hz2⟩ := info_parts int_info
  have HFT := Lib.hid (fewT_true hft)
  have ht8 := HFT.out.1
  have HQ := Lib.hid hft
  have HT := Lib.hid ht
  have HK := Lib.hid hk
  have HKL := Lib.hid hkl
  have HCAP := Lib.hid hcp
  have HGT := Lib.hid (TArgs.of ht)
  clear hft ht hk hcp
  obtain ⟨D1, p1, q1, g1, s1, n1⟩ := open_quiet good_new quiet_new (f := 0) (by decide)
  have e1 : recs (new.now 0) = [] := rfl
  rw [e1] at p1 s1
  have P1 : Hid (jopen new 0 = (some [], 0, D1)) := Lib.hid p1
  have HS0 := Lib.hid (Tor.start g1 q1 s1 (n1 1 (by decide)) ts)
  clear p1 q1 g1 s1 e1 n1
  go_enter Tryd.func6, Tryd.ntmps6
  go_wp2_with (go_at_call 7; refine (small_any _ he).mono ?_; rintro e w1 ⟨rfl, b1⟩; refine Hid.out ?_)
  refine Lib.hid ?_
  have F2 := Lib.hid (fewT_at HT.out (by omega) b1 HQ.out)
  have M0 := Lib.hid ((OMem.start w).fresh b1)
  clear b1
  go_wp2_with (first | (go_at_call 21; refine F2.out.mono ?_; rintro e w2 ⟨rfl, rfl⟩) | (go_at_call 9; refine (o_new M0.out).mono ?_; rintro e w2 ⟨d, rfl, m⟩; refine Hid.out ?_))
  refine Lib.hid ?_
  have M1 := Lib.hid (show OMem w w2 [.disk d new] from m)
  clear m M0 F2
  go_wp2_with (go_at_call 10; refine (o_open1 (i := 0) M1.out rfl 0 I64.zero he P1.out).mono ?_; rintro e w3 ⟨b, rfl, m⟩; refine Hid.out ?_)
  refine Lib.hid ?_
  have M2 := Lib.hid (show OMem w w3 [.disk d D1, .jour b d ⟨0, ts.take 0, false⟩, .own 3 (.slice none 0 0) (intVs (ends ts 0))] from OMem.nil (show OMem w w3 [.disk d D1, .jour b d ⟨0, ts.take 0, false⟩] from m) _)
  clear m M1
  go_wp2
  go_loopw [11, 12] (fun vv iv wr => ∃ (k : Nat) (D : Dk), k ≤ ts.length ∧ iv = .int .i64 (k : Int) ∧ Hid (Tor ts k D) ∧ Hid (OMem w wr [.disk d D, .jour b d ⟨0, ts.take k, false⟩, .own 3 vv (intVs (ends ts k))])) (fun _ iv _ => ts.length - (intOf iv).toNat)
  case atStart => exact ⟨0, D1, Nat.zero_le _, rfl, HS0, M2⟩
  case round =>
    clear M2 HS0 P1
    obtain ⟨k, D, hk, rfl, HS, HM⟩ := hrel
    by_cases hlt : k < ts.length
    · obtain ⟨x, hx⟩ : ∃ x, ts[k]? = some x := ⟨_, List.getElem?_eq_getElem hlt⟩
      have HXX := Lib.hid hx
      obtain ⟨bt, ot, rfl, hct⟩ := HGT.out.get HM.out.below hx
      have hfx := HFT.out.2 x (List.mem_of_getElem? hx)
      obtain ⟨D2, p2, s2⟩ := HS.out.next HFT.out.1 HFT.out.2 hx
      have HA := Lib.hid (o_append1 (i := 0) (k := 1) HM.out rfl rfl (by decide) x (HM.out.env he) p2)
      have HS2 := Lib.hid s2
      have hz9 := s2.size
      have hk1 : k + 1 ≤ ts.length := hlt
      clear p2 s2 hx HS HM
      go_wp2_with (go_at_call 14; refine HA.out.mono ?_; rintro e w5 ⟨rfl, m⟩; refine Hid.out ?_)
      refine Lib.hid ?_
      have M5 := Lib.hid (show OMem w w5 [.disk d D2, .jour b d ⟨0, ts.take (k + 1), false⟩, .own 3 u11 (intVs (ends ts k))] from m)
      have HSZ := Lib.hid (o_size1 (i := 0) M5.out rfl 0 I64.zero hz9)
      have hle := endAt_le HFT.out.1 HFT.out.2 k
      clear m HA hct hz9
      go_wp2_with (go_at_call 31; refine HSZ.out.mono ?_; rintro e w6 ⟨rfl, rfl⟩; refine Hid.out ?_)
      refine Lib.hid ?_
      have hown := M5.out.at_row (i := 2) rfl
      rw [intVs_length, ends_length] at hown
      go_wp2_with (at_builtin; refine Hid.out ?_)
      refine Lib.hid ?_
      refine wpList_append_own_at _ rfl _ _ 23 rfl 0 3 i0 (.int .i64 0) 1 8 Tryd.underlying23 hi hz0 hz1 hz2 rfl (by decide) _ _ _ rfl (hown.alloc _) ⟨w5.heap.size, 0, none⟩ 1 1 [.int .i64 (endAt ts k : Int)] rfl rfl (cell_one_new _ _ _) ?p2 ?p3 ?p4 (Nat.zero_le _) ?_
      case p2 => intro y hy; simp at hy; subst hy; rfl
      case p3 => unfold maxLen; omega
      case p4 => omega
      intro v' w6 hown6 hgrow _ hat
      have m6 := (M5.out.fresh (below_alloc w5 (.cells #[.int .i64 (endAt ts k : Int)] 3))).grow (i := 2) (v' := v') (xs' := intVs (ends ts (k + 1))) rfl hgrow (by rw [ends_succ]; simpa [intVs, ends_length] using hown6) hat
      have M6 : Hid (OMem w w6 [.disk d D2, .jour b d ⟨0, ts.take (k + 1), false⟩, .own 3 v' (intVs (ends ts (k + 1)))]) := Lib.hid m6
      clear hown hown6 hgrow hat m6 M5
      go_wp2
      go_roundw
      case rel => exact ⟨k + 1, D2, hk1, by go_num, HS2, M6⟩
      case measure => simp [intOf]; omega
    · obtain rfl : k = ts.length := by omega
      have hsz := HS.out.size
      have hrd := HS.out.read
      have htk : ts.take ts.length = ts := List.take_length
      rw [htk] at hsz hrd
      have HF : Hid ((forms ts).length ≤ 2080) := Lib.hid (by have := forms_le ts HFT.out.2; have := HFT.out.1; omega)
      have HSZ := Lib.hid (o_size1 (i := 0) HM.out rfl 0 I64.zero hsz)
      have HRD := Lib.hid (o_read1 (i := 0) HM.out rfl 0 0 ((forms ts).length : Int) I64.zero I64.zero ⟨by have := HF.out; omega, by have := HF.out; omega⟩ hrd)
      clear hsz hrd
      go_wp2_with (go_at_call 31; refine HSZ.out.mono ?_; rintro e w5 ⟨rfl, rfl⟩; refine Hid.out ?_)
      refine Lib.hid ?_
      go_wp2_with (go_at_call 30; refine HRD.out.mono ?_; rintro e w5 ⟨rfl, m⟩; refine Hid.out ?_)
      refine Lib.hid ?_
      have M5 := Lib.hid (show OMem w w5 [.disk d D, .jour b d ⟨0, ts, false⟩, .own 3 u11 (intVs (ends ts ts.length))] from by rw [htk] at m; exact m)
      clear m HSZ HRD HM htk
      obtain ⟨sx, hsx⟩ : ∃ sx, sx = forms ts := ⟨_, rfl⟩
      rw [← hsx] at HF
      obtain ⟨wc, cap0, hconv, hbr, hbel⟩ := conv_brow w5 sx (by have := HF.out; omega)
      have HBR := Lib.hid hbr
      have HBE := Lib.hid hbel
      have HSX := Lib.hid hsx
      have hsl : sx.length ≤ 2080 := HF.out
      rw [← hsx]
      clear hbr hbel hsx
      go_upto_block 2 with fail
      go_cut [16] from 68 to 91 (fun _ wx => ∃ B, Hid (Part sx B) ∧ Hid (BRow wx w5.heap.size cap0 B) ∧ Hid (Below w5.heap.size w5 wx))
      case first =>
        go_wp2_with fail
        go_loopw [16] (fun iv wr => ∃ (k : Nat) (B : List UInt8), k ≤ sx.length ∧ iv = .int .i64 (k : Int) ∧ Hid (Part sx B) ∧ Hid (BRow wr w5.heap.size cap0 B) ∧ Hid (Below w5.heap.size w5 wr)) (fun iv _ => sx.length - (intOf iv).toNat)
        case atStart => exact ⟨0, sx, Nat.zero_le _, rfl, Lib.hid (Part.refl _), HBR, HBE⟩
        case round =>
          obtain ⟨k, B, hk, rfl, HP, HB, HE⟩ := hrel
          clear HBR HBE hconv
          have hbl := HP.out.1
          by_cases hlt : k < sx.length
          · by_cases h0 : 0 < ks.length
            · obtain ⟨bk, ok, cap2, hv, hcell⟩ := src_cell (HK.out.to (M5.out.fresh HE.out).below).1 h0
              simp only [Value.slice.injEq, true_and] at hv
              obtain ⟨rfl, rfl⟩ := hv
              obtain ⟨n, hn⟩ : ∃ n, n = k / 64 := ⟨_, rfl⟩
              obtain ⟨q, hq⟩ : ∃ q, q = n % ks.length := ⟨_, rfl⟩
              have hmod : q < ks.length := by rw [hq]; exact Nat.mod_lt _ h0
              have kc := hcell _ hmod
              generalize ks.getD q 0 = zz at kc
              have hq0 : (k : Int).tdiv 64 = (n : Int) := by rw [hn]; exact (Int.ofNat_tdiv k 64).symm
              have ht : (n : Int).tmod (ks.length : Int) = (q : Int) := by rw [hq]; exact (Int.ofNat_tmod n ks.length).symm
              obtain ⟨b0, hb0⟩ : ∃ b0, B[k]? = some b0 := ⟨_, List.getElem?_eq_getElem (by omega)⟩
              have c0 := HB.out.cell hb0
              have f0 := HB.out.fz (j := k) (by omega)
              have H3 := Lib.hid (HB.out.set (j := k) 0)
              have H4 := Lib.hid (HE.out.setCell (p := ⟨w5.heap.size, k, none⟩) (Nat.le_refl _) (.int .u8 ((0 : UInt8).toNat : Int)))
              have HP2 := Lib.hid (HP.out.zero k)
              have hnb : n ≤ 2080 := by omega
              clear hcell hn hq hb0 hbl
              go_wp2
              · go_roundw
                case rel => exact ⟨k + 1, B.set k 0, by omega, by go_num, HP2, H3, H4⟩
                case measure => simp [intOf]; omega
              · go_roundw
                case rel => exact ⟨k + 1, B, by omega, by go_num, HP, HB, HE⟩
                case measure => simp [intOf]; omega
            · go_wp2
              go_meet
              exact ⟨B, HP, HB, HE⟩
          · go_wp2
            go_meet
            exact ⟨B, HP, HB, HE⟩
      case rest =>
        obtain ⟨B, HP, HB, HE⟩ := hcut
        have hbl := HP.out.1
        have hcv := fun m (hm : m ≤ B.length) c => brow_part HB.out hm c
        rw [hbl] at hcv
        have HCV := Lib.hid hcv
        have hcap : sx.length ≤ cap0 := by have := HB.out.le; omega
        clear HBR HBE hconv hcv
        go_upto_region 24 with fail
        go_cut [17] from 92 to 99 (fun tv wy => ∃ m, tv = .string (bs (B.take m)) ∧ wy = wc)
        case first =>
          have hc0 := HCV.out (max 0 (min z (sx.length : Int))).toNat (by omega)
          go_wp2
          go_meet
          exact ⟨_, rfl, rfl⟩
        case rest =>
          obtain ⟨m, rfl, rfl⟩ := hcut
          have htl : (B.take m).length ≤ 2080 := by have := List.length_take_le' m B; omega
          have HTR := Lib.hid (show Tear (forms ts) (B.take m) from HSX.out ▸ HP.out.tear m)
          clear HP HCV hcap hbl HB
          generalize B.take m = t at htl HTR ⊢
          obtain ⟨M, hW⟩ := whole_of HFT.out.2 HTR.out
          have HW := Lib.hid hW
          obtain ⟨D2, D3, D4, p2, p3, p4, p5⟩ := torn_plain HS.out HFT.out.1 HFT.out.2 htl hW
          have P2 := Lib.hid p2
          have P3 := Lib.hid p3
          have P4 := Lib.hid p4
          have P5 := Lib.hid p5
          have M6 := Lib.hid (M5.out.fresh HE.out)
          clear p2 p3 p4 p5 hW HTR M5 HE
          have hts := bs_size t
          have hss := bs_size sx
          obtain ⟨wq, hwq⟩ : ∃ wq, wq = wc := ⟨_, rfl⟩
          rw [← hwq] at M6 ⊢
          clear hwq wc
          go_upto_block 4 with fail
          go_cut [18] from 100 to 129 (fun iv wx => iv = .int .i64 (M : Int) ∧ Hid (Below wq.heap.size wq wx))
          case first =>
            go_wp2_with fail
            go_loopw [18] (fun iv wr => ∃ k : Nat, k ≤ M ∧ iv = .int .i64 (k : Int) ∧ Hid (Below wq.heap.size wq wr)) (fun iv _ => M - (intOf iv).toNat)
            case atStart => exact ⟨0, Nat.zero_le _, rfl, Lib.hid (Below.refl _ _)⟩
            case round =>
              obtain ⟨k, hk, rfl, HB⟩ := hrel
              have hMl := HW.out.le
              have HN := Lib.hid (HB.out.drew)
              by_cases hlt : k < ts.length
              · obtain ⟨g, cg, hv, hc⟩ := ints_cell ((M6.out.fresh HB.out).at_row (i := 2) rfl) (by rw [ends_length]; exact hlt) (ends_get ts hlt)
                rw [ends_length] at hv
                subst hv
                obtain ⟨E, hE⟩ : ∃ E, E = endAt ts k := ⟨_, rfl⟩
                have hxt : (bs t).extract 0 E = bs (t.take E) := by rw [bs_extract]; simp
                have hxs : (bs sx).extract 0 E = bs (sx.take E) := by rw [bs_extract]; simp
                have hEs : E ≤ (bs sx).size := by rw [hss, HSX.out, hE]; exact endAt_all k
                rw [← hE] at hc
                by_cases hkM : k < M
                · obtain ⟨o1, o2⟩ := HW.out.on k hkM
                  rw [← hE] at o1 o2
                  have hEt : (E : Int) ≤ ((bs t).size : Int) := by rw [hts]; omega
                  have hEt2 : E ≤ (bs t).size := by omega
                  rw [o2, ← HSX.out] at hxt
                  generalize sx.take E = gg at hxt hxs
                  clear o2 hE
                  go_wp2
                  go_quiet (fail)
                  go_wp2
                  go_roundw
                  case rel => exact ⟨k + 1, hkM, by go_num, Lib.hid (below_drewN HB.out nq)⟩
                  case measure => simp [intOf]; omega
                · obtain rfl : k = M := by omega
                  have hoff := HW.out.off hlt
                  rw [← hE] at hoff
                  by_cases hEt : (E : Int) ≤ ((bs t).size : Int)
                  · have hEt2 : E ≤ (bs t).size := by omega
                    have o1 : E ≤ t.length := by omega
                    have hnx := hoff (by omega)
                    rw [← HSX.out] at hnx
                    have hne : ((bs (t.take E)).toList == (bs (sx.take E)).toList) = false := by rw [bs_toList, bs_toList]; simpa using hnx
                    generalize t.take E = ga at hxt hne
                    generalize sx.take E = gb at hxs hne
                    clear hnx hoff hE
                    go_wp2
                    go_quiet (fail)
                    go_wp2
                    go_meet
                    exact ⟨rfl, Lib.hid (below_drewN HB.out nq)⟩
                  · have hd : decide ((E : Int) ≤ ((bs t).size : Int)) = false := decide_eq_false hEt
                    have hd2 : decide (E ≤ t.length) = false := decide_eq_false (by omega)
                    have hd3 : decide (E ≤ (bs t).size) = false := decide_eq_false (by omega)
                    have hd4 : ¬ E ≤ t.length := by omega
                    clear hoff hE hxt hxs
                    go_wp2
                    go_quiet (fail)
                    go_wp2
                    go_meet
                    exact ⟨rfl, Lib.hid (below_drewN HB.out nq)⟩
              · obtain rfl : k = M := by omega
                have hd : decide ((k : Int) < (ts.length : Int)) = false := decide_eq_false (by omega)
                have hor := M6.out.at_row (i := 2) rfl
                rw [intVs_length, ends_length] at hor
                obtain ⟨oa, oc, rfl⟩ := own_form hor
                clear hor
                go_wp2
                go_quiet (fail)
                go_wp2
                go_meet
                exact ⟨rfl, Lib.hid (below_drewN HB.out nq)⟩
          case rest =>
            obtain ⟨rfl, HB⟩ := hcut
            have M7 := Lib.hid (M6.out.fresh HB.out)
            have hMl := HW.out.le
            clear M6 HB
            go_wp2_with (go_at_call 22; refine (o_write1 (i := 0) M7.out rfl 1 0 t ⟨by decide, by decide⟩ I64.zero (by omega) P2.out).mono ?_; rintro e w8 ⟨rfl, m⟩; refine Hid.out ?_)
            refine Lib.hid ?_
            have M8 := Lib.hid (show OMem w w8 [.disk d D2, .jour b d ⟨0, ts, false⟩] from m.take 2)
            clear m M7
            go_wp2_with (go_at_call 10; refine (o_open1 (i := 0) M8.out rfl 1 ⟨by decide, by decide⟩ he P3.out).mono ?_; rintro e w9 ⟨b2, rfl, m⟩; refine Hid.out ?_)
            refine Lib.hid ?_
            have M9 := Lib.hid (show OMem w w9 [.disk d D3, .jour b d ⟨0, ts, false⟩, .jour b2 d ⟨1, ts.take M, false⟩] from m)
            clear m M8
            have hMc : M ≤ cap := by have := HCAP.out; omega
            go_wp2
            have M10 := Lib.hid (show OMem w w9.drew [.disk d D3, .jour b d ⟨0, ts, false⟩, .jour b2 d ⟨1, ts.take M, false⟩] from M9.out.fresh (Below.refl w9.heap.size w9).drew)
            clear M9
            refine region_till 8 (fun _ => True) (by kernel_rfl) ?_
            refine till_take 0 6 false (v := ?v0) (by kernel_rfl) (by kernel_rfl) (by kernel_rfl) (by kernel_rfl) (by kernel_rfl) (fun _ _ _ h => h) ?hw0 trivial ?hy0 ?rest0
            case hw0 => (simp only [List.getElem?_toArray, List.getElem?_cons_zero, Option.elim]; rfl)
            case hy0 => (simp only [List.getElem?_toArray, List.getElem?_cons_zero, Option.elim]; intro wx _; go_simp; with_reducible rfl)
            simp only [dstOf, List.getElem?_toArray, List.getElem?_cons_zero, Option.bind, Act.put, List.setIfInBounds_toArray, List.set_cons_zero, List.set_cons_succ]
            refine till_take 1 6 false (v := ?v1) (by kernel_rfl) (by kernel_rfl) (by kernel_rfl) (by kernel_rfl) (by kernel_rfl) (fun _ _ _ h => h) ?hw1 trivial ?hy1 ?rest1
            case hw1 => (simp only [List.getElem?_toArray, List.getElem?_cons_zero, List.getElem?_cons_succ, Option.elim]; rfl)
            case hy1 => (simp only [List.getElem?_toArray, List.getElem?_cons_zero, List.getElem?_cons_succ, Option.elim]; intro wx _; go_simp; with_reducible rfl)
            simp only [dstOf, List.getElem?_toArray, List.getElem?_cons_zero, List.getElem?_cons_succ, Option.bind, Act.put, List.setIfInBounds_toArray, List.set_cons_zero, List.set_cons_succ]
            refine till_take 2 6 false (v := ?v2) (by kernel_rfl) (by kernel_rfl) (by kernel_rfl) (by kernel_rfl) (by kernel_rfl) (fun _ _ _ h => h) ?hw2 trivial ?hy2 ?rest2
            case hw2 => (simp only [List.getElem?_toArray, List.getElem?_cons_zero, List.getElem?_cons_succ, Option.elim]; rfl)
            case hy2 => (simp only [List.getElem?_toArray, List.getElem?_cons_zero, List.getElem?_cons_succ, Option.elim]; intro wx _; go_simp; with_reducible rfl)
            simp only [dstOf, List.getElem?_toArray, List.getElem?_cons_zero, List.getElem?_cons_succ, Option.bind, Act.put, List.setIfInBounds_toArray, List.set_cons_zero, List.set_cons_succ]
            refine till_take 3 6 false (v := ?v3) (by kernel_rfl) (by kernel_rfl) (by kernel_rfl) (by kernel_rfl) (by kernel_rfl) (fun _ _ _ h => h) ?hw3 trivial ?hy3 ?rest3
            case hw3 => (simp only [List.getElem?_toArray, List.getElem?_cons_zero, List.getElem?_cons_succ, Option.elim]; rfl)
            case hy3 => (simp only [List.getElem?_toArray, List.getElem?_cons_zero, List.getElem?_cons_succ, Option.elim]; intro wx _; go_simp; with_reducible rfl)
            simp only [dstOf, List.getElem?_toArray, List.getElem?_cons_zero, List.getElem?_cons_succ, Option.bind, Act.put, List.setIfInBounds_toArray, List.set_cons_zero, List.set_cons_succ]
            refine till_take 4 6 false (v := ?v4) (by kernel_rfl) (by kernel_rfl) (by kernel_rfl) (by kernel_rfl) (by kernel_rfl) (fun _ _ _ h => h) ?hw4 trivial ?hy4 ?rest4
            case hw4 => (simp only [List.getElem?_toArray, List.getElem?_cons_zero, List.getElem?_cons_succ, Option.elim]; rfl)
            case hy4 => (simp only [List.getElem?_toArray, List.getElem?_cons_zero, List.getElem?_cons_succ, Option.elim]; intro wx _; go_simp; with_reducible rfl)
            simp only [dstOf, List.getElem?_toArray, List.getElem?_cons_zero, List.getElem?_cons_succ, Option.bind, Act.put, List.setIfInBounds_toArray, List.set_cons_zero, List.set_cons_succ]
            refine till_take 5 6 false (v := ?v5) (by kernel_rfl) (by kernel_rfl) (by kernel_rfl) (by kernel_rfl) (by kernel_rfl) (fun _ _ _ h => h) ?hw5 trivial ?hy5 ?rest5
            case hw5 => (simp only [List.getElem?_toArray, List.getElem?_cons_zero, List.getElem?_cons_succ, Option.elim]; rfl)
            case hy5 => (simp only [List.getElem?_toArray, List.getElem?_cons_zero, List.getElem?_cons_succ, Option.elim]; intro wx _; go_simp; with_reducible rfl)
            simp only [dstOf, List.getElem?_toArray, List.getElem?_cons_zero, List.getElem?_cons_succ, Option.bind, Act.put, List.setIfInBounds_toArray, List.set_cons_zero, List.set_cons_succ]
            refine till_take 6 6 false (v := ?v6) (by kernel_rfl) (by kernel_rfl) (by kernel_rfl) (by kernel_rfl) (by kernel_rfl) (fun _ _ _ h => h) ?hw6 trivial ?hy6 ?rest6
            case hw6 => (simp only [List.getElem?_toArray, List.getElem?_cons_zero, List.getElem?_cons_succ, Option.elim]; rfl)
            case hy6 => (simp only [List.getElem?_toArray, List.getElem?_cons_zero, List.getElem?_cons_succ, Option.elim]; intro wx _; go_simp; with_reducible rfl)
            simp only [dstOf, List.getElem?_toArray, List.getElem?_cons_zero, List.getElem?_cons_succ, Option.bind, Act.put, List.setIfInBounds_toArray, List.set_cons_zero, List.set_cons_succ]
            refine till_take 7 6 false (v := ?v7) (by kernel_rfl) (by kernel_rfl) (by kernel_rfl) (by kernel_rfl) (by kernel_rfl) (fun _ _ _ h => h) ?hw7 trivial ?hy7 ?rest7
            case hw7 => (simp only [List.getElem?_toArray, List.getElem?_cons_zero, List.getElem?_cons_succ, Option.elim]; rfl)
            case hy7 => (simp only [List.getElem?_toArray, List.getElem?_cons_zero, List.getElem?_cons_succ, Option.elim]; intro wx _; go_simp; with_reducible rfl)
            simp only [dstOf, List.getElem?_toArray, List.getElem?_cons_zero, List.getElem?_cons_succ, Option.bind, Act.put, List.setIfInBounds_toArray, List.set_cons_zero, List.set_cons_succ]
            refine till_take 9 6 false (v := ?v9) (by kernel_rfl) (by kernel_rfl) (by kernel_rfl) (by kernel_rfl) (by kernel_rfl) (fun _ _ _ h => h) ?hw9 trivial ?hy9 ?rest9
            case hw9 => (simp only [List.getElem?_toArray, List.getElem?_cons_zero, List.getElem?_cons_succ, Option.elim]; rfl)
            case hy9 => (simp only [List.getElem?_toArray, List.getElem?_cons_zero, List.getElem?_cons_succ, Option.elim]; intro wx _; go_simp; with_reducible rfl)
            simp only [dstOf, List.getElem?_toArray, List.getElem?_cons_zero, List.getElem?_cons_succ, Option.bind, Act.put, List.setIfInBounds_toArray, List.set_cons_zero, List.set_cons_succ]
            refine till_take 10 6 false (v := ?v10) (by kernel_rfl) (by kernel_rfl) (by kernel_rfl) (by kernel_rfl) (by kernel_rfl) (fun _ _ _ h => h) ?hw10 trivial ?hy10 ?rest10
            case hw10 => (simp only [List.getElem?_toArray, List.getElem?_cons_zero, List.getElem?_cons_succ, Option.elim]; rfl)
            case hy10 => (simp only [List.getElem?_toArray, List.getElem?_cons_zero, List.getElem?_cons_succ, Option.elim]; intro wx _; go_simp; with_reducible rfl)
            simp only [dstOf, List.getElem?_toArray, List.getElem?_cons_zero, List.getElem?_cons_succ, Option.bind, Act.put, List.setIfInBounds_toArray, List.set_cons_zero, List.set_cons_succ]
            refine till_take 11 6 false (v := ?v11) (by kernel_rfl) (by kernel_rfl) (by kernel_rfl) (by kernel_rfl) (by kernel_rfl) (fun _ _ _ h => h) ?hw11 trivial ?hy11 ?rest11
            case hw11 => (simp only [List.getElem?_toArray, List.getElem?_cons_zero, List.getElem?_cons_succ, Option.elim]; rfl)
            case hy11 => (simp only [List.getElem?_toArray, List.getElem?_cons_zero, List.getElem?_cons_succ, Option.elim]; intro wx _; go_simp; with_reducible rfl)
            simp only [dstOf, List.getElem?_toArray, List.getElem?_cons_zero, List.getElem?_cons_succ, Option.bind, Act.put, List.setIfInBounds_toArray, List.set_cons_zero, List.set_cons_succ]
            refine till_step 8 (by kernel_rfl) (by kernel_rfl) (fun K hK => ?_)
            simp only [List.getElem?_toArray, List.getElem?_cons_zero, List.getElem?_cons_succ, Option.elim]
            rw [if_pos (by rfl)]
            go_simp
            go_at_call 13
            refine (o_all (k := 2) M10.out rfl).mono ?_
            rintro e w11 ⟨v11, rfl, m⟩
            have M11 := Lib.hid (show OMem w w11 [.disk d D3, .jour b d ⟨0, ts, false⟩, .jour b2 d ⟨1, ts.take M, false⟩, .own 9 v11 (strVs (ts.take M))] from m)
            clear m M10
            have SAME := Lib.hid (same_one (by rw [List.length_take]; omega) (M11.out.texts (i := 3) rfl) (texts_take (texts_fresh HT.out M11.out.below) hMl cap))
            refine hK.out _ _ ?_
            clear hK K
            try simp only [Act.put, List.setIfInBounds_toArray, List.set_cons_zero, List.set_cons_succ]
            refine till_step 12 (by kernel_rfl) (by kernel_rfl) (fun K hK => ?_)
            simp only [List.getElem?_toArray, List.getElem?_cons_zero, List.getElem?_cons_succ, Option.elim]
            rw [if_pos (by rfl)]
            go_simp
            go_at_call 16
            refine SAME.out.mono ?_
            rintro e w12 ⟨rfl, b12⟩
            have M12 := Lib.hid (M11.out.fresh b12)
            clear b12 M11 SAME
            refine hK.out _ _ ?_
            clear hK K
            try simp only [Act.put, List.setIfInBounds_toArray, List.set_cons_zero, List.set_cons_succ]
            refine till_late 13 (v := ?v13) (by kernel_rfl) (by kernel_rfl) (by kernel_rfl) (by kernel_rfl) (fun _ _ _ h => h) (by kernel_rfl) ?hw13 ?hy13 ?rest13
            case hw13 => (simp only [List.getElem?_toArray, List.getElem?_cons_zero, List.getElem?_cons_succ, Option.elim]; rfl)
            case hy13 => (simp only [List.getElem?_toArray, List.getElem?_cons_zero, List.getElem?_cons_succ, Option.elim]; intro wx; go_simp; with_reducible rfl)
            simp only [dstOf, List.getElem?_toArray, List.getElem?_cons_zero, List.getElem?_cons_succ, Option.bind, Act.put, List.setIfInBounds_toArray, List.set_cons_zero, List.set_cons_succ]
            refine till_late 14 (v := ?v14) (by kernel_rfl) (by kernel_rfl) (by kernel_rfl) (by kernel_rfl) (fun _ _ _ h => h) (by kernel_rfl) ?hw14 ?hy14 ?rest14
            case hw14 => (simp only [List.getElem?_toArray, List.getElem?_cons_zero, List.getElem?_cons_succ, Option.elim]; rfl)
            case hy14 => (simp only [List.getElem?_toArray, List.getElem?_cons_zero, List.getElem?_cons_succ, Option.elim]; intro wx; go_simp; with_reducible rfl)
            simp only [dstOf, List.getElem?_toArray, List.getElem?_cons_zero, List.getElem?_cons_succ, Option.bind, Act.put, List.setIfInBounds_toArray, List.set_cons_zero, List.set_cons_succ]
            refine till_end (by kernel_rfl) ?_ _
            have hM8 : M ≤ 8 := by have := HFT.out.1; omega
            have hlen : ((ts.take M ++ [[110, 101, 120, 116]] : List (List UInt8)).length : Int) = (M : Int) + 1 := by simp; omega
            have hg1 : bs (if (0 : Int) ≤ (M : Int) then (ts.take M ++ [[110, 101, 120, 116]]).getD (M : Int).toNat [] else []) = ⟨#[110, 101, 120, 116]⟩ := by
              rw [if_pos (by omega), Int.toNat_natCast, List.getD_eq_getElem?_getD, List.getElem?_append_right (by rw [List.length_take]; omega), List.length_take, Nat.min_eq_left hMl, Nat.sub_self]; rfl
            have hg2 : bs (if (0 : Int) ≤ (M : Int) + 1 then (ts.take M ++ [[110, 101, 120, 116]]).getD ((M : Int) + 1).toNat [] else []) = ⟨#[]⟩ := by
              rw [if_pos (by omega), List.getD_eq_getElem?_getD, List.getElem?_eq_none (by simp; omega)]; rfl
            have HL := Lib.hid hlen
            have HG1 := Lib.hid hg1
            have HG2 := Lib.hid hg2
            clear hlen hg1 hg2
            go_wp2_with (go_at_call 14; refine (o_append1 (i := 0) (k := 2) M12.out rfl rfl (by decide) [110, 101, 120, 116] (M12.out.env he) P4.out).mono ?_; rintro e w13 ⟨rfl, m⟩; refine Hid.out ?_)
            refine Lib.hid ?_
            have M13 := Lib.hid (show OMem w w13 [.disk d D4, .jour b d ⟨0, ts, false⟩, .jour b2 d ⟨1, ts.take M ++ [[110, 101, 120, 116]], false⟩, .own 9 v11 (strVs (ts.take M))] from m)
            clear m M12
            go_wp2_with (go_at_call 32; refine (o_len1 (k := 2) M13.out rfl _ HL.out).mono ?_; rintro e w14 ⟨rfl, rfl⟩; refine Hid.out ?_)
            refine Lib.hid ?_
            go_wp2_with (go_at_call 33; refine (o_get1 (k := 2) M13.out rfl (M : Int) ⟨by omega, by omega⟩ _ HG1.out).mono ?_; rintro e w14 ⟨rfl, rfl⟩; refine Hid.out ?_)
            refine Lib.hid ?_
            go_wp2_with (go_at_call 33; refine (o_get1 (k := 2) M13.out rfl ((M : Int) + 1) ⟨by omega, by omega⟩ _ HG2.out).mono ?_; rintro e w14 ⟨rfl, rfl⟩; refine Hid.out ?_)
            refine Lib.hid ?_
            go_wp2_with (go_at_call 33; refine (o_get1 (k := 2) M13.out rfl (-1) ⟨by decide, by decide⟩ ⟨#[]⟩ rfl).mono ?_; rintro e w14 ⟨rfl, rfl⟩; refine Hid.out ?_)
            refine Lib.hid ?_
            obtain ⟨w14, hmk, hmb, hmc⟩ := make_zeros w13 20001 (by decide)
            have hmk2 : (Instr.makeSlice 58 (.int .i64 20001) (.int .i64 20001)).run Tryd.prog w13 = .ok (.slice (some ⟨w13.heap.size, 0, none⟩) 20001 20001) w14 := hmk
            have M14 := Lib.hid (M13.out.fresh hmb)
            have HAP := Lib.hid (o_append1 (i := 0) (k := 2) M14.out rfl rfl (by decide) (List.replicate 20001 0) (M14.out.env he) P5.out)
            clear hmk hmb M13
            generalize List.replicate 20001 (0 : UInt8) = zs at hmc HAP
            go_wp2_with (go_at_call 14; refine HAP.out.mono ?_; rintro e w15 ⟨rfl, m⟩; have M15 := Lib.hid m; clear m)
            go_ret
            exact ⟨rfl, M15.out.below⟩
set_option maxRecDepth 100000 in
theorem slice_cap {W : World} {base : Nat} {v : Value} (hv : Value.okWide Tryd.prog W .any base 32 v) : ∀ x n c, v = .slice x n c → n ≤ c := by
  rintro x n c rfl
  simp only [Value.okWide, Tryd.underlying32, Cell.okWide, Cell.ok] at hv
  cases x with
  | none => cases n <;> cases c <;> simp_all
  | some p => exact hv.1
theorem jtorn_walk (v0 : Value) (ht : TextsAt w v0 ts) (hl : ts.length ≤ 9223372036854775807) (hc : ∀ x n c, v0 = .slice x n c → n ≤ c) (z : Int) (a2 : Option Addr) (n2 c2 : Nat) (ks : List Int) (hn2 : ks.length = n2) (hm2 : n2 ≤ maxLen) (o2 : Nums w w (.slice a2 n2 c2) ks) (he : Env w) :
    Calls Tryd.prog 6 #[v0, .int .i64 z, .slice a2 n2 c2] w fun e w' => e = .returned (.bool true) ∧ Below w.heap.size w w' := by
  subst hn2
  obtain ⟨a1, cap1, rfl, hg⟩ := texts_at ht
  clear hg
  unfold maxLen at hm2
  by_cases hb : fewT ts = false ∨ 50 < ks.length
  · exact jtorn_out cap1 c2 z ht hl (by omega) hb he
  · have h1 : fewT ts = true := by cases h : fewT ts with | true => rfl | false => exact absurd (.inl h) hb
    exact jtorn_main cap1 c2 z ht h1 o2 (by omega) (hc _ _ _ rfl) he
end
end Go.Proofs.YtjbcgahdiolhhaaDoor.D2
