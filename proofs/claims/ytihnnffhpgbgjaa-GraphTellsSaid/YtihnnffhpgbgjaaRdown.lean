/- The reference's graph: Down, Past, Before. -/
import Derived.Test.YtihnnffhpgbgjaaRsorted
import Derived.Test.YtihnnffhpgbgjaaRdn
namespace Go.Proofs.Ytihnnffhpgbgjaa
open Go.RowKit Go.Maps Go.ChangeMaps Go.MapKept
open Gp
attribute [local go_sem ↓] Go.wp_at_zero Go.wp_at_succ

def boVs (l : List Bool) : List Value := l.map Value.bool
theorem bool_info : (Try.prog.info? 4).map (fun i => (i.zero, i.size, i.bytes)) = some (some (.bool false), 1, 1) := by kernel_rfl
theorem make_bools (w : World) (n : Nat) (hn : n ≤ 100000) : ∃ w', (Instr.makeSlice 69 (.int .i64 (n : Int)) (.int .i64 (n : Int))).run Try.prog w = .ok (.slice (some ⟨w.heap.size, 0, none⟩) n n) w' ∧
    w'.ownsRow 0 4 1 (.slice (some ⟨w.heap.size, 0, none⟩) n n) n (boVs (List.replicate n false)) ∧ w.grownBy w' none := by
  obtain ⟨i0, hi, hz0, hz1, hz2⟩ := info_parts bool_info
  obtain ⟨w', r1, r2, r3⟩ := run_make_full (P := Try.prog) w 0 69 4 i0 (.bool false) 1 Try.underlying69 hi hz0 hz1 .i64 .i64 n (by rw [hz2]; omega) (by unfold maxLen; omega) (Nat.zero_le _)
  refine ⟨w', r1, ?_, r3⟩
  rw [show (madeCells (Value.bool false).cells (n * 1)).toList = boVs (List.replicate n false) by
    rw [Nat.mul_one]
    show (madeCells #[Value.bool false] n).toList = _
    rw [toList_madeCells_one]; simp [boVs]] at r2
  exact r2
/-- Marks in a block's first cells. -/
def HoldsB (w : World) (g : Nat) (d : List Bool) : Prop := ∀ (j : Nat) (z : Bool), d[j]? = some z → w.cell? ⟨g, j, none⟩ = some (.bool z) ∧ w.frozen? ⟨g, j, none⟩ = false
theorem HoldsB.block {w w' : World} {g : Nat} {d : List Bool} (h : HoldsB w g d) (hb : w'.heap[g]? = w.heap[g]?) : HoldsB w' g d := fun j z hj => ⟨(World.cell?_of_block hb).trans (h j z hj).1, (World.frozen?_of_block hb).trans (h j z hj).2⟩
theorem HoldsB.set {w : World} {g : Nat} {d : List Bool} (h : HoldsB w g d) {t : Nat} {b : Bool} (hi : t < d.length) : HoldsB (w.setCell ⟨g, t, none⟩ (.bool b)) g (d.set t b) := fun j z hj => by
  rw [World.frozen?_setCell]
  rw [List.getElem?_set] at hj
  by_cases e : t = j
  · subst e
    rw [if_pos rfl, if_pos hi] at hj
    cases hj
    have h0 := h t _ (List.getElem?_eq_getElem hi)
    exact ⟨World.cell?_setCell_same' _ _ _ (by rw [h0.1]; rfl), h0.2⟩
  · rw [if_neg e] at hj
    have h0 := h j z hj
    exact ⟨(World.cell?_setCell_other _ _ _ _ (by intro q; cases q; exact e rfl)).trans h0.1, h0.2⟩
section
variable {w w' : World} {r : Nat} {G : List Nd}
set_option maxHeartbeats 8000000 in
set_option maxRecDepth 100000 in
theorem rdown_any (h : RAt w r G) (hG : G.length ≤ 100) {u : Value} {xs : List Int} (hu : NumsAt w u xs) (hx : xs.length ≤ 1000) : Calls Try.prog 27 #[.pointer (some ⟨r, 0, none⟩), u] w (Gives w (down G xs)) := by
  have HR := Lib.hid h
  have OK := Lib.hid h.ok
  have HU := Lib.hid hu
  obtain ⟨v, c0, hv⟩ := h.at_
  have HV := Lib.hid hv
  have HC0 := Lib.hid c0
  obtain ⟨w1, hmk, o1, g1⟩ := make_bools w G.length (by omega)
  have HW := Lib.hid (below_grown (Below.refl w.heap.size w) g1 (fun x hx => by cases hx))
  have HH := Lib.hid (show HoldsB w1 w.heap.size (List.replicate G.length false) from fun j z hj => ⟨own_at o1 (by unfold boVs; rw [List.getElem?_map, hj]; rfl), own_fz o1 j⟩)
  have HBI := Lib.hid (bits_start G xs)
  have e0 := below_cell c0 HW.out
  obtain ⟨a, cap, rfl, -⟩ := hv
  clear h hu o1 g1
  unfold Gives
  go_enter Try.func27, Try.ntmps27
  go_wp2
  clear c0 e0 hmk
  go_loopw [6] (fun i wr => ∃ (c : Nat) (bl : List Bool), c ≤ G.length ∧ i = .int .i64 ((c : Int) - 1) ∧ Hid (Bits G bl (Pmark G xs c)) ∧ Hid (HoldsB wr w.heap.size bl) ∧ Hid (Below w.heap.size w wr)) (fun i _ => (RowKit.intOf i + 1).toNat)
  case atStart => exact ⟨G.length, _, Nat.le_refl _, rfl, HBI, HH, HW⟩
  case round =>
    obtain ⟨c, bl, hc, rfl, HBI, HH, HW⟩ := hrel
    have d0 := below_cell HC0.out HW.out
    by_cases h0 : 0 < c
    · obtain ⟨p, rfl⟩ : ∃ p, c = p + 1 := ⟨c - 1, by omega⟩
      rw [show (((p + 1 : Nat) : Int) - 1) = (p : Int) by omega]
      have hpl : p < G.length := by omega
      obtain ⟨n, hn⟩ : ∃ n, G[p]? = some n := ⟨_, List.getElem?_eq_getElem hpl⟩
      have HNK := Lib.hid hn
      obtain ⟨b1, off1, cap1, pa, pc, e1, _, d1, _, _⟩ := (HV.out.keep HW.out).at_ hn
      cases e1
      have HS := s_has n.1 (HU.out.keep HW.out) (by omega)
      cases hcx : xs.contains n.1 with
      | true =>
        rw [hcx] at HS
        have HS := Lib.hid HS
        have hlen := HBI.out.len
        obtain ⟨vp, hvp⟩ : ∃ v, bl[p]? = some v := ⟨_, List.getElem?_eq_getElem (by omega)⟩
        have dp := (HH.out p _ hvp).1
        have fp := (HH.out p _ hvp).2
        have HBI := Lib.hid (show Bits G (bl.set p true) (Kmark G xs p n 0) from (HBI.out.named hn (by simpa using hcx)).congr fun j m _ => by unfold Kmark; simp)
        have HH := Lib.hid (HH.out.set (t := p) (b := true) (by omega))
        have HW := Lib.hid (HW.out.setCell (p := ⟨w.heap.size, p, none⟩) (Nat.le_refl _) (.bool true))
        clear hn hcx hvp
        go_wp2_with (go_at_call 41; refine (HS.out).mono ?_; rintro e w3 ⟨rfl, rfl⟩; refine Hid.out ?_)
        refine Lib.hid ?_
        go_wp2
        clear dp fp d0 d1
        go_loopw [7] (fun kv wq => ∃ (k : Nat) (bl : List Bool), k ≤ n.2.length ∧ kv = .int .i64 k ∧ Hid (Bits G bl (Kmark G xs p n k)) ∧ Hid (k = 0 ∨ n.1 ∈ down G xs) ∧ Hid (HoldsB wq w.heap.size bl) ∧ Hid (Below w.heap.size w wq)) (fun kv _ => n.2.length - (RowKit.intOf kv).toNat)
        case atStart => exact ⟨0, _, Nat.zero_le _, rfl, HBI, Lib.hid (.inl rfl), HH, HW⟩
        case round =>
          obtain ⟨k, bl, hk, rfl, HBI, HD, HH, HW⟩ := hrel
          have hnl := par_few OK.out n.1
          rw [par_at OK.out HNK.out] at hnl
          have d0 := below_cell HC0.out HW.out
          obtain ⟨b1, off1, cap1, pa, pc, e1, _, _, d1, hnum⟩ := (HV.out.keep HW.out).at_ HNK.out
          cases e1
          have hbp : bl[p]? = some (decide (n.1 ∈ down G xs)) := by
            have h1 := HBI.out.at_ p n HNK.out
            rw [kmark_self OK.out HNK.out] at h1
            have hlen := HBI.out.len
            cases hb : bl[p]? with
            | none => rw [List.getElem?_eq_none_iff] at hb; omega
            | some v =>
              rw [hb] at h1
              cases v with
              | true => rw [decide_eq_true (h1.1 rfl)]
              | false => rw [decide_eq_false (fun q => by have := h1.2 q; cases this)]
          have dp := (HH.out p _ hbp).1
          clear hbp
          by_cases hd : n.1 ∈ down G xs
          · rw [decide_eq_true hd] at dp
            have HDD := Lib.hid hd
            clear hd
            by_cases hlt : k < n.2.length
            · obtain ⟨z, hz⟩ : ∃ z, n.2[k]? = some z := ⟨_, List.getElem?_eq_getElem hlt⟩
              obtain ⟨b2, off2, cap2, e2, _, hcs⟩ := hnum.form (by omega)
              cases e2
              have d2 := hcs k z hz
              have HA := Lib.hid (rat_any (HR.out.keep HW.out) z hG)
              have HZ := Lib.hid hz
              clear hcs hz hnum
              go_wp2_with (go_at_call 12; refine (HA.out).mono ?_; rintro e w4 ⟨q, rfl, hqq, rfl⟩; refine Hid.out ?_)
              refine Lib.hid ?_
              rcases hqq with ⟨rfl, hq⟩ | ⟨t, o, rfl, ho, hoz⟩
              · exact absurd (OK.out.cl n (List.mem_of_getElem? HNK.out) z (List.mem_of_getElem? HZ.out)) hq
              · have htl := (List.getElem?_eq_some_iff.1 ho).1
                have hlen := HBI.out.len
                obtain ⟨vt, hvt⟩ : ∃ v, bl[t]? = some v := ⟨_, List.getElem?_eq_getElem (by omega)⟩
                have dt := (HH.out t _ hvt).1
                have ft := (HH.out t _ hvt).2
                have HBI2 := Lib.hid (HBI.out.parent OK.out HZ.out ho hoz)
                have htb : t < bl.length := by rw [hlen]; exact htl
                have HH2 := Lib.hid (HH.out.set (t := t) (b := true) htb)
                have HW2 := Lib.hid (HW.out.setCell (p := ⟨w.heap.size, t, none⟩) (Nat.le_refl _) (.bool true))
                have hmx : ¬ ((t : Nat) : Int) < 0 := by omega
                clear HA ho hoz hvt
                go_wp2
                go_roundw
                case rel => exact ⟨k + 1, _, by omega, by go_num, HBI2, Lib.hid (.inr HDD.out), HH2, HW2⟩
                case measure => (simp [RowKit.intOf]; try omega)
            · obtain rfl : k = n.2.length := by omega
              have HBI2 := Lib.hid (HBI.out.congr fun j m hm => (kmark_yes HNK.out HDD.out).trans Iff.rfl)
              clear hnum
              go_wp2
              go_roundw
              case rel => exact ⟨p, bl, by omega, rfl, HBI2, HH, HW⟩
              case measure => (simp [RowKit.intOf]; try omega)
          · rw [decide_eq_false hd] at dp
            obtain rfl : k = 0 := HD.out.resolve_right hd
            have HBI2 := Lib.hid (HBI.out.congr fun j m hm => kmark_no HNK.out hd)
            clear hnum hd
            go_wp2
            go_roundw
            case rel => exact ⟨p, bl, by omega, rfl, HBI2, HH, HW⟩
            case measure => (simp [RowKit.intOf]; try omega)
      | false =>
        rw [hcx] at HS
        have HS := Lib.hid HS
        have HBI := Lib.hid (show Bits G bl (Kmark G xs p n 0) from (HBI.out.unnamed hn (by simpa using hcx)).congr fun j m _ => by unfold Kmark; simp)
        clear hn hcx
        go_wp2_with (go_at_call 41; refine (HS.out).mono ?_; rintro e w3 ⟨rfl, rfl⟩; refine Hid.out ?_)
        refine Lib.hid ?_
        go_wp2
        clear d0 d1
        go_loopw [7] (fun kv wq => ∃ (k : Nat) (bl : List Bool), k ≤ n.2.length ∧ kv = .int .i64 k ∧ Hid (Bits G bl (Kmark G xs p n k)) ∧ Hid (k = 0 ∨ n.1 ∈ down G xs) ∧ Hid (HoldsB wq w.heap.size bl) ∧ Hid (Below w.heap.size w wq)) (fun kv _ => n.2.length - (RowKit.intOf kv).toNat)
        case atStart => exact ⟨0, _, Nat.zero_le _, rfl, HBI, Lib.hid (.inl rfl), HH, HW⟩
        case round =>
          obtain ⟨k, bl, hk, rfl, HBI, HD, HH, HW⟩ := hrel
          have hnl := par_few OK.out n.1
          rw [par_at OK.out HNK.out] at hnl
          have d0 := below_cell HC0.out HW.out
          obtain ⟨b1, off1, cap1, pa, pc, e1, _, _, d1, hnum⟩ := (HV.out.keep HW.out).at_ HNK.out
          cases e1
          have hbp : bl[p]? = some (decide (n.1 ∈ down G xs)) := by
            have h1 := HBI.out.at_ p n HNK.out
            rw [kmark_self OK.out HNK.out] at h1
            have hlen := HBI.out.len
            cases hb : bl[p]? with
            | none => rw [List.getElem?_eq_none_iff] at hb; omega
            | some v =>
              rw [hb] at h1
              cases v with
              | true => rw [decide_eq_true (h1.1 rfl)]
              | false => rw [decide_eq_false (fun q => by have := h1.2 q; cases this)]
          have dp := (HH.out p _ hbp).1
          clear hbp
          by_cases hd : n.1 ∈ down G xs
          · rw [decide_eq_true hd] at dp
            have HDD := Lib.hid hd
            clear hd
            by_cases hlt : k < n.2.length
            · obtain ⟨z, hz⟩ : ∃ z, n.2[k]? = some z := ⟨_, List.getElem?_eq_getElem hlt⟩
              obtain ⟨b2, off2, cap2, e2, _, hcs⟩ := hnum.form (by omega)
              cases e2
              have d2 := hcs k z hz
              have HA := Lib.hid (rat_any (HR.out.keep HW.out) z hG)
              have HZ := Lib.hid hz
              clear hcs hz hnum
              go_wp2_with (go_at_call 12; refine (HA.out).mono ?_; rintro e w4 ⟨q, rfl, hqq, rfl⟩; refine Hid.out ?_)
              refine Lib.hid ?_
              rcases hqq with ⟨rfl, hq⟩ | ⟨t, o, rfl, ho, hoz⟩
              · exact absurd (OK.out.cl n (List.mem_of_getElem? HNK.out) z (List.mem_of_getElem? HZ.out)) hq
              · have htl := (List.getElem?_eq_some_iff.1 ho).1
                have hlen := HBI.out.len
                obtain ⟨vt, hvt⟩ : ∃ v, bl[t]? = some v := ⟨_, List.getElem?_eq_getElem (by omega)⟩
                have dt := (HH.out t _ hvt).1
                have ft := (HH.out t _ hvt).2
                have HBI2 := Lib.hid (HBI.out.parent OK.out HZ.out ho hoz)
                have htb : t < bl.length := by rw [hlen]; exact htl
                have HH2 := Lib.hid (HH.out.set (t := t) (b := true) htb)
                have HW2 := Lib.hid (HW.out.setCell (p := ⟨w.heap.size, t, none⟩) (Nat.le_refl _) (.bool true))
                have hmx : ¬ ((t : Nat) : Int) < 0 := by omega
                clear HA ho hoz hvt
                go_wp2
                go_roundw
                case rel => exact ⟨k + 1, _, by omega, by go_num, HBI2, Lib.hid (.inr HDD.out), HH2, HW2⟩
                case measure => (simp [RowKit.intOf]; try omega)
            · obtain rfl : k = n.2.length := by omega
              have HBI2 := Lib.hid (HBI.out.congr fun j m hm => (kmark_yes HNK.out HDD.out).trans Iff.rfl)
              clear hnum
              go_wp2
              go_roundw
              case rel => exact ⟨p, bl, by omega, rfl, HBI2, HH, HW⟩
              case measure => (simp [RowKit.intOf]; try omega)
          · rw [decide_eq_false hd] at dp
            obtain rfl : k = 0 := HD.out.resolve_right hd
            have HBI2 := Lib.hid (HBI.out.congr fun j m hm => kmark_no HNK.out hd)
            clear hnum hd
            go_wp2
            go_roundw
            case rel => exact ⟨p, bl, by omega, rfl, HBI2, HH, HW⟩
            case measure => (simp [RowKit.intOf]; try omega)
    · obtain rfl : c = 0 := by omega
      rw [show (((0 : Nat) : Int) - 1) = (-1 : Int) from rfl]
      have B3 := Lib.hid ((OMem.start wr).rowNil 3 1)
      go_wp2
      clear d0
      rename World => w3
      go_loopw [9, 10] (fun lv i wq => ∃ k : Nat, k ≤ G.length ∧ i = .int .i64 k ∧ OMem w3 wq [.row 3 1 lv (((ids G).take k).filter (inDown G xs)).length (intVs (((ids G).take k).filter (inDown G xs)))]) (fun _ i _ => G.length - (RowKit.intOf i).toNat)
      case atStart => exact ⟨0, Nat.zero_le _, rfl, B3.out⟩
      case round =>
        obtain ⟨k, hk, rfl, M⟩ := hrel
        have HWk := Lib.hid (HW.out.trans (M.below.mono HW.out.size))
        have d0 := below_cell HC0.out HWk.out
        by_cases hlt : k < G.length
        · obtain ⟨n, hn⟩ : ∃ n, G[k]? = some n := ⟨_, List.getElem?_eq_getElem hlt⟩
          obtain ⟨b1, off1, cap1, pa, pc, e1, _, d1, _, _⟩ := (HV.out.keep HWk.out).at_ hn
          cases e1
          have hbk : bl[k]? = some (inDown G xs n.1) := by
            have h1 := HBI.out.at_ k n hn
            rw [pmark_end OK.out hn] at h1
            have hlen := HBI.out.len
            have hnG := ids_of (List.mem_of_getElem? hn)
            have hd : n.1 ∈ down G xs ↔ inDown G xs n.1 = true := by
              unfold down; rw [List.mem_filter]; exact ⟨fun q => q.2, fun q => ⟨hnG, q⟩⟩
            rw [hd] at h1
            cases hb : bl[k]? with
            | none => rw [List.getElem?_eq_none_iff] at hb; omega
            | some v =>
              rw [hb] at h1
              cases v with
              | true => rw [h1.1 rfl]
              | false =>
                cases hi : inDown G xs n.1 with
                | false => rfl
                | true => have := h1.2 hi; cases this
          have dk := below_cell (HH.out k _ hbk).1 M.below
          have HT := Lib.hid (show ((ids G).take (k + 1)).filter (inDown G xs) = ((ids G).take k).filter (inDown G xs) ++ (if inDown G xs n.1 = true then [n.1] else []) by
            rw [List.take_add_one, ids_at hn, List.filter_append]
            congr 1
            show [n.1].filter (inDown G xs) = _
            rw [List.filter_cons, List.filter_nil])
          have hkl : (((ids G).take k).filter (inDown G xs)).length ≤ 100 := by
            refine Nat.le_trans (List.length_filter_le _ _) ?_
            rw [List.length_take]
            simp [ids]; omega
          have HM := Lib.hid M
          clear M hbk hn
          generalize ((ids G).take k).filter (inDown G xs) = ks at HM HT hkl
          cases hi : inDown G xs n.1 with
          | true =>
            rw [hi] at dk HT
            clear hi
            obtain ⟨ya, yc, w5, r5, m5⟩ := HM.out.pushN (i := 0) rfl n.1 (by omega)
            have R5 := Lib.hid r5
            have M5 := Lib.hid m5
            clear r5 m5
            go_wp2_with (at_builtin; refine Hid.out ?_)
            refine Lib.hid ?_
            refine Lib.wpList_append_run _ rfl _ _ _ _ rfl _ _ rfl rfl _ _ R5.out ?_
            go_wp2
            go_roundw
            case rel => exact ⟨k + 1, by omega, by go_num, by rw [HT.out]; simpa using M5.out⟩
            case measure => (simp [RowKit.intOf]; try omega)
          | false =>
            rw [hi] at dk HT
            clear hi
            go_wp2
            go_roundw
            case rel => exact ⟨k + 1, by omega, by go_num, by rw [HT.out]; simpa using HM.out⟩
            case measure => (simp [RowKit.intOf]; try omega)
        · obtain rfl : k = G.length := by omega
          rw [List.take_of_length_le (show (ids G).length ≤ G.length by simp [ids])] at M
          have HN := Lib.hid (NumsAt.of_own (M.rowAt (i := 0) rfl))
          clear M
          go_wp2
          go_ret
          exact ⟨_, rfl, HN.out, HWk.out⟩
theorem rpast_any (h : RAt w r G) (hG : G.length ≤ 100) (x : Int) : Calls Try.prog 21 #[.pointer (some ⟨r, 0, none⟩), .int .i64 x] w (Gives w (past G x)) := by
  have HP := Lib.hid (rparents_any h x hG)
  have HR := Lib.hid h
  have hpl := par_few h.ok x
  have HD := Lib.hid (down_par G x)
  clear h
  unfold Gives
  go_enter Try.func21, Try.ntmps21
  go_wp2_with (go_at_call 19; refine (HP.out).mono ?_; rintro e w2 ⟨v2, rfl, hv2, rfl⟩; refine Hid.out ?_)
  refine Lib.hid ?_
  have HDN := Lib.hid (rdown_any HR.out hG hv2 (by omega))
  clear hv2 HP
  go_wp2_with (go_at_call 27; refine (HDN.out).mono ?_; rintro e w3 ⟨v3, rfl, hv3, b3⟩; refine Hid.out ?_)
  refine Lib.hid ?_
  rw [HD.out] at hv3
  have HN := Lib.hid hv3
  clear hv3 HDN
  go_wp2
  go_ret
  exact ⟨v3, rfl, HN.out, b3⟩
theorem rbefore_any (h : RAt w r G) (hG : G.length ≤ 100) (x y : Int) : Calls Try.prog 16 #[.pointer (some ⟨r, 0, none⟩), .int .i64 x, .int .i64 y] w (Reads w (.bool (ancB G x y))) := by
  have HP := Lib.hid (rpast_any h hG y)
  have HL := Lib.hid (show (past G y).length ≤ 100 from Nat.le_trans (List.length_filter_le _ _) (by simp [ids]; omega))
  have HD := Lib.hid (past_has h.ok x y)
  clear h
  unfold Reads
  go_enter Try.func16, Try.ntmps16
  go_wp2_with (go_at_call 21; refine (HP.out).mono ?_; rintro e w2 ⟨v2, rfl, hv2, b2⟩; refine Hid.out ?_)
  refine Lib.hid ?_
  have HS := s_has x hv2 (by have := HL.out; omega)
  rw [HD.out] at HS
  have HS := Lib.hid HS
  clear hv2 HP
  go_wp2_with (go_at_call 41; refine (HS.out).mono ?_; rintro e w3 ⟨rfl, rfl⟩; refine Hid.out ?_)
  refine Lib.hid ?_
  go_wp2
  go_ret
  exact ⟨rfl, b2⟩
end
end Go.Proofs.Ytihnnffhpgbgjaa
