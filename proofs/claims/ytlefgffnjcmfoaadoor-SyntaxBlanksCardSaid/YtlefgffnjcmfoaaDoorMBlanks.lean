/- The walk of SyntaxBlanks. -/
import Derived.Test.YtlefgffnjcmfoaaDoorMG
import Derived.Test.YtlefgffnjcmfoaaDoorMC
namespace Go.Proofs.YtlefgffnjcmfoaaDoor
open Go.RowKit Go.Maps Go.ChangeMaps Go.MapKept
open Lx Sy Ch
attribute [local go_sem ↓] Go.wp_at_zero Go.wp_at_succ
def padOf (bl : S) (i : Nat) : S := if i < bl.length then [32, 10, 9, 32, 32].take ((bl.getD i 0).toNat % 5) else []
theorem pad_len (bl : S) (i : Nat) : (padOf bl i).length ≤ 4 := by unfold padOf; split <;> simp; omega
theorem pad_blank (bl : S) (i : Nat) : ∀ c ∈ padOf bl i, Lx.blank c = true := by
  intro c hc
  unfold padOf at hc
  split at hc
  · have := List.mem_of_mem_take hc
    simp at this
    rcases this with rfl | rfl | rfl | rfl <;> decide
  · cases hc
theorem pad_at {bl : S} {i : Nat} {d : UInt8} (h : bl[i]? = some d) : padOf bl i = [32, 10, 9, 32, 32].take (d.toNat % 5) := by
  unfold padOf
  rw [if_pos (List.getElem?_eq_some_iff.1 h).1, List.getD_eq_getElem?_getD, h]; rfl
theorem pad_off {bl : S} {i : Nat} (h : ¬ i < bl.length) : padOf bl i = [] := by unfold padOf; rw [if_neg h]
theorem lexRes_two (s : S) (hs : s.length ≤ 2000) : (∃ i e, lexRes s = ([], i, e) ∧ e ≠ 0) ∨ ∃ ts, lexRes s = (ts, 0, 0) := by
  cases hl : lex s 0 with
  | ok ts => exact .inr ⟨ts, lexRes_ok (by omega) hl⟩
  | error v =>
    obtain ⟨i, e⟩ := v
    obtain ⟨_, _, _, _, _, he⟩ := lex_error hl
    exact .inl ⟨i, e, lexRes_err (by omega) hl, by rcases he with h | h | h <;> rw [h] <;> decide⟩
section
variable {E : World → Prop} {w : World}
set_option maxHeartbeats 8000000 in
set_option maxRecDepth 100000 in
theorem blanks_walk (A : YApi E) (hE : E w) {s0 bl : S} {v : Value} (hv : ByAt w v bl) : Calls Tryd.prog 4 #[.string (bs s0), v] w (Reads w (.bool true)) := by
  obtain ⟨va, vc, rfl⟩ := hv.slice
  have hz := bs_size s0
  obtain ⟨s, htt⟩ : ∃ t, t = s0.take 700 := ⟨_, rfl⟩
  have hsl : s.length ≤ 700 := by rw [htt]; simp; omega
  have hts : s.length ≤ s0.length := by rw [htt]; simp; omega
  have hmin : min (s0.length : Int) 700 = (s.length : Int) := by rw [htt]; simp; omega
  have hext : (bs s0).extract 0 s.length = bs s := by rw [htt]; exact cut_at s0 700
  have zs := bs_size s
  clear htt
  unfold Reads
  have HB := Lib.hid (Below.refl w.heap.size w)
  have HE := Lib.hid hE
  have HV := Lib.hid hv
  clear hE hv
  go_enter Tryd.func4, Tryd.ntmps4
  go_upto_region 1 with fail
  refine wp_region_lit ?_
  refine list_callP rfl (ev_call0 (enters_of Tryd.func7 (by kernel_rfl) rfl)) (small_any A HE.out) ?_
  rintro e1 u1 ⟨rfl, b1⟩
  refine ⟨_, rfl, ?_⟩
  replace HE := Lib.hid (A.keep HE.out b1)
  replace HB := Lib.hid (HB.out.trans (b1.mono HB.out.size))
  replace HV := Lib.hid (HV.out.keep b1)
  clear b1
  simp only [Act.put, List.setIfInBounds_toArray, List.set_cons_zero, List.set_cons_succ]
  refine list_ev (v := .bool true) rfl (ev_assign rfl rfl) ?_
  simp only [Act.put, List.setIfInBounds_toArray, List.set_cons_zero, List.set_cons_succ]
  go_upto_region 2 with fail
  refine wp_region_lit ?_
  refine list_ev (v := .string (bs s0)) rfl (ev_move rfl rfl) ?_
  simp only [Act.put, List.setIfInBounds_toArray, List.set_cons_zero, List.set_cons_succ]
  refine list_ev (v := .string (bs s0)) rfl (ev_move rfl rfl) ?_
  simp only [Act.put, List.setIfInBounds_toArray, List.set_cons_zero, List.set_cons_succ]
  refine list_ev (v := .int .i64 (s0.length : Int)) rfl (by go_simp) ?_
  simp only [Act.put, List.setIfInBounds_toArray, List.set_cons_zero, List.set_cons_succ]
  refine list_ev (v := .int .i64 (s.length : Int)) rfl (by go_simp; split <;> omega) ?_
  simp only [Act.put, List.setIfInBounds_toArray, List.set_cons_zero, List.set_cons_succ]
  refine list_ev (v := .string (bs s)) rfl (by go_simp) ?_
  simp only [Act.put, List.setIfInBounds_toArray, List.set_cons_zero, List.set_cons_succ]
  refine list_ev (v := .string (bs s)) rfl (ev_assign rfl rfl) ?_
  simp only [Act.put, List.setIfInBounds_toArray, List.set_cons_zero]
  clear hmin hext
  rcases lexRes_two s (by omega) with ⟨i, e, hx, hne⟩ | ⟨ts, hx⟩
  · have hne9 : (e != 0) = true := by simpa using hne
    go_upto_region 3 with fail
    refine wp_region_lit ?_
    refine list_ev (v := .string (bs s)) rfl (ev_move rfl rfl) ?_
    simp only [Act.put, List.setIfInBounds_toArray, List.set_cons_zero, List.set_cons_succ]
    refine list_callP rfl (ev_call1 rfl (enters_of Tryd.func13 (by kernel_rfl) rfl)) (A.lex_gen hx HE.out (by omega)) ?_
    rintro e2 u2 ⟨a6, c6, rfl, t6, b2⟩
    refine ⟨_, rfl, ?_⟩
    replace HE := Lib.hid (A.keep HE.out b2)
    replace HB := Lib.hid (HB.out.trans (b2.mono HB.out.size))
    replace HV := Lib.hid (HV.out.keep b2)
    clear b2
    simp only [Act.put, List.setIfInBounds_toArray, List.set_cons_zero, List.set_cons_succ]
    refine list_ev (v := .tuple #[.slice a6 (([] : List Tk)).length c6, .int .i64 i, .int .i64 e]) rfl (ev_move rfl rfl) ?_
    simp only [Act.put, List.setIfInBounds_toArray, List.set_cons_zero, List.set_cons_succ]
    refine list_ev (v := .slice a6 (([] : List Tk)).length c6) rfl (by go_simp) ?_
    simp only [Act.put, List.setIfInBounds_toArray, List.set_cons_zero, List.set_cons_succ]
    refine list_ev (v := .int .i64 i) rfl (by go_simp) ?_
    simp only [Act.put, List.setIfInBounds_toArray, List.set_cons_zero, List.set_cons_succ]
    refine list_ev (v := .int .i64 e) rfl (by go_simp) ?_
    simp only [Act.put, List.setIfInBounds_toArray, List.set_cons_zero, List.set_cons_succ]
    refine list_ev (v := .slice a6 (([] : List Tk)).length c6) rfl (ev_assign rfl rfl) ?_
    simp only [Act.put, List.setIfInBounds_toArray, List.set_cons_zero, List.set_cons_succ]
    refine list_ev (v := .int .i64 i) rfl (ev_assign rfl rfl) ?_
    simp only [Act.put, List.setIfInBounds_toArray, List.set_cons_zero, List.set_cons_succ]
    refine list_ev (v := .int .i64 e) rfl (ev_assign rfl rfl) ?_
    simp only [Act.put, List.setIfInBounds_toArray, List.set_cons_zero, List.set_cons_succ]
    have HT6 := Lib.hid t6
    clear t6
    go_upto_region 4 with fail
    refine wp_region_lit ?_
    refine list_ev (v := .int .i64 e) rfl (ev_move rfl rfl) ?_
    simp only [Act.put, List.setIfInBounds_toArray, List.set_cons_zero, List.set_cons_succ]
    refine list_ev (v := .bool true) rfl (by go_simp) ?_
    simp only [Act.put, List.setIfInBounds_toArray, List.set_cons_zero, List.set_cons_succ]
    refine list_ev (v := .bool true) rfl (ev_move rfl rfl) ?_
    simp only [Act.put, List.setIfInBounds_toArray, List.set_cons_zero, List.set_cons_succ]
    refine list_off ((Ch.want_at rfl rfl rfl).trans rfl) ?_
    simp only [Act.put, List.setIfInBounds_toArray, List.set_cons_zero, List.set_cons_succ]
    refine list_off ((Ch.want_at rfl rfl rfl).trans rfl) ?_
    simp only [Act.put, List.setIfInBounds_toArray, List.set_cons_zero, List.set_cons_succ]
    refine list_off ((Ch.want_at rfl rfl rfl).trans rfl) ?_
    simp only [Act.put, List.setIfInBounds_toArray, List.set_cons_zero, List.set_cons_succ]
    refine list_ev (v := .bool true) rfl (by go_simp) ?_
    simp only [Act.put, List.setIfInBounds_toArray, List.set_cons_zero, List.set_cons_succ]
    go_wp2
    go_ret
    exact ⟨rfl, HB.out⟩
  · have hln : ts.length ≤ 701 := by have := (lex_len' (res_ok hx).2).1; omega
    go_upto_region 3 with fail
    refine wp_region_lit ?_
    refine list_ev (v := .string (bs s)) rfl (ev_move rfl rfl) ?_
    simp only [Act.put, List.setIfInBounds_toArray, List.set_cons_zero, List.set_cons_succ]
    refine list_callP rfl (ev_call1 rfl (enters_of Tryd.func13 (by kernel_rfl) rfl)) (A.lex_gen hx HE.out (by omega)) ?_
    rintro e2 u2 ⟨a6, c6, rfl, t6, b2⟩
    refine ⟨_, rfl, ?_⟩
    replace HE := Lib.hid (A.keep HE.out b2)
    replace HB := Lib.hid (HB.out.trans (b2.mono HB.out.size))
    replace HV := Lib.hid (HV.out.keep b2)
    clear b2
    simp only [Act.put, List.setIfInBounds_toArray, List.set_cons_zero, List.set_cons_succ]
    refine list_ev (v := .tuple #[.slice a6 (ts).length c6, .int .i64 0, .int .i64 0]) rfl (ev_move rfl rfl) ?_
    simp only [Act.put, List.setIfInBounds_toArray, List.set_cons_zero, List.set_cons_succ]
    refine list_ev (v := .slice a6 (ts).length c6) rfl (by go_simp) ?_
    simp only [Act.put, List.setIfInBounds_toArray, List.set_cons_zero, List.set_cons_succ]
    refine list_ev (v := .int .i64 0) rfl (by go_simp) ?_
    simp only [Act.put, List.setIfInBounds_toArray, List.set_cons_zero, List.set_cons_succ]
    refine list_ev (v := .int .i64 0) rfl (by go_simp) ?_
    simp only [Act.put, List.setIfInBounds_toArray, List.set_cons_zero, List.set_cons_succ]
    refine list_ev (v := .slice a6 (ts).length c6) rfl (ev_assign rfl rfl) ?_
    simp only [Act.put, List.setIfInBounds_toArray, List.set_cons_zero, List.set_cons_succ]
    refine list_ev (v := .int .i64 0) rfl (ev_assign rfl rfl) ?_
    simp only [Act.put, List.setIfInBounds_toArray, List.set_cons_zero, List.set_cons_succ]
    refine list_ev (v := .int .i64 0) rfl (ev_assign rfl rfl) ?_
    simp only [Act.put, List.setIfInBounds_toArray, List.set_cons_zero, List.set_cons_succ]
    have HT6 := Lib.hid t6
    clear t6
    by_cases hbl : 60 < bl.length
    · have hbl' : (60 : Int) < (bl.length : Int) := by omega
      go_upto_region 4 with fail
      refine wp_region_lit ?_
      refine list_ev (v := .int .i64 0) rfl (ev_move rfl rfl) ?_
      simp only [Act.put, List.setIfInBounds_toArray, List.set_cons_zero, List.set_cons_succ]
      refine list_ev (v := .bool false) rfl (by go_simp) ?_
      simp only [Act.put, List.setIfInBounds_toArray, List.set_cons_zero, List.set_cons_succ]
      refine list_ev (v := .bool false) rfl (ev_move rfl rfl) ?_
      simp only [Act.put, List.setIfInBounds_toArray, List.set_cons_zero, List.set_cons_succ]
      refine list_ev (v := .slice va bl.length vc) ((Ch.want_at rfl rfl rfl).trans rfl) (ev_move rfl rfl) ?_
      simp only [Act.put, List.setIfInBounds_toArray, List.set_cons_zero, List.set_cons_succ]
      refine list_ev (v := .int .i64 (bl.length : Int)) ((Ch.want_at rfl rfl rfl).trans rfl) (by go_simp) ?_
      simp only [Act.put, List.setIfInBounds_toArray, List.set_cons_zero, List.set_cons_succ]
      refine list_ev (v := .bool true) ((Ch.want_at rfl rfl rfl).trans rfl) (by go_simp) ?_
      simp only [Act.put, List.setIfInBounds_toArray, List.set_cons_zero, List.set_cons_succ]
      refine list_ev (v := .bool true) rfl (by go_simp) ?_
      simp only [Act.put, List.setIfInBounds_toArray, List.set_cons_zero, List.set_cons_succ]
      go_wp2
      go_ret
      exact ⟨rfl, HB.out⟩
    · have hbl' : ¬ (60 : Int) < (bl.length : Int) := by omega
      go_upto_region 4 with fail
      refine wp_region_lit ?_
      refine list_ev (v := .int .i64 0) rfl (ev_move rfl rfl) ?_
      simp only [Act.put, List.setIfInBounds_toArray, List.set_cons_zero, List.set_cons_succ]
      refine list_ev (v := .bool false) rfl (by go_simp) ?_
      simp only [Act.put, List.setIfInBounds_toArray, List.set_cons_zero, List.set_cons_succ]
      refine list_ev (v := .bool false) rfl (ev_move rfl rfl) ?_
      simp only [Act.put, List.setIfInBounds_toArray, List.set_cons_zero, List.set_cons_succ]
      refine list_ev (v := .slice va bl.length vc) ((Ch.want_at rfl rfl rfl).trans rfl) (ev_move rfl rfl) ?_
      simp only [Act.put, List.setIfInBounds_toArray, List.set_cons_zero, List.set_cons_succ]
      refine list_ev (v := .int .i64 (bl.length : Int)) ((Ch.want_at rfl rfl rfl).trans rfl) (by go_simp) ?_
      simp only [Act.put, List.setIfInBounds_toArray, List.set_cons_zero, List.set_cons_succ]
      refine list_ev (v := .bool false) ((Ch.want_at rfl rfl rfl).trans rfl) (by go_simp) ?_
      simp only [Act.put, List.setIfInBounds_toArray, List.set_cons_zero, List.set_cons_succ]
      refine list_ev (v := .bool false) rfl (by go_simp) ?_
      simp only [Act.put, List.setIfInBounds_toArray, List.set_cons_zero, List.set_cons_succ]
      have HX := Lib.hid hx
      have HSB := Lib.hid (fun k => spr_bound (pd := padOf bl) (by omega) (pad_len bl) hx k)
      clear hx
      go_wp2
      go_loopw [9, 10, 11] (fun t pl i wr => ∃ (k : Nat) (ks : List Int) (pa : Option Addr) (pc : Nat), k ≤ ts.length ∧ i = .int .i64 k ∧ t = .string (bs (spr (padOf bl) 0 (ts.take k))) ∧ pl = .slice pa ks.length pc ∧ Hid (ks = places (padOf bl) 0 0 (ts.take k)) ∧ OMem u2 wr [.row 3 1 (.slice pa ks.length pc) ks.length (intVs ks)]) (fun _ _ i _ => ts.length - (intOf i).toNat)
      case atStart => exact ⟨0, [], none, 0, Nat.zero_le _, rfl, rfl, rfl, Lib.hid rfl, (OMem.start u2).rowNil _ _⟩
      case round =>
        obtain ⟨k, ks, pa, pc, hk, rfl, rfl, rfl, HK, m⟩ := hrel
        have M := Lib.hid m
        clear m
        by_cases hlt : k < ts.length
        · obtain ⟨t, ht⟩ : ∃ t, ts[k]? = some t := ⟨_, List.getElem?_eq_getElem hlt⟩
          have htk : ts.take (k + 1) = ts.take k ++ [t] := by rw [List.take_add_one, ht]; rfl
          have hl0 : (ts.take k).length = k := by rw [List.length_take]; omega
          have hsn := spr_snoc (padOf bl) t (ts.take k) 0
          have hpn := places_snoc (padOf bl) t (ts.take k) 0 0
          rw [← htk, hl0, Nat.zero_add] at hsn hpn
          rw [← HK.out] at hpn
          have hb0 := HSB.out k
          have hb3 := HSB.out (k + 1)
          have hks : ks.length = k := by rw [HK.out, places_length, hl0]
          obtain ⟨B0, hB0⟩ : ∃ q, q = spr (padOf bl) 0 (ts.take k) := ⟨_, rfl⟩
          obtain ⟨B3, hB3⟩ : ∃ q, q = spr (padOf bl) 0 (ts.take (k + 1)) := ⟨_, rfl⟩
          rw [← hB0] at hsn hpn hb0 ⊢
          rw [← hB3] at hsn hb3
          have HB3 := Lib.hid hB3
          clear hB0 hB3 htk
          obtain ⟨P, hP⟩ : ∃ q, q = padOf bl k := ⟨_, rfl⟩
          rw [← hP] at hsn hpn
          obtain ⟨B1, hB1⟩ : ∃ q, q = B0 ++ [32] := ⟨_, rfl⟩
          obtain ⟨B2, hB2⟩ : ∃ q, q = B1 ++ P := ⟨_, rfl⟩
          have l3 : B3.length = B0.length + 1 + P.length + t.text.length := by rw [hsn]; simp; omega
          have l1 : B1.length = B0.length + 1 := by rw [hB1]; simp
          have l2 : B2.length = B0.length + 1 + P.length := by rw [hB2, List.length_append, l1]
          have e1 : bs B0 ++ ({ data := #[32] } : ByteArray) = bs B1 := by rw [hB1]; exact bs_append B0 [32]
          have e2 : bs B1 ++ bs P = bs B2 := by rw [hB2]; exact bs_append B1 P
          have e3 : bs B2 ++ bs t.text = bs B3 := by rw [hsn, hB2, hB1, bs_append]; simp
          have z0 := bs_size B0
          have z1 := bs_size B1
          have z2 := bs_size B2
          have zP := bs_size P
          have zt := bs_size t.text
          have HPN := Lib.hid hpn
          have HP := Lib.hid hP
          have hpl : P.length ≤ 4 := by rw [hP]; exact pad_len bl k
          have hkl : (k : Int) < (ts.length : Int) := by omega
          obtain ⟨tb, off, cap, hh, _, hc⟩ := (HT6.out.keep M.out.below).form (by omega)
          cases hh
          obtain ⟨-, q1, -, -⟩ := hc k t ht
          have HQ := Lib.hid q1
          have HTT := Lib.hid ht
          clear hsn hpn hP hB1 hB2 hc ht
          by_cases hkb : k < bl.length
          · obtain ⟨dd, hd⟩ : ∃ d, bl[k]? = some d := ⟨_, List.getElem?_eq_getElem hkb⟩
            obtain ⟨bb, bo, bc, hh3, _, hcb⟩ := (HV.out.keep M.out.below).form (by omega)
            cases hh3
            have q3 := hcb k dd hd
            obtain ⟨mm, hmm⟩ : ∃ q, q = dd.toNat % 5 := ⟨_, rfl⟩
            have hm5 : mm < 5 := by omega
            have htm : ((dd.toNat : Nat) : Int).tmod 5 = (mm : Int) := by rw [hmm]; exact (Int.ofNat_tmod _ _).symm
            have hex : ({ data := #[32, 10, 9, 32, 32] } : ByteArray).extract 0 mm = bs P := by rw [HP.out, pad_at hd, ← hmm]; exact bs_extract [32, 10, 9, 32, 32] 0 mm
            have hsz5 : ({ data := #[32, 10, 9, 32, 32] } : ByteArray).size = 5 := rfl
            have hkb' : (k : Int) < (bl.length : Int) := by omega
            have hd256 : dd.toNat < 256 := dd.toNat_lt
            clear hcb hd hmm
            go_upto_region 14 with fail
            obtain ⟨ya, yc, w6, r6, m6⟩ := M.out.pushN (i := 0) rfl (B2.length : Int) (by omega)
            have R6 := Lib.hid r6
            have M6 := Lib.hid (show OMem u2 w6 [.row 3 1 (.slice ya (ks.length + 1) yc) (ks.length + 1) (intVs (ks ++ [(B2.length : Int)]))] from m6)
            clear r6 m6
            refine wp_region_lit ?_
            refine list_ev (v := .slice pa ks.length pc) rfl (ev_move rfl rfl) ?_
            simp only [Act.put, List.setIfInBounds_toArray, List.set_cons_zero, List.set_cons_succ]
            refine list_ev (v := .string (bs B2)) rfl (ev_move rfl rfl) ?_
            simp only [Act.put, List.setIfInBounds_toArray, List.set_cons_zero, List.set_cons_succ]
            refine list_ev (v := .int .i64 (B2.length : Int)) rfl (by go_simp) ?_
            simp only [Act.put, List.setIfInBounds_toArray, List.set_cons_zero, List.set_cons_succ]
            refine list_evw (v := .slice (some ⟨wr.heap.size, 0, none⟩) 1 1) (w' := wr.alloc (.cells #[.int .i64 (B2.length : Int)] 3)) rfl (by go_simp; try rfl) ?_
            simp only [Act.put, List.setIfInBounds_toArray, List.set_cons_zero, List.set_cons_succ]
            refine Lib.wpList_append_run _ rfl _ _ _ _ rfl _ _ rfl rfl _ _ R6.out ?_
            simp only [Act.put, List.setIfInBounds_toArray, List.set_cons_zero, List.set_cons_succ]
            refine list_ev (v := .slice ya (ks.length + 1) yc) rfl (ev_assign rfl rfl) ?_
            simp only [Act.put, List.setIfInBounds_toArray, List.set_cons_zero, List.set_cons_succ]
            clear R6
            have M7 := M6.out.below
            obtain ⟨tb2, off2, cap2, hh2, _, hc2⟩ := (HT6.out.keep M7).form (by omega)
            cases hh2
            obtain ⟨-, q2, -, -⟩ := hc2 k t HTT.out
            clear hc2 M7
            go_wp2
            go_roundw
            case rel => exact ⟨k + 1, ks ++ [(B2.length : Int)], ya, yc, by omega, by go_num, by rw [HB3.out], by simp, Lib.hid (by rw [HPN.out]; congr 2; omega), by simpa using M6.out⟩
            case measure => simp [intOf]; omega
          · have hkb' : ¬ (k : Int) < (bl.length : Int) := by omega
            have hPn : P = [] := by rw [HP.out, pad_off hkb]
            have hB12 : B2 = B1 := by
              have h := e2
              rw [hPn] at h
              exact bs_inj (by rw [← h, bs_append, List.append_nil])
            subst hB12
            go_upto_region 14 with fail
            obtain ⟨ya, yc, w6, r6, m6⟩ := M.out.pushN (i := 0) rfl (B2.length : Int) (by omega)
            have R6 := Lib.hid r6
            have M6 := Lib.hid (show OMem u2 w6 [.row 3 1 (.slice ya (ks.length + 1) yc) (ks.length + 1) (intVs (ks ++ [(B2.length : Int)]))] from m6)
            clear r6 m6
            refine wp_region_lit ?_
            refine list_ev (v := .slice pa ks.length pc) rfl (ev_move rfl rfl) ?_
            simp only [Act.put, List.setIfInBounds_toArray, List.set_cons_zero, List.set_cons_succ]
            refine list_ev (v := .string (bs B2)) rfl (ev_move rfl rfl) ?_
            simp only [Act.put, List.setIfInBounds_toArray, List.set_cons_zero, List.set_cons_succ]
            refine list_ev (v := .int .i64 (B2.length : Int)) rfl (by go_simp) ?_
            simp only [Act.put, List.setIfInBounds_toArray, List.set_cons_zero, List.set_cons_succ]
            refine list_evw (v := .slice (some ⟨wr.heap.size, 0, none⟩) 1 1) (w' := wr.alloc (.cells #[.int .i64 (B2.length : Int)] 3)) rfl (by go_simp; try rfl) ?_
            simp only [Act.put, List.setIfInBounds_toArray, List.set_cons_zero, List.set_cons_succ]
            refine Lib.wpList_append_run _ rfl _ _ _ _ rfl _ _ rfl rfl _ _ R6.out ?_
            simp only [Act.put, List.setIfInBounds_toArray, List.set_cons_zero, List.set_cons_succ]
            refine list_ev (v := .slice ya (ks.length + 1) yc) rfl (ev_assign rfl rfl) ?_
            simp only [Act.put, List.setIfInBounds_toArray, List.set_cons_zero, List.set_cons_succ]
            clear R6
            have M7 := M6.out.below
            obtain ⟨tb2, off2, cap2, hh2, _, hc2⟩ := (HT6.out.keep M7).form (by omega)
            cases hh2
            obtain ⟨-, q2, -, -⟩ := hc2 k t HTT.out
            clear hc2 M7
            go_wp2
            go_roundw
            case rel => exact ⟨k + 1, ks ++ [(B2.length : Int)], ya, yc, by omega, by go_num, by rw [HB3.out], by simp, Lib.hid (by rw [HPN.out]; congr 2; omega), by simpa using M6.out⟩
            case measure => simp [intOf]; omega
        · obtain rfl : ts.length = k := by omega
          rw [List.take_length] at HK ⊢
          obtain ⟨T, hT⟩ : ∃ q, q = spr (padOf bl) 0 ts := ⟨_, rfl⟩
          have hTl : T.length ≤ 8000 := by have := HSB.out ts.length; rw [List.take_length] at this; rw [hT]; exact this
          rw [← hT]
          have zT := bs_size T
          have HN := Lib.hid (show NumsAt wr (.slice pa ks.length pc) ks from NumsAt.of_own (M.out.rowAt (i := 0) rfl))
          replace HE := Lib.hid (A.keep HE.out M.out.below)
          replace HT6 := Lib.hid (HT6.out.keep M.out.below)
          replace HB := Lib.hid (HB.out.trans (M.out.below.mono HB.out.size))
          have hxx := HX.out
          have hks : ks.length = ts.length := by rw [HK.out, places_length]
          clear M HSB hk hlt
          by_cases hbig : 2000 < T.length
          · clear hT hxx
            have hbig' : (2000 : Int) < (T.length : Int) := by omega
            obtain ⟨⟨pf, pi, pe⟩, hp⟩ : ∃ v, parseS s = v := ⟨_, rfl⟩
            obtain ⟨⟨qf, qi, qe⟩, hq⟩ : ∃ v, parseS T = v := ⟨_, rfl⟩
            go_upto_region 16 with fail
            refine wp_region_lit ?_
            refine list_ev (v := .string (bs s)) rfl (ev_move rfl rfl) ?_
            simp only [Act.put, List.setIfInBounds_toArray, List.set_cons_zero, List.set_cons_succ]
            refine list_callP rfl (ev_call1 rfl (enters_of Tryd.func11 (by kernel_rfl) rfl)) (A.parse_eq hp HE.out (by omega)) ?_
            rintro e3 u3 ⟨c12, rfl, p12, b3⟩
            refine ⟨_, rfl, ?_⟩
            replace HE := Lib.hid (A.keep HE.out b3)
            replace HB := Lib.hid (HB.out.trans (b3.mono HB.out.size))
            replace HT6 := Lib.hid (HT6.out.keep b3)
            replace HN := Lib.hid (HN.out.keep b3)
            clear b3
            simp only [Act.put, List.setIfInBounds_toArray, List.set_cons_zero, List.set_cons_succ]
            refine list_ev (v := .tuple #[.agg c12, .int .i64 pi, .int .i64 pe]) rfl (ev_move rfl rfl) ?_
            simp only [Act.put, List.setIfInBounds_toArray, List.set_cons_zero, List.set_cons_succ]
            refine list_ev (v := .agg c12) rfl (by go_simp) ?_
            simp only [Act.put, List.setIfInBounds_toArray, List.set_cons_zero, List.set_cons_succ]
            refine list_ev (v := .int .i64 pi) rfl (by go_simp) ?_
            simp only [Act.put, List.setIfInBounds_toArray, List.set_cons_zero, List.set_cons_succ]
            refine list_ev (v := .int .i64 pe) rfl (by go_simp) ?_
            simp only [Act.put, List.setIfInBounds_toArray, List.set_cons_zero, List.set_cons_succ]
            refine list_new p12 (by simp) (by decide) rfl ?_
            simp only [Act.put, List.setIfInBounds_toArray, List.set_cons_zero, List.set_cons_succ]
            have K12 := Lib.hid (Box.new p12)
            have b4 : Below u3.heap.size u3 (u3.alloc (.cells c12 24)) := (Below.refl _ _).alloc (Nat.le_refl _) _
            replace HE := Lib.hid (A.keep HE.out b4)
            replace HB := Lib.hid (HB.out.trans (b4.mono HB.out.size))
            replace HT6 := Lib.hid (HT6.out.keep b4)
            replace HN := Lib.hid (HN.out.keep b4)
            clear b4
            obtain ⟨k12, hk12⟩ : ∃ q, q = u3.heap.size := ⟨_, rfl⟩
            rw [← hk12] at K12 ⊢
            clear hk12
            generalize u3.alloc (.cells c12 24) = u4 at *
            refine list_ev (v := .int .i64 pi) rfl (ev_assign rfl rfl) ?_
            simp only [Act.put, List.setIfInBounds_toArray, List.set_cons_zero, List.set_cons_succ]
            refine list_ev (v := .int .i64 pe) rfl (ev_assign rfl rfl) ?_
            simp only [Act.put, List.setIfInBounds_toArray, List.set_cons_zero, List.set_cons_succ]
            go_upto_region 17 with fail
            refine wp_region_lit ?_
            refine list_ev (v := .string (bs T)) rfl (ev_move rfl rfl) ?_
            simp only [Act.put, List.setIfInBounds_toArray, List.set_cons_zero, List.set_cons_succ]
            refine list_callP rfl (ev_call1 rfl (enters_of Tryd.func11 (by kernel_rfl) rfl)) (A.parse_eq hq HE.out (by omega)) ?_
            rintro e5 u5 ⟨c15, rfl, p15, b5⟩
            refine ⟨_, rfl, ?_⟩
            replace K12 := Lib.hid (K12.out.keep b5)
            replace HE := Lib.hid (A.keep HE.out b5)
            replace HB := Lib.hid (HB.out.trans (b5.mono HB.out.size))
            replace HT6 := Lib.hid (HT6.out.keep b5)
            replace HN := Lib.hid (HN.out.keep b5)
            clear b5
            simp only [Act.put, List.setIfInBounds_toArray, List.set_cons_zero, List.set_cons_succ]
            refine list_ev (v := .tuple #[.agg c15, .int .i64 qi, .int .i64 qe]) rfl (ev_move rfl rfl) ?_
            simp only [Act.put, List.setIfInBounds_toArray, List.set_cons_zero, List.set_cons_succ]
            refine list_ev (v := .agg c15) rfl (by go_simp) ?_
            simp only [Act.put, List.setIfInBounds_toArray, List.set_cons_zero, List.set_cons_succ]
            refine list_ev (v := .int .i64 qi) rfl (by go_simp) ?_
            simp only [Act.put, List.setIfInBounds_toArray, List.set_cons_zero, List.set_cons_succ]
            refine list_ev (v := .int .i64 qe) rfl (by go_simp) ?_
            simp only [Act.put, List.setIfInBounds_toArray, List.set_cons_zero, List.set_cons_succ]
            refine list_new p15 (by simp) (by decide) rfl ?_
            simp only [Act.put, List.setIfInBounds_toArray, List.set_cons_zero, List.set_cons_succ]
            have K15 := Lib.hid (Box.new p15)
            have b6 : Below u5.heap.size u5 (u5.alloc (.cells c15 24)) := (Below.refl _ _).alloc (Nat.le_refl _) _
            replace K12 := Lib.hid (K12.out.keep b6)
            replace HE := Lib.hid (A.keep HE.out b6)
            replace HB := Lib.hid (HB.out.trans (b6.mono HB.out.size))
            replace HT6 := Lib.hid (HT6.out.keep b6)
            replace HN := Lib.hid (HN.out.keep b6)
            clear b6
            obtain ⟨k15, hk15⟩ : ∃ q, q = u5.heap.size := ⟨_, rfl⟩
            rw [← hk15] at K15 ⊢
            clear hk15
            generalize u5.alloc (.cells c15 24) = u6 at *
            refine list_ev (v := .int .i64 qi) rfl (ev_assign rfl rfl) ?_
            simp only [Act.put, List.setIfInBounds_toArray, List.set_cons_zero, List.set_cons_succ]
            refine list_ev (v := .int .i64 qe) rfl (ev_assign rfl rfl) ?_
            simp only [Act.put, List.setIfInBounds_toArray, List.set_cons_zero, List.set_cons_succ]
            go_upto_region 18 with fail
            refine wp_region_lit ?_
            refine list_ev (v := .string (bs T)) rfl (ev_move rfl rfl) ?_
            simp only [Act.put, List.setIfInBounds_toArray, List.set_cons_zero, List.set_cons_succ]
            refine list_ev (v := .int .i64 (T.length : Int)) rfl (by go_simp) ?_
            simp only [Act.put, List.setIfInBounds_toArray, List.set_cons_zero, List.set_cons_succ]
            refine list_ev (v := .bool true) rfl (by go_simp) ?_
            simp only [Act.put, List.setIfInBounds_toArray, List.set_cons_zero, List.set_cons_succ]
            go_wp2
            go_ret
            exact ⟨rfl, HB.out⟩
          · have hbig' : ¬ (2000 : Int) < (T.length : Int) := by omega
            have hbc := blanks_cases (pd := padOf bl) hsl (pad_blank bl) hxx (by rw [← hT]; omega)
            rw [← hT, ← HK.out] at hbc
            clear hxx hT
            rcases hbc with ⟨p, hp, hq⟩ | ⟨kk, z, e, th, hne, hp, hq, hkz, hbef, hpl⟩
            · have hfp : fewP p = true := by
                rcases parseS_cases s (by omega) with ⟨q, g1, g2⟩ | ⟨i', e', g1, g2, _⟩
                · rw [g1] at hp; cases hp; exact few_of g2
                · rw [g1] at hp; cases hp; exact few_zero
              go_upto_region 16 with fail
              refine wp_region_lit ?_
              refine list_ev (v := .string (bs s)) rfl (ev_move rfl rfl) ?_
              simp only [Act.put, List.setIfInBounds_toArray, List.set_cons_zero, List.set_cons_succ]
              refine list_callP rfl (ev_call1 rfl (enters_of Tryd.func11 (by kernel_rfl) rfl)) (A.parse_eq hp HE.out (by omega)) ?_
              rintro e3 u3 ⟨c12, rfl, p12, b3⟩
              refine ⟨_, rfl, ?_⟩
              replace HE := Lib.hid (A.keep HE.out b3)
              replace HB := Lib.hid (HB.out.trans (b3.mono HB.out.size))
              replace HT6 := Lib.hid (HT6.out.keep b3)
              replace HN := Lib.hid (HN.out.keep b3)
              clear b3
              simp only [Act.put, List.setIfInBounds_toArray, List.set_cons_zero, List.set_cons_succ]
              refine list_ev (v := .tuple #[.agg c12, .int .i64 0, .int .i64 0]) rfl (ev_move rfl rfl) ?_
              simp only [Act.put, List.setIfInBounds_toArray, List.set_cons_zero, List.set_cons_succ]
              refine list_ev (v := .agg c12) rfl (by go_simp) ?_
              simp only [Act.put, List.setIfInBounds_toArray, List.set_cons_zero, List.set_cons_succ]
              refine list_ev (v := .int .i64 0) rfl (by go_simp) ?_
              simp only [Act.put, List.setIfInBounds_toArray, List.set_cons_zero, List.set_cons_succ]
              refine list_ev (v := .int .i64 0) rfl (by go_simp) ?_
              simp only [Act.put, List.setIfInBounds_toArray, List.set_cons_zero, List.set_cons_succ]
              refine list_new p12 (by simp) (by decide) rfl ?_
              simp only [Act.put, List.setIfInBounds_toArray, List.set_cons_zero, List.set_cons_succ]
              have K12 := Lib.hid (Box.new p12)
              have b4 : Below u3.heap.size u3 (u3.alloc (.cells c12 24)) := (Below.refl _ _).alloc (Nat.le_refl _) _
              replace HE := Lib.hid (A.keep HE.out b4)
              replace HB := Lib.hid (HB.out.trans (b4.mono HB.out.size))
              replace HT6 := Lib.hid (HT6.out.keep b4)
              replace HN := Lib.hid (HN.out.keep b4)
              clear b4
              obtain ⟨k12, hk12⟩ : ∃ q, q = u3.heap.size := ⟨_, rfl⟩
              rw [← hk12] at K12 ⊢
              clear hk12
              generalize u3.alloc (.cells c12 24) = u4 at *
              refine list_ev (v := .int .i64 0) rfl (ev_assign rfl rfl) ?_
              simp only [Act.put, List.setIfInBounds_toArray, List.set_cons_zero, List.set_cons_succ]
              refine list_ev (v := .int .i64 0) rfl (ev_assign rfl rfl) ?_
              simp only [Act.put, List.setIfInBounds_toArray, List.set_cons_zero, List.set_cons_succ]
              go_upto_region 17 with fail
              refine wp_region_lit ?_
              refine list_ev (v := .string (bs T)) rfl (ev_move rfl rfl) ?_
              simp only [Act.put, List.setIfInBounds_toArray, List.set_cons_zero, List.set_cons_succ]
              refine list_callP rfl (ev_call1 rfl (enters_of Tryd.func11 (by kernel_rfl) rfl)) (A.parse_eq hq HE.out (by omega)) ?_
              rintro e5 u5 ⟨c15, rfl, p15, b5⟩
              refine ⟨_, rfl, ?_⟩
              replace K12 := Lib.hid (K12.out.keep b5)
              replace HE := Lib.hid (A.keep HE.out b5)
              replace HB := Lib.hid (HB.out.trans (b5.mono HB.out.size))
              replace HT6 := Lib.hid (HT6.out.keep b5)
              replace HN := Lib.hid (HN.out.keep b5)
              clear b5
              simp only [Act.put, List.setIfInBounds_toArray, List.set_cons_zero, List.set_cons_succ]
              refine list_ev (v := .tuple #[.agg c15, .int .i64 0, .int .i64 0]) rfl (ev_move rfl rfl) ?_
              simp only [Act.put, List.setIfInBounds_toArray, List.set_cons_zero, List.set_cons_succ]
              refine list_ev (v := .agg c15) rfl (by go_simp) ?_
              simp only [Act.put, List.setIfInBounds_toArray, List.set_cons_zero, List.set_cons_succ]
              refine list_ev (v := .int .i64 0) rfl (by go_simp) ?_
              simp only [Act.put, List.setIfInBounds_toArray, List.set_cons_zero, List.set_cons_succ]
              refine list_ev (v := .int .i64 0) rfl (by go_simp) ?_
              simp only [Act.put, List.setIfInBounds_toArray, List.set_cons_zero, List.set_cons_succ]
              refine list_new p15 (by simp) (by decide) rfl ?_
              simp only [Act.put, List.setIfInBounds_toArray, List.set_cons_zero, List.set_cons_succ]
              have K15 := Lib.hid (Box.new p15)
              have b6 : Below u5.heap.size u5 (u5.alloc (.cells c15 24)) := (Below.refl _ _).alloc (Nat.le_refl _) _
              replace K12 := Lib.hid (K12.out.keep b6)
              replace HE := Lib.hid (A.keep HE.out b6)
              replace HB := Lib.hid (HB.out.trans (b6.mono HB.out.size))
              replace HT6 := Lib.hid (HT6.out.keep b6)
              replace HN := Lib.hid (HN.out.keep b6)
              clear b6
              obtain ⟨k15, hk15⟩ : ∃ q, q = u5.heap.size := ⟨_, rfl⟩
              rw [← hk15] at K15 ⊢
              clear hk15
              generalize u5.alloc (.cells c15 24) = u6 at *
              refine list_ev (v := .int .i64 0) rfl (ev_assign rfl rfl) ?_
              simp only [Act.put, List.setIfInBounds_toArray, List.set_cons_zero, List.set_cons_succ]
              refine list_ev (v := .int .i64 0) rfl (ev_assign rfl rfl) ?_
              simp only [Act.put, List.setIfInBounds_toArray, List.set_cons_zero, List.set_cons_succ]
              go_upto_region 18 with fail
              refine wp_region_lit ?_
              refine list_ev (v := .string (bs T)) rfl (ev_move rfl rfl) ?_
              simp only [Act.put, List.setIfInBounds_toArray, List.set_cons_zero, List.set_cons_succ]
              refine list_ev (v := .int .i64 (T.length : Int)) rfl (by go_simp) ?_
              simp only [Act.put, List.setIfInBounds_toArray, List.set_cons_zero, List.set_cons_succ]
              refine list_ev (v := .bool false) rfl (by go_simp) ?_
              simp only [Act.put, List.setIfInBounds_toArray, List.set_cons_zero, List.set_cons_succ]
              go_upto_region 20 with fail
              refine wp_region_lit ?_
              refine list_ev (v := .int .i64 0) rfl (ev_move rfl rfl) ?_
              simp only [Act.put, List.setIfInBounds_toArray, List.set_cons_zero, List.set_cons_succ]
              refine list_ev (v := .int .i64 0) rfl (ev_move rfl rfl) ?_
              simp only [Act.put, List.setIfInBounds_toArray, List.set_cons_zero, List.set_cons_succ]
              refine list_ev (v := .bool false) rfl (by go_simp) ?_
              simp only [Act.put, List.setIfInBounds_toArray, List.set_cons_zero, List.set_cons_succ]
              refine list_ev (v := .bool false) rfl (ev_move rfl rfl) ?_
              simp only [Act.put, List.setIfInBounds_toArray, List.set_cons_zero, List.set_cons_succ]
              refine list_ev (v := .agg c12) ((Ch.want_at rfl rfl rfl).trans rfl) (K12.out.load rfl rfl) ?_
              simp only [Act.put, List.setIfInBounds_toArray, List.set_cons_zero, List.set_cons_succ]
              refine list_ev (v := .agg c15) ((Ch.want_at rfl rfl rfl).trans rfl) (K15.out.load rfl rfl) ?_
              simp only [Act.put, List.setIfInBounds_toArray, List.set_cons_zero, List.set_cons_succ]
              refine list_callP ((Ch.want_at rfl rfl rfl).trans rfl) (ev_call2 rfl rfl (enters_of Tryd.func12 (by kernel_rfl) rfl)) (q_same (decide_eq_true rfl) K12.out.pf K15.out.pf hfp) ?_
              rintro e7 u7 ⟨rfl, b7⟩
              refine ⟨_, rfl, ?_⟩
              replace K12 := Lib.hid (K12.out.keep b7)
              replace K15 := Lib.hid (K15.out.keep b7)
              replace HE := Lib.hid (A.keep HE.out b7)
              replace HB := Lib.hid (HB.out.trans (b7.mono HB.out.size))
              replace HT6 := Lib.hid (HT6.out.keep b7)
              replace HN := Lib.hid (HN.out.keep b7)
              clear b7
              simp only [Act.put, List.setIfInBounds_toArray, List.set_cons_zero, List.set_cons_succ]
              refine list_ev (v := .bool false) ((Ch.want_at rfl rfl rfl).trans rfl) (by go_simp) ?_
              simp only [Act.put, List.setIfInBounds_toArray, List.set_cons_zero, List.set_cons_succ]
              refine list_ev (v := .bool false) rfl (by go_simp) ?_
              simp only [Act.put, List.setIfInBounds_toArray, List.set_cons_zero, List.set_cons_succ]
              go_upto_region 22 with fail
              refine wp_region_lit ?_
              refine list_ev (v := .int .i64 0) rfl (ev_move rfl rfl) ?_
              simp only [Act.put, List.setIfInBounds_toArray, List.set_cons_zero, List.set_cons_succ]
              refine list_ev (v := .bool true) rfl (by go_simp) ?_
              simp only [Act.put, List.setIfInBounds_toArray, List.set_cons_zero, List.set_cons_succ]
              go_wp2
              go_ret
              exact ⟨rfl, HB.out⟩
            · have hkl : kk < ts.length := (List.getElem?_eq_some_iff.1 hkz).1
              have HKZ := Lib.hid hkz
              have HBEF := Lib.hid hbef
              have HPL := Lib.hid hpl
              have hneb : (e == 0) = false := by simpa using hne
              clear hkz hbef hpl hne
              go_upto_region 16 with fail
              refine wp_region_lit ?_
              refine list_ev (v := .string (bs s)) rfl (ev_move rfl rfl) ?_
              simp only [Act.put, List.setIfInBounds_toArray, List.set_cons_zero, List.set_cons_succ]
              refine list_callP rfl (ev_call1 rfl (enters_of Tryd.func11 (by kernel_rfl) rfl)) (A.parse_eq hp HE.out (by omega)) ?_
              rintro e3 u3 ⟨c12, rfl, p12, b3⟩
              refine ⟨_, rfl, ?_⟩
              replace HE := Lib.hid (A.keep HE.out b3)
              replace HB := Lib.hid (HB.out.trans (b3.mono HB.out.size))
              replace HT6 := Lib.hid (HT6.out.keep b3)
              replace HN := Lib.hid (HN.out.keep b3)
              clear b3
              simp only [Act.put, List.setIfInBounds_toArray, List.set_cons_zero, List.set_cons_succ]
              refine list_ev (v := .tuple #[.agg c12, .int .i64 z.pos, .int .i64 e]) rfl (ev_move rfl rfl) ?_
              simp only [Act.put, List.setIfInBounds_toArray, List.set_cons_zero, List.set_cons_succ]
              refine list_ev (v := .agg c12) rfl (by go_simp) ?_
              simp only [Act.put, List.setIfInBounds_toArray, List.set_cons_zero, List.set_cons_succ]
              refine list_ev (v := .int .i64 z.pos) rfl (by go_simp) ?_
              simp only [Act.put, List.setIfInBounds_toArray, List.set_cons_zero, List.set_cons_succ]
              refine list_ev (v := .int .i64 e) rfl (by go_simp) ?_
              simp only [Act.put, List.setIfInBounds_toArray, List.set_cons_zero, List.set_cons_succ]
              refine list_new p12 (by simp) (by decide) rfl ?_
              simp only [Act.put, List.setIfInBounds_toArray, List.set_cons_zero, List.set_cons_succ]
              have K12 := Lib.hid (Box.new p12)
              have b4 : Below u3.heap.size u3 (u3.alloc (.cells c12 24)) := (Below.refl _ _).alloc (Nat.le_refl _) _
              replace HE := Lib.hid (A.keep HE.out b4)
              replace HB := Lib.hid (HB.out.trans (b4.mono HB.out.size))
              replace HT6 := Lib.hid (HT6.out.keep b4)
              replace HN := Lib.hid (HN.out.keep b4)
              clear b4
              obtain ⟨k12, hk12⟩ : ∃ q, q = u3.heap.size := ⟨_, rfl⟩
              rw [← hk12] at K12 ⊢
              clear hk12
              generalize u3.alloc (.cells c12 24) = u4 at *
              refine list_ev (v := .int .i64 z.pos) rfl (ev_assign rfl rfl) ?_
              simp only [Act.put, List.setIfInBounds_toArray, List.set_cons_zero, List.set_cons_succ]
              refine list_ev (v := .int .i64 e) rfl (ev_assign rfl rfl) ?_
              simp only [Act.put, List.setIfInBounds_toArray, List.set_cons_zero, List.set_cons_succ]
              go_upto_region 17 with fail
              refine wp_region_lit ?_
              refine list_ev (v := .string (bs T)) rfl (ev_move rfl rfl) ?_
              simp only [Act.put, List.setIfInBounds_toArray, List.set_cons_zero, List.set_cons_succ]
              refine list_callP rfl (ev_call1 rfl (enters_of Tryd.func11 (by kernel_rfl) rfl)) (A.parse_eq hq HE.out (by omega)) ?_
              rintro e5 u5 ⟨c15, rfl, p15, b5⟩
              refine ⟨_, rfl, ?_⟩
              replace K12 := Lib.hid (K12.out.keep b5)
              replace HE := Lib.hid (A.keep HE.out b5)
              replace HB := Lib.hid (HB.out.trans (b5.mono HB.out.size))
              replace HT6 := Lib.hid (HT6.out.keep b5)
              replace HN := Lib.hid (HN.out.keep b5)
              clear b5
              simp only [Act.put, List.setIfInBounds_toArray, List.set_cons_zero, List.set_cons_succ]
              refine list_ev (v := .tuple #[.agg c15, .int .i64 th, .int .i64 e]) rfl (ev_move rfl rfl) ?_
              simp only [Act.put, List.setIfInBounds_toArray, List.set_cons_zero, List.set_cons_succ]
              refine list_ev (v := .agg c15) rfl (by go_simp) ?_
              simp only [Act.put, List.setIfInBounds_toArray, List.set_cons_zero, List.set_cons_succ]
              refine list_ev (v := .int .i64 th) rfl (by go_simp) ?_
              simp only [Act.put, List.setIfInBounds_toArray, List.set_cons_zero, List.set_cons_succ]
              refine list_ev (v := .int .i64 e) rfl (by go_simp) ?_
              simp only [Act.put, List.setIfInBounds_toArray, List.set_cons_zero, List.set_cons_succ]
              refine list_new p15 (by simp) (by decide) rfl ?_
              simp only [Act.put, List.setIfInBounds_toArray, List.set_cons_zero, List.set_cons_succ]
              have K15 := Lib.hid (Box.new p15)
              have b6 : Below u5.heap.size u5 (u5.alloc (.cells c15 24)) := (Below.refl _ _).alloc (Nat.le_refl _) _
              replace K12 := Lib.hid (K12.out.keep b6)
              replace HE := Lib.hid (A.keep HE.out b6)
              replace HB := Lib.hid (HB.out.trans (b6.mono HB.out.size))
              replace HT6 := Lib.hid (HT6.out.keep b6)
              replace HN := Lib.hid (HN.out.keep b6)
              clear b6
              obtain ⟨k15, hk15⟩ : ∃ q, q = u5.heap.size := ⟨_, rfl⟩
              rw [← hk15] at K15 ⊢
              clear hk15
              generalize u5.alloc (.cells c15 24) = u6 at *
              refine list_ev (v := .int .i64 th) rfl (ev_assign rfl rfl) ?_
              simp only [Act.put, List.setIfInBounds_toArray, List.set_cons_zero, List.set_cons_succ]
              refine list_ev (v := .int .i64 e) rfl (ev_assign rfl rfl) ?_
              simp only [Act.put, List.setIfInBounds_toArray, List.set_cons_zero, List.set_cons_succ]
              go_upto_region 18 with fail
              refine wp_region_lit ?_
              refine list_ev (v := .string (bs T)) rfl (ev_move rfl rfl) ?_
              simp only [Act.put, List.setIfInBounds_toArray, List.set_cons_zero, List.set_cons_succ]
              refine list_ev (v := .int .i64 (T.length : Int)) rfl (by go_simp) ?_
              simp only [Act.put, List.setIfInBounds_toArray, List.set_cons_zero, List.set_cons_succ]
              refine list_ev (v := .bool false) rfl (by go_simp) ?_
              simp only [Act.put, List.setIfInBounds_toArray, List.set_cons_zero, List.set_cons_succ]
              go_upto_region 20 with fail
              refine wp_region_lit ?_
              refine list_ev (v := .int .i64 e) rfl (ev_move rfl rfl) ?_
              simp only [Act.put, List.setIfInBounds_toArray, List.set_cons_zero, List.set_cons_succ]
              refine list_ev (v := .int .i64 e) rfl (ev_move rfl rfl) ?_
              simp only [Act.put, List.setIfInBounds_toArray, List.set_cons_zero, List.set_cons_succ]
              refine list_ev (v := .bool false) rfl (by go_simp) ?_
              simp only [Act.put, List.setIfInBounds_toArray, List.set_cons_zero, List.set_cons_succ]
              refine list_ev (v := .bool false) rfl (ev_move rfl rfl) ?_
              simp only [Act.put, List.setIfInBounds_toArray, List.set_cons_zero, List.set_cons_succ]
              refine list_ev (v := .agg c12) ((Ch.want_at rfl rfl rfl).trans rfl) (K12.out.load rfl rfl) ?_
              simp only [Act.put, List.setIfInBounds_toArray, List.set_cons_zero, List.set_cons_succ]
              refine list_ev (v := .agg c15) ((Ch.want_at rfl rfl rfl).trans rfl) (K15.out.load rfl rfl) ?_
              simp only [Act.put, List.setIfInBounds_toArray, List.set_cons_zero, List.set_cons_succ]
              refine list_callP ((Ch.want_at rfl rfl rfl).trans rfl) (ev_call2 rfl rfl (enters_of Tryd.func12 (by kernel_rfl) rfl)) (q_same (decide_eq_true rfl) K12.out.pf K15.out.pf few_zero) ?_
              rintro e7 u7 ⟨rfl, b7⟩
              refine ⟨_, rfl, ?_⟩
              replace K12 := Lib.hid (K12.out.keep b7)
              replace K15 := Lib.hid (K15.out.keep b7)
              replace HE := Lib.hid (A.keep HE.out b7)
              replace HB := Lib.hid (HB.out.trans (b7.mono HB.out.size))
              replace HT6 := Lib.hid (HT6.out.keep b7)
              replace HN := Lib.hid (HN.out.keep b7)
              clear b7
              simp only [Act.put, List.setIfInBounds_toArray, List.set_cons_zero, List.set_cons_succ]
              refine list_ev (v := .bool false) ((Ch.want_at rfl rfl rfl).trans rfl) (by go_simp) ?_
              simp only [Act.put, List.setIfInBounds_toArray, List.set_cons_zero, List.set_cons_succ]
              refine list_ev (v := .bool false) rfl (by go_simp) ?_
              simp only [Act.put, List.setIfInBounds_toArray, List.set_cons_zero, List.set_cons_succ]
              go_upto_region 22 with fail
              refine wp_region_lit ?_
              refine list_ev (v := .int .i64 e) rfl (ev_move rfl rfl) ?_
              simp only [Act.put, List.setIfInBounds_toArray, List.set_cons_zero, List.set_cons_succ]
              refine list_ev (v := .bool false) rfl (by go_simp) ?_
              simp only [Act.put, List.setIfInBounds_toArray, List.set_cons_zero, List.set_cons_succ]
              clear hneb hp hq
              go_wp2
              go_loopw [18] (fun i wr => ∃ j : Nat, j ≤ kk ∧ i = .int .i64 j ∧ u7 = wr) (fun i _ => ts.length - (intOf i).toNat)
              case atStart => exact ⟨0, Nat.zero_le _, rfl, rfl⟩
              case round =>
                obtain ⟨j, hj, rfl, rfl⟩ := hrel
                obtain ⟨tb, off, cap, hh, _, hc⟩ := HT6.out.form (by omega)
                cases hh
                by_cases hlt : j < kk
                · obtain ⟨t, ht⟩ : ∃ t, ts[j]? = some t := ⟨_, List.getElem?_eq_getElem (by omega)⟩
                  obtain ⟨-, -, -, q3⟩ := hc j t ht
                  have hpn : (t.pos == z.pos) = false := by simpa using HBEF.out j t hlt ht
                  have hjl : (j : Int) < (ts.length : Int) := by omega
                  clear hc ht
                  go_wp2
                  go_roundw
                  case rel => exact ⟨j + 1, by omega, by go_num, by trivial⟩
                  case measure => simp [intOf]; omega
                · obtain rfl : kk = j := by omega
                  obtain ⟨-, -, -, q3⟩ := hc kk z HKZ.out
                  obtain ⟨nb, no, nc, hh2, _, hc2⟩ := HN.out.form (by omega)
                  cases hh2
                  have q4 := hc2 kk th HPL.out
                  have hkl' : (kk : Int) < (ts.length : Int) := by omega
                  have hkl2 : (kk : Int) < (ks.length : Int) := by omega
                  clear hc hc2 hlt hj
                  go_wp2
                  go_ret
                  exact ⟨rfl, HB.out⟩
end
end Go.Proofs.YtlefgffnjcmfoaaDoor
