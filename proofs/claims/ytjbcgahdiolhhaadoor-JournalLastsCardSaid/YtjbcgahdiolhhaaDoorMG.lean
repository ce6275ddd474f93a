/- JournalLasts, walked. -/
import Derived.Test.YtjbcgahdiolhhaaDoorMF
import Derived.Test.YtjbcgahdiolhhaaDoorME
import Derived.Deep.CutRange
import Derived.Deep.RegionLaw
import Derived.Deep.RegionHeld3
namespace Go.Proofs.YtjbcgahdiolhhaaDoor.D2
open Go.RowKit Go.Maps Go.ChangeMaps Go.MapKept
open Dp Jp
attribute [local go_sem ↓] Go.wp_at_zero Go.wp_at_succ

section
variable {w : World} {a a1 : Option Addr} {xs : List Op1} {ks : List Int}
def ljobs (d : Nat) (D : Dk) (va vs : Value) (all sure : List (List UInt8)) : Option (Nat × Jn) → List Ob
  | none => [.disk d D, .pair va vs all sure]
  | some (b, J) => [.disk d D, .pair va vs all sure, .jour b d J]
theorem ljobs_take {w0 w : World} {d : Nat} {D : Dk} {va vs : Value} {all sure : List (List UInt8)} {jx : Option (Nat × Jn)} (h : OMem w0 w (ljobs d D va vs all sure jx)) : OMem w0 w [.disk d D, .pair va vs all sure] := by
  cases jx with
  | none => exact h
  | some p => exact h.take 2
theorem ljobs_get {d : Nat} {D : Dk} {va vs : Value} {all sure : List (List UInt8)} {jx : Option (Nat × Jn)} : (ljobs d D va vs all sure jx)[0]? = some (.disk d D) := by cases jx <;> rfl
theorem ljobs_set {d : Nat} {D D' : Dk} {va vs : Value} {all sure : List (List UInt8)} {jx : Option (Nat × Jn)} : (ljobs d D va vs all sure jx).set 0 (.disk d D') = ljobs d D' va vs all sure jx := by cases jx <;> rfl
theorem isDisky_3 : isDisky 3 = false := by decide
theorem isDisky_6 : isDisky 6 = false := by decide
theorem isDisky_7 : isDisky 7 = false := by decide
theorem isDisky_8 : isDisky 8 = true := by decide
theorem isDisky_9 : isDisky 9 = true := by decide
theorem nums_fresh {w0 w w' : World} {v : Value} {ks : List Int} (h : Nums w0 w v ks) (hb : Below w.heap.size w w') : Nums w0 w' v ks := ⟨src_keep h.1 hb, h.2⟩
theorem nums_nil (w0 w : World) : Nums w0 w (.slice none 0 0) [] := ⟨⟨rfl, .inl ⟨rfl, rfl⟩⟩, by simp, fun ad n c hv hn => by cases hv⟩
set_option maxHeartbeats 2000000 in
set_option maxRecDepth 100000 in
theorem jlasts_out (cap c2 : Nat) (ho : OArgs w a xs) (hl : xs.length ≤ 9223372036854775807) (hk : ks.length ≤ 9223372036854775807) (hb : fewO xs = false ∨ 50 < ks.length) (he : Env w) :
    Calls Tryd.prog 3 #[.slice a xs.length cap, .slice a1 ks.length c2] w fun e w' => e = .returned (.bool true) ∧ Below w.heap.size w w' := by
  have HO := Lib.hid ho
  obtain ⟨r, hr⟩ : ∃ r, fewO xs = r := ⟨_, rfl⟩
  rw [hr] at hb
  have HR := Lib.hid hr
  clear ho hr
  have hb : r = false ∨ (r = true ∧ 50 < ks.length) := by
    cases r <;> simp_all
  rcases hb with h | ⟨h, h2⟩
  all_goals
    subst h
    go_enter Tryd.func3, Tryd.ntmps3
    go_wp2_with (go_at_call 7; refine (small_any _ he).mono ?_; rintro e w1 ⟨rfl, b1⟩; refine Hid.out ?_)
    refine Lib.hid ?_
    have B1 := Lib.hid b1
    have F1 := Lib.hid (few_at HO.out hl cap b1 HR.out)
    clear b1
    go_wp2_with (go_at_call 8; refine F1.out.mono ?_; rintro e w2 ⟨rfl, rfl⟩)
    go_ret
    exact ⟨rfl, B1.out⟩

set_option maxHeartbeats 16000000 in
set_option maxRecDepth 100000 in
theorem jlasts_main (cap c2 : Nat) (ho : OArgs w a xs) (hfx : fewO xs = true) (hk : Nums w w (.slice a1 ks.length c2) ks) (hkl : ks.length ≤ 50) (he : Env w) :
    Calls Tryd.prog 3 #[.slice a xs.length cap, .slice a1 ks.length c2] w fun e w' => e = .returned (.bool true) ∧ Below w.heap.size w w' := by
  obtain ⟨i0, hi, hz0, hz1, hz2⟩ := info_parts string_info
  have HFX := Lib.hid (fewO_true hfx)
  have hl25 := HFX.out.1
  have HR := Lib.hid hfx
  have HO := Lib.hid ho
  have HK := Lib.hid hk
  have HKL := Lib.hid hkl
  clear hfx ho hk
  obtain ⟨D1, p1, q1, g1, s1, _⟩ := open_quiet good_new quiet_new (f := 3) (by decide)
  have e1 : recs (new.now 3) = [] := rfl
  rw [e1] at p1 s1
  have P1 : Hid (jopen new 3 = (some [], 0, D1)) := Lib.hid p1
  have hs0 : ∀ b, Las 0 D1 (some (b, ⟨3, [], false⟩)) [] [] := fun b => ⟨Held.still g1 s1, by simp, by simp, fun b J e => by cases e; exact ⟨rfl, fun _ => ⟨q1.up, s1.now, rfl⟩⟩⟩
  have HS0 := Lib.hid hs0
  clear p1 q1 g1 s1 e1 hs0
  go_enter Tryd.func3, Tryd.ntmps3
  go_wp2_with (go_at_call 7; refine (small_any _ he).mono ?_; rintro e w1 ⟨rfl, b1⟩; refine Hid.out ?_)
  refine Lib.hid ?_
  have F1 := Lib.hid (few_at HO.out (by omega) cap b1 HR.out)
  have M0 := Lib.hid ((OMem.start w).fresh b1)
  clear b1
  go_wp2_with (first | (go_at_call 8; refine F1.out.mono ?_; rintro e w2 ⟨rfl, rfl⟩) | (go_at_call 9; refine (o_new M0.out).mono ?_; rintro e w2 ⟨d, rfl, m⟩; refine Hid.out ?_))
  refine Lib.hid ?_
  have M1 := Lib.hid (show OMem w w2 [.disk d new, .pair (.slice none 0 0) (.slice none 0 0) [] []] from m.pair_nil)
  clear m M0 F1
  go_wp2_with (go_at_call 10; refine (o_open1 (i := 0) M1.out rfl 3 ⟨by decide, by decide⟩ he P1.out).mono ?_; rintro e w3 ⟨b, rfl, m⟩; refine Hid.out ?_)
  refine Lib.hid ?_
  have M2 := Lib.hid (show OMem w w3 (ljobs d D1 (.slice none 0 0) (.slice none 0 0) [] [] (some (b, ⟨3, [], false⟩))) from m)
  have HS1 := Lib.hid (HS0.out b)
  clear m M1 HS0
  go_wp2
  go_loopw [7, 9, 10, 11] (fun jv va vs iv wr => ∃ (k : Nat) (jx : Option (Nat × Jn)) (D : Dk) (all sure : List (List UInt8)), k ≤ xs.length + 1 ∧ iv = .int .i64 (k : Int) ∧ Hid (JAt jx jv) ∧ Hid (Las k D jx all sure) ∧ Hid (OMem w wr (ljobs d D va vs all sure jx))) (fun _ _ _ iv _ => xs.length + 1 - (intOf iv).toNat)
  case atStart => exact ⟨0, _, _, _, _, Nat.zero_le _, rfl, Lib.hid (.yes b _), HS1, M2⟩
  case round =>
    clear HS1 M2 P1
    obtain ⟨k, jx, D, all, sure, hk, rfl, HJ, HS, HM⟩ := hrel
    by_cases hlt : k < xs.length
    · have hle : (k : Int) ≤ (xs.length : Int) := by omega
      have hne : ¬ k = xs.length := by omega
      obtain ⟨x, hx⟩ : ∃ x, xs[k]? = some x := ⟨_, List.getElem?_eq_getElem hlt⟩
      obtain ⟨bo, off, va, vc, rfl, hc, hn, hok⟩ := HO.out.get HM.out.below hx
      have hfx := HFX.out.2 x (List.mem_of_getElem? hx)
      obtain ⟨c0, c1, c2', c3'⟩ := hc
      have HN := Lib.hid hn
      have HOK := Lib.hid hok
      have HF1 := Lib.hid hfx
      clear hx hn hok hfx
      have hk1 : k + 1 ≤ xs.length + 1 := by omega
      have e0 := below_cell c0 (below_alloc wr (.cells #[.int .i64 4, .string ⟨#[]⟩, .int .i64 0, .slice a1 ks.length c2] 34))
      have e1 := below_cell c1 (below_alloc wr (.cells #[.int .i64 4, .string ⟨#[]⟩, .int .i64 0, .slice a1 ks.length c2] 34))
      have e2 := below_cell c2' (below_alloc wr (.cells #[.int .i64 4, .string ⟨#[]⟩, .int .i64 0, .slice a1 ks.length c2] 34))
      have e3 := below_cell c3' (below_alloc wr (.cells #[.int .i64 4, .string ⟨#[]⟩, .int .i64 0, .slice a1 ks.length c2] 34))
      clear c0 c1 c2' c3'
      have HB4 := Lib.hid (below_alloc wr (.cells #[.int .i64 x.K, .string (bs x.S), .int .i64 x.N, .slice va x.Keep.length vc] 34))
      have hcn : OCells (wr.alloc (.cells #[.int .i64 x.K, .string (bs x.S), .int .i64 x.N, .slice va x.Keep.length vc] 34)) wr.heap.size 0 x (.slice va x.Keep.length vc) := ⟨by rw [alloc_new_cell]; rfl, by rw [alloc_new_cell]; rfl, by rw [alloc_new_cell]; rfl, by rw [alloc_new_cell]; rfl⟩
      have hp4 : wr.heap.size < (wr.alloc (.cells #[.int .i64 x.K, .string (bs x.S), .int .i64 x.N, .slice va x.Keep.length vc] 34)).heap.size := by simp
      go_upto_region 20 with fail
      clear e0 e1 e2 e3
      generalize wr.alloc (.cells #[.int .i64 x.K, .string (bs x.S), .int .i64 x.N, .slice va x.Keep.length vc] 34) = w4 at HB4 hcn hp4 ⊢
      have d0 : w4.cell? ⟨wr.heap.size, 0, none⟩ = some (.int .i64 x.K) := hcn.c0
      have d1 : w4.cell? ⟨wr.heap.size, 1, none⟩ = some (.string (bs x.S)) := hcn.c1
      have d2 : w4.cell? ⟨wr.heap.size, 2, none⟩ = some (.int .i64 x.N) := hcn.c2
      have d3 : w4.cell? ⟨wr.heap.size, 3, none⟩ = some (.slice va x.Keep.length vc) := hcn.c3
      by_cases k0 : x.K = 0
      · as_aux_lemma =>
          rw [k0] at d0
          have hj := HJ.out
          cases hj with
          | no =>
            have HS2 := Lib.hid (HS.out.mono (show k ≤ k + 1 by omega))
            clear HS
            go_wp2
            go_roundw
            case rel => exact ⟨k + 1, none, D, all, sure, hk1, by go_num, HJ, HS2, Lib.hid (HM.out.fresh HB4.out)⟩
            case measure => simp [intOf]; omega
          | yes b J =>
            have M4 := Lib.hid (show OMem w w4 [.disk d D, .pair u9 u10 all sure, .jour b d J, .op wr.heap.size x (.slice va x.Keep.length vc)] from HM.out.op_new HB4.out hcn (Nat.le_refl _) hp4)
            have HLA := Lib.hid (HS.out.appended HF1.out.1)
            have hfew := HS.out.few
            clear HM HS d1 d2 d3 hcn
            go_wp2_with (go_at_call 13; refine (o_all (k := 2) M4.out rfl).mono ?_; rintro e w5 ⟨v13, rfl, m⟩; refine Hid.out ?_)
            refine Lib.hid ?_
            have M5 := Lib.hid (show OMem w w5 [.disk d D, .pair u9 u10 all sure, .jour b d J, .op wr.heap.size x (.slice va x.Keep.length vc), .own 9 v13 (strVs J.l)] from m)
            have d1 : w5.cell? ⟨wr.heap.size, 1, none⟩ = some (.string (bs x.S)) := (m.op_at (i := 3) rfl).c1
            clear m
            rcases HLA.out with ⟨D', p, hja, s⟩ | ⟨D', p, s⟩ | ⟨en, p, hee, s⟩
            · have P := Lib.hid p
              have S := Lib.hid s
              clear p s M4 HLA
              go_wp2_with (go_at_call 14; refine (o_append1 (i := 0) (k := 2) M5.out rfl rfl (by decide) x.S (M5.out.env he) P.out).mono ?_; rintro e w6 ⟨rfl, m⟩; refine Hid.out ?_)
              refine Lib.hid ?_
              have M6 := Lib.hid (show OMem w w6 [.disk d D', .pair u9 u10 all sure, .jour b d ({ J with l := J.l ++ [x.S] } : Jn), .op wr.heap.size x (.slice va x.Keep.length vc), .own 9 v13 (strVs J.l)] from m)
              clear m d1 M5
              go_wp2_with (go_at_call 13; refine (o_all (k := 2) M6.out rfl).mono ?_; rintro e w7 ⟨v15, rfl, m⟩; refine Hid.out ?_)
              refine Lib.hid ?_
              have M7 := Lib.hid (show OMem w w7 [.disk d D', .pair u9 u10 all sure, .jour b d ({ J with l := J.l ++ [x.S] } : Jn), .op wr.heap.size x (.slice va x.Keep.length vc), .own 9 v13 (strVs J.l), .own 9 v15 (strVs ({ J with l := J.l ++ [x.S] } : Jn).l)] from m)
              have d1 : w7.cell? ⟨wr.heap.size, 1, none⟩ = some (.string (bs x.S)) := (m.op_at (i := 3) rfl).c1
              have hvall := (m.pair_at (i := 1) rfl).1
              clear m M6
              go_upto_region 27 with fail
              go_cut [9] from 38 to 175 (fun v wx => wx.ownsRow 0 9 1 v (strVs (all ++ [x.S])).length (strVs (all ++ [x.S])) ∧ (∀ k, v.ownBlock = some k → w7.heap.size ≤ k) ∧ Below w7.heap.size w7 wx)
              case first =>
                as_aux_lemma =>
                  have hb0 : Below w7.heap.size w7 w7.drew := (Below.refl w7.heap.size w7).drew
                  have hbE : Below w7.heap.size w7 (w7.drew.alloc (.cells #[] 9)) := hb0.alloc (Nat.le_refl _) _
                  have hbX : Below w7.heap.size w7 (w7.drew.alloc (.cells #[.string (bs x.S)] 9)) := hb0.alloc (Nat.le_refl _) _
                  have hbB : Below w7.heap.size w7 ((w7.drew.alloc (.cells #[] 9)).alloc (.cells #[.string (bs x.S)] 9)) := hbE.alloc hbE.size _
                  have hbC : Below w7.heap.size w7 ((w7.drew.alloc (.cells #[.string (bs x.S)] 9)).alloc (.cells #[] 9)) := hbX.alloc hbX.size _
                  have hs0 : w7.drew.heap.size = w7.heap.size := rfl
                  obtain ⟨vA, wA, rA, oA, fA, bA, kA, zA⟩ := app1 (w' := (w7.drew.alloc (.cells #[] 9))) (e := w7.heap.size) hbE (World.ownsRow_made w7.drew #[] 0 (Nat.zero_le _) (by unfold maxLen; omega) (by simp)) (Nat.le_refl _) hvall (by omega)
                  obtain ⟨vB, wB, rB, oB, fB, bB, kB, zB⟩ := app1 (w' := ((w7.drew.alloc (.cells #[] 9)).alloc (.cells #[.string (bs x.S)] 9))) (e := w7.heap.size) hbB ((World.ownsRow_made w7.drew #[] 0 (Nat.zero_le _) (by unfold maxLen; omega) (by simp)).alloc _) (Nat.le_refl _) hvall (by omega)
                  obtain ⟨vC, wC, rC, oC, fC, bC, kC, zC⟩ := app1 (w' := ((w7.drew.alloc (.cells #[.string (bs x.S)] 9)).alloc (.cells #[] 9))) (e := (w7.drew.alloc (.cells #[.string (bs x.S)] 9)).heap.size) hbC (World.ownsRow_made (w7.drew.alloc (.cells #[.string (bs x.S)] 9)) #[] 0 (Nat.zero_le _) (by unfold maxLen; omega) (by simp)) (by simp) hvall (by omega)
                  obtain ⟨vA2, wA2, rA2, oA2, fA2, bA2⟩ := app2 (s := x.S) (w' := wA.alloc (.cells #[.string (bs x.S)] 9)) (q := wA.heap.size) (bA.alloc bA.size _) (oA.alloc _) fA (by rw [alloc_new_cell]; rfl) (by omega)
                  have hcB := alloc_new_cell (w7.drew.alloc (.cells #[] 9)) #[.string (bs x.S)] 9 0
                  have hcC := below_cell (alloc_new_cell w7.drew #[.string (bs x.S)] 9 0) (below_alloc (w7.drew.alloc (.cells #[.string (bs x.S)] 9)) (.cells #[] 9))
                  obtain ⟨vB2, wB2, rB2, oB2, fB2, bB2⟩ := app2 (s := x.S) (w' := wB) (q := (w7.drew.alloc (.cells #[] 9)).heap.size) bB oB fB (moved_cell (by exact hcB) (kB _ (by simp only [World.size_alloc, hs0]; omega) (by simp only [World.size_alloc, hs0]; omega))) (by omega)
                  obtain ⟨vC2, wC2, rC2, oC2, fC2, bC2⟩ := app2 (s := x.S) (w' := wC) (q := w7.drew.heap.size) bC oC fC (moved_cell (by exact hcC) (kC _ (by simp only [World.size_alloc, hs0]; omega) (by simp only [World.size_alloc, hs0]; omega))) (by omega)
                  simp only [World.size_alloc, hs0] at rB2 rC rC2
                  have S0 : w7.drew.cell? ⟨wr.heap.size, 1, none⟩ = some (.string (bs x.S)) := d1
                  have S1 : (w7.drew.alloc (.cells #[] 9)).cell? ⟨wr.heap.size, 1, none⟩ = some (.string (bs x.S)) := below_cell d1 hbE
                  have S2 : (w7.drew.alloc (.cells #[.string (bs x.S)] 9)).cell? ⟨wr.heap.size, 1, none⟩ = some (.string (bs x.S)) := below_cell d1 hbX
                  have S3 := below_cell d1 hbB
                  have S4 := below_cell d1 hbC
                  have S5 := below_cell d1 bA
                  have S6 := below_cell d1 bB
                  have S7 := below_cell d1 bC
                  have S8 := below_cell d1 (bA.alloc bA.size (.cells #[.string (bs x.S)] 9))
                  have HA1 := Lib.hid rA
                  have HB1 := Lib.hid rB
                  have HC1 := Lib.hid rC
                  have HA2 := Lib.hid rA2
                  have HB2 := Lib.hid rB2
                  have HC2 := Lib.hid rC2
                  have OA := Lib.hid (And.intro oA2 (And.intro fA2 bA2))
                  have OB := Lib.hid (And.intro oB2 (And.intro fB2 bB2))
                  have OC := Lib.hid (And.intro oC2 (And.intro fC2 bC2))
                  clear hcB hcC hs0 hb0 rA rB rC rA2 rB2 rC2 oA oB oC fA fB fC bA bB bC kA kB kC zA zB zC oA2 oB2 oC2 fA2 fB2 fC2 bA2 bB2 bC2 hbE hbX hbB hbC
                  refine region_till 6 (fun w' => w'.cell? ⟨wr.heap.size, 1, none⟩ = some (.string (bs x.S))) (by kernel_rfl) ?_
                  refine till_take 1 8 false (v := ?v1a) (by kernel_rfl) (by kernel_rfl) (by kernel_rfl) (by kernel_rfl) (by kernel_rfl) (fun _ _ _ h => h) ?hw1a S0 ?hy1a ?rest1a
                  case hw1a => (simp only [List.getElem?_toArray, List.getElem?_cons_zero, List.getElem?_cons_succ, Option.elim]; rfl)
                  case hy1a => (simp only [List.getElem?_toArray, List.getElem?_cons_zero, List.getElem?_cons_succ, Option.elim]; intro wx _; go_simp; with_reducible rfl)
                  simp only [dstOf, List.getElem?_toArray, List.getElem?_cons_zero, List.getElem?_cons_succ, Option.bind, Act.put, List.setIfInBounds_toArray, List.set_cons_zero, List.set_cons_succ]
                  refine till_take 3 8 false (v := ?v3a) (by kernel_rfl) (by kernel_rfl) (by kernel_rfl) (by kernel_rfl) (by kernel_rfl) (fun _ _ _ h => h) ?hw3a S0 ?hy3a ?rest3a
                  case hw3a => (simp only [List.getElem?_toArray, List.getElem?_cons_zero, List.getElem?_cons_succ, Option.elim]; rfl)
                  case hy3a => (simp only [List.getElem?_toArray, List.getElem?_cons_zero, List.getElem?_cons_succ, Option.elim]; intro wx _; go_simp; with_reducible rfl)
                  simp only [dstOf, List.getElem?_toArray, List.getElem?_cons_zero, List.getElem?_cons_succ, Option.bind, Act.put, List.setIfInBounds_toArray, List.set_cons_zero, List.set_cons_succ]
                  refine till_take 4 8 true (v := ?v4a) (by kernel_rfl) (by kernel_rfl) (by kernel_rfl) (by kernel_rfl) (by kernel_rfl) (fun _ _ _ h => h) ?hw4a S0 ?hy4a ?rest4a
                  case hw4a => (simp only [List.getElem?_toArray, List.getElem?_cons_zero, List.getElem?_cons_succ, Option.elim]; rfl)
                  case hy4a => (simp only [List.getElem?_toArray, List.getElem?_cons_zero, List.getElem?_cons_succ, Option.elim]; intro wx hx; have x1 := hx trivial; go_simp; with_reducible rfl)
                  simp only [dstOf, List.getElem?_toArray, List.getElem?_cons_zero, List.getElem?_cons_succ, Option.bind, Act.put, List.setIfInBounds_toArray, List.set_cons_zero, List.set_cons_succ]
                  refine till_split 0 5 (by kernel_rfl) ?_ ?_
                  · intro K hK
                    simp only [List.getElem?_toArray, List.getElem?_cons_zero, Option.elim]
                    rw [if_pos (by rfl)]
                    go_simp
                    refine hK.out _ _ S1 ?_
                    clear hK K
                    try simp only [Act.put, List.setIfInBounds_toArray, List.set_cons_zero, List.set_cons_succ]
                    refine till_split 2 5 (by kernel_rfl) ?_ ?_
                    · intro K hK
                      simp only [List.getElem?_toArray, List.getElem?_cons_zero, List.getElem?_cons_succ, Option.elim]
                      rw [if_pos (by rfl)]
                      refine Lib.wp_append_run _ (.tmp 78) (.tmp 79) 32 32 rfl _ _ rfl rfl _ _ HA1.out ?_
                      refine hK.out _ _ S5 ?_
                      clear hK K
                      try simp only [Act.put, List.setIfInBounds_toArray, List.set_cons_zero, List.set_cons_succ]
                      refine till_before 5 (by kernel_rfl) ?_
                      intro K hK
                      simp only [List.getElem?_toArray, List.getElem?_cons_zero, List.getElem?_cons_succ, Option.elim]
                      rw [if_pos (by rfl)]
                      go_simp
                      refine hK.out _ _ S8 ?_
                      clear hK K
                      try simp only [Act.put, List.setIfInBounds_toArray, List.set_cons_zero, List.set_cons_succ]
                      refine till_step 6 (by kernel_rfl) (by kernel_rfl) ?_
                      intro K hK
                      simp only [List.getElem?_toArray, List.getElem?_cons_zero, List.getElem?_cons_succ, Option.elim]
                      rw [if_pos (by rfl)]
                      refine Lib.wp_append_run _ (.tmp 80) (.tmp 83) 32 32 rfl _ _ rfl rfl _ _ HA2.out ?_
                      refine hK.out _ _ ?_
                      clear hK K
                      try simp only [Act.put, List.setIfInBounds_toArray, List.set_cons_zero, List.set_cons_succ]
                      refine till_step 7 (by kernel_rfl) (by kernel_rfl) ?_
                      intro K hK
                      simp only [List.getElem?_toArray, List.getElem?_cons_zero, List.getElem?_cons_succ, Option.elim]
                      rw [if_pos (by rfl)]
                      go_simp
                      refine hK.out _ _ ?_
                      clear hK K
                      try simp only [Act.put, List.setIfInBounds_toArray, List.set_cons_zero, List.set_cons_succ]
                      refine till_end (by kernel_rfl) ?_ _
                      go_wp2
                      go_meet
                      exact OA.out
                    · intro K hK
                      simp only [List.getElem?_toArray, List.getElem?_cons_zero, List.getElem?_cons_succ, Option.elim]
                      rw [if_pos (by rfl)]
                      go_simp
                      refine hK.out _ _ S3 ?_
                      clear hK K
                      try simp only [Act.put, List.setIfInBounds_toArray, List.set_cons_zero, List.set_cons_succ]
                      refine till_before 2 (by kernel_rfl) ?_
                      intro K hK
                      simp only [List.getElem?_toArray, List.getElem?_cons_zero, List.getElem?_cons_succ, Option.elim]
                      rw [if_pos (by rfl)]
                      refine Lib.wp_append_run _ (.tmp 78) (.tmp 79) 32 32 rfl _ _ rfl rfl _ _ HB1.out ?_
                      refine hK.out _ _ S6 ?_
                      clear hK K
                      try simp only [Act.put, List.setIfInBounds_toArray, List.set_cons_zero, List.set_cons_succ]
                      refine till_step 6 (by kernel_rfl) (by kernel_rfl) ?_
                      intro K hK
                      simp only [List.getElem?_toArray, List.getElem?_cons_zero, List.getElem?_cons_succ, Option.elim]
                      rw [if_pos (by rfl)]
                      refine Lib.wp_append_run _ (.tmp 80) (.tmp 83) 32 32 rfl _ _ rfl rfl _ _ HB2.out ?_
                      refine hK.out _ _ ?_
                      clear hK K
                      try simp only [Act.put, List.setIfInBounds_toArray, List.set_cons_zero, List.set_cons_succ]
                      refine till_step 7 (by kernel_rfl) (by kernel_rfl) ?_
                      intro K hK
                      simp only [List.getElem?_toArray, List.getElem?_cons_zero, List.getElem?_cons_succ, Option.elim]
                      rw [if_pos (by rfl)]
                      go_simp
                      refine hK.out _ _ ?_
                      clear hK K
                      try simp only [Act.put, List.setIfInBounds_toArray, List.set_cons_zero, List.set_cons_succ]
                      refine till_end (by kernel_rfl) ?_ _
                      go_wp2
                      go_meet
                      exact OB.out
                  · intro K hK
                    simp only [List.getElem?_toArray, List.getElem?_cons_zero, List.getElem?_cons_succ, Option.elim]
                    rw [if_pos (by rfl)]
                    go_simp
                    refine hK.out _ _ S2 ?_
                    clear hK K
                    try simp only [Act.put, List.setIfInBounds_toArray, List.set_cons_zero, List.set_cons_succ]
                    refine till_before 0 (by kernel_rfl) ?_
                    intro K hK
                    simp only [List.getElem?_toArray, List.getElem?_cons_zero, Option.elim]
                    rw [if_pos (by rfl)]
                    go_simp
                    refine hK.out _ _ S4 ?_
                    clear hK K
                    try simp only [Act.put, List.setIfInBounds_toArray, List.set_cons_zero, List.set_cons_succ]
                    refine till_before 2 (by kernel_rfl) ?_
                    intro K hK
                    simp only [List.getElem?_toArray, List.getElem?_cons_zero, List.getElem?_cons_succ, Option.elim]
                    rw [if_pos (by rfl)]
                    refine Lib.wp_append_run _ (.tmp 78) (.tmp 79) 32 32 rfl _ _ rfl rfl _ _ HC1.out ?_
                    refine hK.out _ _ S7 ?_
                    clear hK K
                    try simp only [Act.put, List.setIfInBounds_toArray, List.set_cons_zero, List.set_cons_succ]
                    refine till_step 6 (by kernel_rfl) (by kernel_rfl) ?_
                    intro K hK
                    simp only [List.getElem?_toArray, List.getElem?_cons_zero, List.getElem?_cons_succ, Option.elim]
                    rw [if_pos (by rfl)]
                    refine Lib.wp_append_run _ (.tmp 80) (.tmp 83) 32 32 rfl _ _ rfl rfl _ _ HC2.out ?_
                    refine hK.out _ _ ?_
                    clear hK K
                    try simp only [Act.put, List.setIfInBounds_toArray, List.set_cons_zero, List.set_cons_succ]
                    refine till_step 7 (by kernel_rfl) (by kernel_rfl) ?_
                    intro K hK
                    simp only [List.getElem?_toArray, List.getElem?_cons_zero, List.getElem?_cons_succ, Option.elim]
                    rw [if_pos (by rfl)]
                    go_simp
                    refine hK.out _ _ ?_
                    clear hK K
                    try simp only [Act.put, List.setIfInBounds_toArray, List.set_cons_zero, List.set_cons_succ]
                    refine till_end (by kernel_rfl) ?_ _
                    go_wp2
                    go_meet
                    exact OC.out
              case rest =>
                as_aux_lemma =>
                  obtain ⟨hq1, hq2, hq3⟩ := hcut
                  have hm9 := (M7.out.pair_set (i := 1) rfl hq3 hq1 hq2).1
                  have M9 := Lib.hid (show OMem w wc [.disk d D', .pair u9 u10 (all ++ [x.S]) sure, .jour b d ({ J with l := J.l ++ [x.S] } : Jn), .op wr.heap.size x (.slice va x.Keep.length vc), .own 9 v13 (strVs J.l), .own 9 v15 (strVs ({ J with l := J.l ++ [x.S] } : Jn).l)] from hm9)
                  have d9 : wc.cell? ⟨wr.heap.size, 1, none⟩ = some (.string (bs x.S)) := (hm9.op_at (i := 3) rfl).c1
                  clear hm9 hq1 hq2 hq3 d1 hvall M7
                  have hown := M9.out.at_row (i := 4) rfl
                  rw [strVs_length] at hown
                  obtain ⟨v', w10, hr10, hown6, hgrow, _, hat⟩ := run_append_own_at (P := Tryd.prog) (wc.alloc (.cells #[.string (bs x.S)] 9)) 0 32 32 9 i0 (.string ⟨#[]⟩) 1 16 Tryd.underlying32 hi hz0 hz1 hz2 rfl (by decide) v13 J.l.length _ (hown.alloc _) ⟨wc.heap.size, 0, none⟩ 1 1 [.string (bs x.S)] rfl (cell_one_new _ _ _) (fun y hy => by simp at hy; subst hy; rfl) (by unfold maxLen; rw [hja]; omega) (by rw [hja]; omega) (Nat.zero_le _)
                  have HR10 := Lib.hid hr10
                  clear hr10
                  go_wp2_with (at_builtin; refine Hid.out ?_)
                  refine Lib.hid ?_
                  refine wpList_append_run_g (by rfl) _ _ _ _ rfl _ _ rfl rfl _ _ HR10.out ?_
                  have m10 := (M9.out.fresh (below_alloc wc (.cells #[.string (bs x.S)] 9))).grow (i := 4) (v' := v') (xs' := strVs (J.l ++ [x.S])) rfl hgrow (by simpa [strVs] using hown6) hat
                  have M10 := Lib.hid (show OMem w w10 [.disk d D', .pair u9 u10 (all ++ [x.S]) sure, .jour b d ({ J with l := J.l ++ [x.S] } : Jn), .op wr.heap.size x (.slice va x.Keep.length vc), .own 9 v' (strVs (J.l ++ [x.S])), .own 9 v15 (strVs (J.l ++ [x.S]))] from m10)
                  clear hown hown6 hgrow hat m10 M9 d9
                  have hlen2 : (J.l ++ [x.S]).length ≤ 1099511627776 := by rw [hja]; simp; omega
                  have SAME := Lib.hid (same_one hlen2 (M10.out.texts (i := 5) rfl) (M10.out.texts (i := 4) rfl))
                  go_wp2_with (go_at_call 16; refine SAME.out.mono ?_; rintro e w8 ⟨rfl, b8⟩; have B8 := Lib.hid b8; clear b8)
                  go_roundw
                  case rel => exact ⟨k + 1, some (b, _), D', all ++ [x.S], sure, hk1, by go_num, Lib.hid (.yes b _), S, Lib.hid (((M10.out.fresh B8.out).take 3))⟩
                  case measure => simp [intOf]; omega
            · have P := Lib.hid p
              have S := Lib.hid s
              clear p s M4 HLA
              go_wp2_with (go_at_call 14; refine (o_append1 (i := 0) (k := 2) M5.out rfl rfl (by decide) x.S (M5.out.env he) P.out).mono ?_; rintro e w6 ⟨rfl, m⟩; refine Hid.out ?_)
              refine Lib.hid ?_
              have M6 := Lib.hid (show OMem w w6 [.disk d D', .pair u9 u10 all sure, .jour b d ({ J with bad := true } : Jn), .op wr.heap.size x (.slice va x.Keep.length vc), .own 9 v13 (strVs J.l)] from m)
              clear m d1 M5
              go_wp2_with (go_at_call 13; refine (o_all (k := 2) M6.out rfl).mono ?_; rintro e w7 ⟨v15, rfl, m⟩; refine Hid.out ?_)
              refine Lib.hid ?_
              have M7 := Lib.hid (show OMem w w7 [.disk d D', .pair u9 u10 all sure, .jour b d ({ J with bad := true } : Jn), .op wr.heap.size x (.slice va x.Keep.length vc), .own 9 v13 (strVs J.l), .own 9 v15 (strVs ({ J with bad := true } : Jn).l)] from m)
              have d1 : w7.cell? ⟨wr.heap.size, 1, none⟩ = some (.string (bs x.S)) := (m.op_at (i := 3) rfl).c1
              have hvall := (m.pair_at (i := 1) rfl).1
              clear m M6
              go_wp2_with (go_at_call 15; refine (disky_any 8 _).mono ?_; rintro e w8 ⟨rfl, rfl⟩; simp only [isDisky_8]; refine Hid.out ?_)
              refine Lib.hid ?_
              go_upto_region 27 with fail
              go_cut [9] from 38 to 175 (fun v wx => wx.ownsRow 0 9 1 v (strVs (all ++ [x.S])).length (strVs (all ++ [x.S])) ∧ (∀ k, v.ownBlock = some k → w7.heap.size ≤ k) ∧ Below w7.heap.size w7 wx)
              case first =>
                as_aux_lemma =>
                  have hb0 : Below w7.heap.size w7 w7.drew := (Below.refl w7.heap.size w7).drew
                  have hbE : Below w7.heap.size w7 (w7.drew.alloc (.cells #[] 9)) := hb0.alloc (Nat.le_refl _) _
                  have hbX : Below w7.heap.size w7 (w7.drew.alloc (.cells #[.string (bs x.S)] 9)) := hb0.alloc (Nat.le_refl _) _
                  have hbB : Below w7.heap.size w7 ((w7.drew.alloc (.cells #[] 9)).alloc (.cells #[.string (bs x.S)] 9)) := hbE.alloc hbE.size _
                  have hbC : Below w7.heap.size w7 ((w7.drew.alloc (.cells #[.string (bs x.S)] 9)).alloc (.cells #[] 9)) := hbX.alloc hbX.size _
                  have hs0 : w7.drew.heap.size = w7.heap.size := rfl
                  obtain ⟨vA, wA, rA, oA, fA, bA, kA, zA⟩ := app1 (w' := (w7.drew.alloc (.cells #[] 9))) (e := w7.heap.size) hbE (World.ownsRow_made w7.drew #[] 0 (Nat.zero_le _) (by unfold maxLen; omega) (by simp)) (Nat.le_refl _) hvall (by omega)
                  obtain ⟨vB, wB, rB, oB, fB, bB, kB, zB⟩ := app1 (w' := ((w7.drew.alloc (.cells #[] 9)).alloc (.cells #[.string (bs x.S)] 9))) (e := w7.heap.size) hbB ((World.ownsRow_made w7.drew #[] 0 (Nat.zero_le _) (by unfold maxLen; omega) (by simp)).alloc _) (Nat.le_refl _) hvall (by omega)
                  obtain ⟨vC, wC, rC, oC, fC, bC, kC, zC⟩ := app1 (w' := ((w7.drew.alloc (.cells #[.string (bs x.S)] 9)).alloc (.cells #[] 9))) (e := (w7.drew.alloc (.cells #[.string (bs x.S)] 9)).heap.size) hbC (World.ownsRow_made (w7.drew.alloc (.cells #[.string (bs x.S)] 9)) #[] 0 (Nat.zero_le _) (by unfold maxLen; omega) (by simp)) (by simp) hvall (by omega)
                  obtain ⟨vA2, wA2, rA2, oA2, fA2, bA2⟩ := app2 (s := x.S) (w' := wA.alloc (.cells #[.string (bs x.S)] 9)) (q := wA.heap.size) (bA.alloc bA.size _) (oA.alloc _) fA (by rw [alloc_new_cell]; rfl) (by omega)
                  have hcB := alloc_new_cell (w7.drew.alloc (.cells #[] 9)) #[.string (bs x.S)] 9 0
                  have hcC := below_cell (alloc_new_cell w7.drew #[.string (bs x.S)] 9 0) (below_alloc (w7.drew.alloc (.cells #[.string (bs x.S)] 9)) (.cells #[] 9))
                  obtain ⟨vB2, wB2, rB2, oB2, fB2, bB2⟩ := app2 (s := x.S) (w' := wB) (q := (w7.drew.alloc (.cells #[] 9)).heap.size) bB oB fB (moved_cell (by exact hcB) (kB _ (by simp only [World.size_alloc, hs0]; omega) (by simp only [World.size_alloc, hs0]; omega))) (by omega)
                  obtain ⟨vC2, wC2, rC2, oC2, fC2, bC2⟩ := app2 (s := x.S) (w' := wC) (q := w7.drew.heap.size) bC oC fC (moved_cell (by exact hcC) (kC _ (by simp only [World.size_alloc, hs0]; omega) (by simp only [World.size_alloc, hs0]; omega))) (by omega)
                  simp only [World.size_alloc, hs0] at rB2 rC rC2
                  have S0 : w7.drew.cell? ⟨wr.heap.size, 1, none⟩ = some (.string (bs x.S)) := d1
                  have S1 : (w7.drew.alloc (.cells #[] 9)).cell? ⟨wr.heap.size, 1, none⟩ = some (.string (bs x.S)) := below_cell d1 hbE
                  have S2 : (w7.drew.alloc (.cells #[.string (bs x.S)] 9)).cell? ⟨wr.heap.size, 1, none⟩ = some (.string (bs x.S)) := below_cell d1 hbX
                  have S3 := below_cell d1 hbB
                  have S4 := below_cell d1 hbC
                  have S5 := below_cell d1 bA
                  have S6 := below_cell d1 bB
                  have S7 := below_cell d1 bC
                  have S8 := below_cell d1 (bA.alloc bA.size (.cells #[.string (bs x.S)] 9))
                  have HA1 := Lib.hid rA
                  have HB1 := Lib.hid rB
                  have HC1 := Lib.hid rC
                  have HA2 := Lib.hid rA2
                  have HB2 := Lib.hid rB2
                  have HC2 := Lib.hid rC2
                  have OA := Lib.hid (And.intro oA2 (And.intro fA2 bA2))
                  have OB := Lib.hid (And.intro oB2 (And.intro fB2 bB2))
                  have OC := Lib.hid (And.intro oC2 (And.intro fC2 bC2))
                  clear hcB hcC hs0 hb0 rA rB rC rA2 rB2 rC2 oA oB oC fA fB fC bA bB bC kA kB kC zA zB zC oA2 oB2 oC2 fA2 fB2 fC2 bA2 bB2 bC2 hbE hbX hbB hbC
                  refine region_till 6 (fun w' => w'.cell? ⟨wr.heap.size, 1, none⟩ = some (.string (bs x.S))) (by kernel_rfl) ?_
                  refine till_take 1 8 false (v := ?v1b) (by kernel_rfl) (by kernel_rfl) (by kernel_rfl) (by kernel_rfl) (by kernel_rfl) (fun _ _ _ h => h) ?hw1b S0 ?hy1b ?rest1b
                  case hw1b => (simp only [List.getElem?_toArray, List.getElem?_cons_zero, List.getElem?_cons_succ, Option.elim]; rfl)
                  case hy1b => (simp only [List.getElem?_toArray, List.getElem?_cons_zero, List.getElem?_cons_succ, Option.elim]; intro wx _; go_simp; with_reducible rfl)
                  simp only [dstOf, List.getElem?_toArray, List.getElem?_cons_zero, List.getElem?_cons_succ, Option.bind, Act.put, List.setIfInBounds_toArray, List.set_cons_zero, List.set_cons_succ]
                  refine till_take 3 8 false (v := ?v3b) (by kernel_rfl) (by kernel_rfl) (by kernel_rfl) (by kernel_rfl) (by kernel_rfl) (fun _ _ _ h => h) ?hw3b S0 ?hy3b ?rest3b
                  case hw3b => (simp only [List.getElem?_toArray, List.getElem?_cons_zero, List.getElem?_cons_succ, Option.elim]; rfl)
                  case hy3b => (simp only [List.getElem?_toArray, List.getElem?_cons_zero, List.getElem?_cons_succ, Option.elim]; intro wx _; go_simp; with_reducible rfl)
                  simp only [dstOf, List.getElem?_toArray, List.getElem?_cons_zero, List.getElem?_cons_succ, Option.bind, Act.put, List.setIfInBounds_toArray, List.set_cons_zero, List.set_cons_succ]
                  refine till_take 4 8 true (v := ?v4b) (by kernel_rfl) (by kernel_rfl) (by kernel_rfl) (by kernel_rfl) (by kernel_rfl) (fun _ _ _ h => h) ?hw4b S0 ?hy4b ?rest4b
                  case hw4b => (simp only [List.getElem?_toArray, List.getElem?_cons_zero, List.getElem?_cons_succ, Option.elim]; rfl)
                  case hy4b => (simp only [List.getElem?_toArray, List.getElem?_cons_zero, List.getElem?_cons_succ, Option.elim]; intro wx hx; have x1 := hx trivial; go_simp; with_reducible rfl)
                  simp only [dstOf, List.getElem?_toArray, List.getElem?_cons_zero, List.getElem?_cons_succ, Option.bind, Act.put, List.setIfInBounds_toArray, List.set_cons_zero, List.set_cons_succ]
                  refine till_split 0 5 (by kernel_rfl) ?_ ?_
                  · intro K hK
                    simp only [List.getElem?_toArray, List.getElem?_cons_zero, Option.elim]
                    rw [if_pos (by rfl)]
                    go_simp
                    refine hK.out _ _ S1 ?_
                    clear hK K
                    try simp only [Act.put, List.setIfInBounds_toArray, List.set_cons_zero, List.set_cons_succ]
                    refine till_split 2 5 (by kernel_rfl) ?_ ?_
                    · intro K hK
                      simp only [List.getElem?_toArray, List.getElem?_cons_zero, List.getElem?_cons_succ, Option.elim]
                      rw [if_pos (by rfl)]
                      refine Lib.wp_append_run _ (.tmp 78) (.tmp 79) 32 32 rfl _ _ rfl rfl _ _ HA1.out ?_
                      refine hK.out _ _ S5 ?_
                      clear hK K
                      try simp only [Act.put, List.setIfInBounds_toArray, List.set_cons_zero, List.set_cons_succ]
                      refine till_before 5 (by kernel_rfl) ?_
                      intro K hK
                      simp only [List.getElem?_toArray, List.getElem?_cons_zero, List.getElem?_cons_succ, Option.elim]
                      rw [if_pos (by rfl)]
                      go_simp
                      refine hK.out _ _ S8 ?_
                      clear hK K
                      try simp only [Act.put, List.setIfInBounds_toArray, List.set_cons_zero, List.set_cons_succ]
                      refine till_step 6 (by kernel_rfl) (by kernel_rfl) ?_
                      intro K hK
                      simp only [List.getElem?_toArray, List.getElem?_cons_zero, List.getElem?_cons_succ, Option.elim]
                      rw [if_pos (by rfl)]
                      refine Lib.wp_append_run _ (.tmp 80) (.tmp 83) 32 32 rfl _ _ rfl rfl _ _ HA2.out ?_
                      refine hK.out _ _ ?_
                      clear hK K
                      try simp only [Act.put, List.setIfInBounds_toArray, List.set_cons_zero, List.set_cons_succ]
                      refine till_step 7 (by kernel_rfl) (by kernel_rfl) ?_
                      intro K hK
                      simp only [List.getElem?_toArray, List.getElem?_cons_zero, List.getElem?_cons_succ, Option.elim]
                      rw [if_pos (by rfl)]
                      go_simp
                      refine hK.out _ _ ?_
                      clear hK K
                      try simp only [Act.put, List.setIfInBounds_toArray, List.set_cons_zero, List.set_cons_succ]
                      refine till_end (by kernel_rfl) ?_ _
                      go_wp2
                      go_meet
                      exact OA.out
                    · intro K hK
                      simp only [List.getElem?_toArray, List.getElem?_cons_zero, List.getElem?_cons_succ, Option.elim]
                      rw [if_pos (by rfl)]
                      go_simp
                      refine hK.out _ _ S3 ?_
                      clear hK K
                      try simp only [Act.put, List.setIfInBounds_toArray, List.set_cons_zero, List.set_cons_succ]
                      refine till_before 2 (by kernel_rfl) ?_
                      intro K hK
                      simp only [List.getElem?_toArray, List.getElem?_cons_zero, List.getElem?_cons_succ, Option.elim]
                      rw [if_pos (by rfl)]
                      refine Lib.wp_append_run _ (.tmp 78) (.tmp 79) 32 32 rfl _ _ rfl rfl _ _ HB1.out ?_
                      refine hK.out _ _ S6 ?_
                      clear hK K
                      try simp only [Act.put, List.setIfInBounds_toArray, List.set_cons_zero, List.set_cons_succ]
                      refine till_step 6 (by kernel_rfl) (by kernel_rfl) ?_
                      intro K hK
                      simp only [List.getElem?_toArray, List.getElem?_cons_zero, List.getElem?_cons_succ, Option.elim]
                      rw [if_pos (by rfl)]
                      refine Lib.wp_append_run _ (.tmp 80) (.tmp 83) 32 32 rfl _ _ rfl rfl _ _ HB2.out ?_
                      refine hK.out _ _ ?_
                      clear hK K
                      try simp only [Act.put, List.setIfInBounds_toArray, List.set_cons_zero, List.set_cons_succ]
                      refine till_step 7 (by kernel_rfl) (by kernel_rfl) ?_
                      intro K hK
                      simp only [List.getElem?_toArray, List.getElem?_cons_zero, List.getElem?_cons_succ, Option.elim]
                      rw [if_pos (by rfl)]
                      go_simp
                      refine hK.out _ _ ?_
                      clear hK K
                      try simp only [Act.put, List.setIfInBounds_toArray, List.set_cons_zero, List.set_cons_succ]
                      refine till_end (by kernel_rfl) ?_ _
                      go_wp2
                      go_meet
                      exact OB.out
                  · intro K hK
                    simp only [List.getElem?_toArray, List.getElem?_cons_zero, List.getElem?_cons_succ, Option.elim]
                    rw [if_pos (by rfl)]
                    go_simp
                    refine hK.out _ _ S2 ?_
                    clear hK K
                    try simp only [Act.put, List.setIfInBounds_toArray, List.set_cons_zero, List.set_cons_succ]
                    refine till_before 0 (by kernel_rfl) ?_
                    intro K hK
                    simp only [List.getElem?_toArray, List.getElem?_cons_zero, Option.elim]
                    rw [if_pos (by rfl)]
                    go_simp
                    refine hK.out _ _ S4 ?_
                    clear hK K
                    try simp only [Act.put, List.setIfInBounds_toArray, List.set_cons_zero, List.set_cons_succ]
                    refine till_before 2 (by kernel_rfl) ?_
                    intro K hK
                    simp only [List.getElem?_toArray, List.getElem?_cons_zero, List.getElem?_cons_succ, Option.elim]
                    rw [if_pos (by rfl)]
                    refine Lib.wp_append_run _ (.tmp 78) (.tmp 79) 32 32 rfl _ _ rfl rfl _ _ HC1.out ?_
                    refine hK.out _ _ S7 ?_
                    clear hK K
                    try simp only [Act.put, List.setIfInBounds_toArray, List.set_cons_zero, List.set_cons_succ]
                    refine till_step 6 (by kernel_rfl) (by kernel_rfl) ?_
                    intro K hK
                    simp only [List.getElem?_toArray, List.getElem?_cons_zero, List.getElem?_cons_succ, Option.elim]
                    rw [if_pos (by rfl)]
                    refine Lib.wp_append_run _ (.tmp 80) (.tmp 83) 32 32 rfl _ _ rfl rfl _ _ HC2.out ?_
                    refine hK.out _ _ ?_
                    clear hK K
                    try simp only [Act.put, List.setIfInBounds_toArray, List.set_cons_zero, List.set_cons_succ]
                    refine till_step 7 (by kernel_rfl) (by kernel_rfl) ?_
                    intro K hK
                    simp only [List.getElem?_toArray, List.getElem?_cons_zero, List.getElem?_cons_succ, Option.elim]
                    rw [if_pos (by rfl)]
                    go_simp
                    refine hK.out _ _ ?_
                    clear hK K
                    try simp only [Act.put, List.setIfInBounds_toArray, List.set_cons_zero, List.set_cons_succ]
                    refine till_end (by kernel_rfl) ?_ _
                    go_wp2
                    go_meet
                    exact OC.out
              case rest =>
                as_aux_lemma =>
                  obtain ⟨hq1, hq2, hq3⟩ := hcut
                  have hm9 := (M7.out.pair_set (i := 1) rfl hq3 hq1 hq2).1
                  have M9 := Lib.hid (show OMem w wc [.disk d D', .pair u9 u10 (all ++ [x.S]) sure, .jour b d ({ J with bad := true } : Jn), .op wr.heap.size x (.slice va x.Keep.length vc), .own 9 v13 (strVs J.l), .own 9 v15 (strVs ({ J with bad := true } : Jn).l)] from hm9)
                  have d9 : wc.cell? ⟨wr.heap.size, 1, none⟩ = some (.string (bs x.S)) := (hm9.op_at (i := 3) rfl).c1
                  clear hm9 hq1 hq2 hq3 d1 hvall M7
                  have hlen2 : J.l.length ≤ 1099511627776 := by have := M9.out.jsize (k := 2) rfl; simp only at this; omega
                  have SAME := Lib.hid (same_one hlen2 (M9.out.texts (i := 5) rfl) (M9.out.texts (i := 4) rfl))
                  go_wp2_with (go_at_call 16; refine SAME.out.mono ?_; rintro e w8 ⟨rfl, b8⟩; have B8 := Lib.hid b8; clear b8)
                  go_roundw
                  case rel => exact ⟨k + 1, some (b, _), D', all ++ [x.S], sure, hk1, by go_num, Lib.hid (.yes b _), S, Lib.hid (((M9.out.fresh B8.out).take 3))⟩
                  case measure => simp [intOf]; omega
            · have S := Lib.hid s
              clear s M4 HLA
              rcases hee with rfl | rfl | rfl
              · have P := Lib.hid p
                clear p
                go_wp2_with (go_at_call 14; refine (o_append1 (i := 0) (k := 2) M5.out rfl rfl (by decide) x.S (M5.out.env he) P.out).mono ?_; rintro e w6 ⟨rfl, m⟩; refine Hid.out ?_)
                refine Lib.hid ?_
                have M6 := Lib.hid (show OMem w w6 [.disk d D, .pair u9 u10 all sure, .jour b d J, .op wr.heap.size x (.slice va x.Keep.length vc), .own 9 v13 (strVs J.l)] from m)
                clear m d1 M5
                go_wp2_with (go_at_call 13; refine (o_all (k := 2) M6.out rfl).mono ?_; rintro e w7 ⟨v15, rfl, m⟩; refine Hid.out ?_)
                refine Lib.hid ?_
                have M7 := Lib.hid (show OMem w w7 [.disk d D, .pair u9 u10 all sure, .jour b d J, .op wr.heap.size x (.slice va x.Keep.length vc), .own 9 v13 (strVs J.l), .own 9 v15 (strVs J.l)] from m)
                have d1 : w7.cell? ⟨wr.heap.size, 1, none⟩ = some (.string (bs x.S)) := (m.op_at (i := 3) rfl).c1
                have hvall := (m.pair_at (i := 1) rfl).1
                clear m M6
                have hlen2 : J.l.length ≤ 1099511627776 := by have := M7.out.jsize (k := 2) rfl; omega
                have SAME := Lib.hid (same_one hlen2 (M7.out.texts (i := 5) rfl) (M7.out.texts (i := 4) rfl))
                go_wp2_with (first | (go_at_call 15; refine (disky_any 3 _).mono ?_; rintro e w8 ⟨rfl, rfl⟩; simp only [isDisky_3]) | (go_at_call 16; refine SAME.out.mono ?_; rintro e w8 ⟨rfl, b8⟩; have B8 := Lib.hid b8; clear b8))
                go_roundw
                case rel => exact ⟨k + 1, some (b, J), D, all, sure, hk1, by go_num, Lib.hid (.yes b _), S, Lib.hid (((M7.out.fresh B8.out).take 3))⟩
                case measure => simp [intOf]; omega
              · have P := Lib.hid p
                clear p
                go_wp2_with (go_at_call 14; refine (o_append1 (i := 0) (k := 2) M5.out rfl rfl (by decide) x.S (M5.out.env he) P.out).mono ?_; rintro e w6 ⟨rfl, m⟩; refine Hid.out ?_)
                refine Lib.hid ?_
                have M6 := Lib.hid (show OMem w w6 [.disk d D, .pair u9 u10 all sure, .jour b d J, .op wr.heap.size x (.slice va x.Keep.length vc), .own 9 v13 (strVs J.l)] from m)
                clear m d1 M5
                go_wp2_with (go_at_call 13; refine (o_all (k := 2) M6.out rfl).mono ?_; rintro e w7 ⟨v15, rfl, m⟩; refine Hid.out ?_)
                refine Lib.hid ?_
                have M7 := Lib.hid (show OMem w w7 [.disk d D, .pair u9 u10 all sure, .jour b d J, .op wr.heap.size x (.slice va x.Keep.length vc), .own 9 v13 (strVs J.l), .own 9 v15 (strVs J.l)] from m)
                have d1 : w7.cell? ⟨wr.heap.size, 1, none⟩ = some (.string (bs x.S)) := (m.op_at (i := 3) rfl).c1
                have hvall := (m.pair_at (i := 1) rfl).1
                clear m M6
                have hlen2 : J.l.length ≤ 1099511627776 := by have := M7.out.jsize (k := 2) rfl; omega
                have SAME := Lib.hid (same_one hlen2 (M7.out.texts (i := 5) rfl) (M7.out.texts (i := 4) rfl))
                go_wp2_with (first | (go_at_call 15; refine (disky_any 6 _).mono ?_; rintro e w8 ⟨rfl, rfl⟩; simp only [isDisky_6]) | (go_at_call 16; refine SAME.out.mono ?_; rintro e w8 ⟨rfl, b8⟩; have B8 := Lib.hid b8; clear b8))
                go_roundw
                case rel => exact ⟨k + 1, some (b, J), D, all, sure, hk1, by go_num, Lib.hid (.yes b _), S, Lib.hid (((M7.out.fresh B8.out).take 3))⟩
                case measure => simp [intOf]; omega
              · have P := Lib.hid p
                clear p
                go_wp2_with (go_at_call 14; refine (o_append1 (i := 0) (k := 2) M5.out rfl rfl (by decide) x.S (M5.out.env he) P.out).mono ?_; rintro e w6 ⟨rfl, m⟩; refine Hid.out ?_)
                refine Lib.hid ?_
                have M6 := Lib.hid (show OMem w w6 [.disk d D, .pair u9 u10 all sure, .jour b d J, .op wr.heap.size x (.slice va x.Keep.length vc), .own 9 v13 (strVs J.l)] from m)
                clear m d1 M5
                go_wp2_with (go_at_call 13; refine (o_all (k := 2) M6.out rfl).mono ?_; rintro e w7 ⟨v15, rfl, m⟩; refine Hid.out ?_)
                refine Lib.hid ?_
                have M7 := Lib.hid (show OMem w w7 [.disk d D, .pair u9 u10 all sure, .jour b d J, .op wr.heap.size x (.slice va x.Keep.length vc), .own 9 v13 (strVs J.l), .own 9 v15 (strVs J.l)] from m)
                have d1 : w7.cell? ⟨wr.heap.size, 1, none⟩ = some (.string (bs x.S)) := (m.op_at (i := 3) rfl).c1
                have hvall := (m.pair_at (i := 1) rfl).1
                clear m M6
                have hlen2 : J.l.length ≤ 1099511627776 := by have := M7.out.jsize (k := 2) rfl; omega
                have SAME := Lib.hid (same_one hlen2 (M7.out.texts (i := 5) rfl) (M7.out.texts (i := 4) rfl))
                go_wp2_with (first | (go_at_call 15; refine (disky_any 7 _).mono ?_; rintro e w8 ⟨rfl, rfl⟩; simp only [isDisky_7]) | (go_at_call 16; refine SAME.out.mono ?_; rintro e w8 ⟨rfl, b8⟩; have B8 := Lib.hid b8; clear b8))
                go_roundw
                case rel => exact ⟨k + 1, some (b, J), D, all, sure, hk1, by go_num, Lib.hid (.yes b _), S, Lib.hid (((M7.out.fresh B8.out).take 3))⟩
                case measure => simp [intOf]; omega
      by_cases k1 : x.K = 1
      · as_aux_lemma =>
          rw [k1] at d0
          have hj := HJ.out
          cases hj with
          | no =>
            have HS2 := Lib.hid (HS.out.mono (show k ≤ k + 1 by omega))
            clear HS
            go_wp2
            go_roundw
            case rel => exact ⟨k + 1, none, D, all, sure, hk1, by go_num, HJ, HS2, Lib.hid (HM.out.fresh HB4.out)⟩
            case measure => simp [intOf]; omega
          | yes b J =>
            have M4 := Lib.hid (show OMem w w4 [.disk d D, .pair u9 u10 all sure, .jour b d J] from HM.out.fresh HB4.out)
            have hsl := HS.out.few
            rcases HS.out.jsynced with ⟨D', p, s⟩ | ⟨en, D', J', p, hne, s⟩
            · have P := Lib.hid p
              have S := Lib.hid (s.mono (show k ≤ k + 1 by omega))
              clear p s HM HS d1 d2 d3 hcn
              go_wp2_with (go_at_call 17; refine (o_jsync1 (i := 0) (k := 2) M4.out rfl rfl (by decide) P.out).mono ?_; rintro e w5 ⟨rfl, m⟩; refine Hid.out ?_)
              refine Lib.hid ?_
              have M5 := Lib.hid (show OMem w w5 [.disk d D', .pair u9 u10 all sure, .jour b d J] from m)
              clear m M4
              go_wp2_with (go_at_call 13; refine (o_all_raw (k := 2) M5.out rfl).mono ?_; rintro e w6 ⟨v6, rfl, o6, n6, b6⟩; have O6 := Lib.hid o6; have N6 := Lib.hid n6; have B6 := Lib.hid b6; clear o6 n6 b6)
              go_roundw
              case rel =>
                refine ⟨k + 1, some (b, J), D', all, J.l, hk1, by go_num, Lib.hid (.yes b _), S, Lib.hid ?_⟩
                have o6 := O6.out
                rw [← strVs_length J.l] at o6
                exact (M5.out.pair_set (i := 1) rfl B6.out o6 N6.out).2.1
              case measure => simp [intOf]; omega
            · have P := Lib.hid p
              have S := Lib.hid (s.mono (show k ≤ k + 1 by omega))
              have hne1 : (en == 0) = false := by simpa using hne
              clear p s HM HS d1 d2 d3 hcn
              go_wp2_with (go_at_call 17; refine (o_jsync1 (i := 0) (k := 2) M4.out rfl rfl (by decide) P.out).mono ?_; rintro e w5 ⟨rfl, m⟩; have M5 := Lib.hid m; clear m)
              go_roundw
              case rel => exact ⟨k + 1, some (b, J'), D', all, sure, hk1, by go_num, Lib.hid (.yes b _), S, Lib.hid (by exact M5.out)⟩
              case measure => simp [intOf]; omega
      by_cases k2 : x.K = 2
      · as_aux_lemma =>
          rw [k2] at d0
          have HS2 := Lib.hid ((HS.out.lose x.N).mono (show k ≤ k + 1 by omega))
          have M4 := Lib.hid (HM.out.fresh HB4.out)
          clear HS HM hcn
          go_wp2_with (go_at_call 11; refine (o_lose (i := 0) M4.out ljobs_get x.N HOK.out.N).mono ?_; rintro e w5 ⟨rfl, m⟩; have M5 := Lib.hid m; clear m)
          go_roundw
          case rel => exact ⟨k + 1, jx, D.lose x.N, all, sure, hk1, by go_num, HJ, HS2, Lib.hid (by have := M5.out; rwa [ljobs_set] at this)⟩
          case measure => simp [intOf]; omega
      by_cases k3 : x.K = 3
      · as_aux_lemma =>
          rw [k3] at d0
          have HS2 := Lib.hid ((HS.out.arm x.N x.Keep).mono (show k ≤ k + 1 by omega))
          have M4 := Lib.hid (HM.out.fresh HB4.out)
          clear HS HM hcn
          go_wp2_with (go_at_call 12; refine (o_arm (i := 0) M4.out ljobs_get x.N HOK.out.N _ x.Keep (nums_fresh HN.out HB4.out) (by have := HF1.out.2; omega)).mono ?_; rintro e w5 ⟨rfl, m⟩; have M5 := Lib.hid m; clear m)
          go_roundw
          case rel => exact ⟨k + 1, jx, D.arm x.N x.Keep, all, sure, hk1, by go_num, HJ, HS2, Lib.hid (by have := M5.out; rwa [ljobs_set] at this)⟩
          case measure => simp [intOf]; omega
      by_cases k4 : x.K = 4
      · as_aux_lemma =>
          rw [k4] at d0
          have HSC := Lib.hid (HS.out.crash x.Keep)
          have M3 := Lib.hid (ljobs_take (HM.out.fresh HB4.out))
          clear HM HS HJ
          go_wp2_with (go_at_call 18; refine (o_crash (i := 0) M3.out rfl _ x.Keep (nums_fresh HN.out HB4.out) (by have := HF1.out.2; omega)).mono ?_; rintro e w5 ⟨rfl, m⟩; refine Hid.out ?_)
          refine Lib.hid ?_
          have M4 := Lib.hid (show OMem w w5 [.disk d (D.crash x.Keep), .pair u9 u10 all sure] from m)
          clear m M3
          have M5 := Lib.hid (show OMem w _ [.disk d (D.crash x.Keep), .pair u9 u10 all sure] from M4.out.take 2)
          clear M4
          go_wp2_with (go_at_call 19; refine (o_start (i := 0) M5.out rfl).mono ?_; rintro e w6 ⟨rfl, m⟩; refine Hid.out ?_)
          refine Lib.hid ?_
          have M6 := Lib.hid (show OMem w w6 [.disk d (D.crash x.Keep).start, .pair u9 u10 all sure] from m)
          clear m M5
          rcases HSC.out.start.opened with ⟨e, D', p, hee, s⟩ | ⟨l, D', p, p1, p2, s⟩
          · have P := Lib.hid p
            have S := Lib.hid (s.mono (show k ≤ k + 1 by omega))
            clear p s
            rcases hee with rfl | rfl
            · go_wp2_with (first | (go_at_call 10; refine (o_open0 (i := 0) M6.out rfl 3 ⟨by decide, by decide⟩ he P.out).mono ?_; rintro e w7 ⟨rfl, m⟩; have M7 := Lib.hid m; clear m) | (go_at_call 15; refine (disky_any 8 _).mono ?_; rintro e w8 ⟨rfl, rfl⟩; simp only [isDisky_8]))
              go_roundw
              case rel => exact ⟨k + 1, none, D', all, sure, by omega, by go_num, Lib.hid .no, S, Lib.hid (by exact M7.out)⟩
              case measure => simp [intOf]; omega
            · go_wp2_with (first | (go_at_call 10; refine (o_open0 (i := 0) M6.out rfl 3 ⟨by decide, by decide⟩ he P.out).mono ?_; rintro e w7 ⟨rfl, m⟩; have M7 := Lib.hid m; clear m) | (go_at_call 15; refine (disky_any 9 _).mono ?_; rintro e w8 ⟨rfl, rfl⟩; simp only [isDisky_9]))
              go_roundw
              case rel => exact ⟨k + 1, none, D', all, sure, by omega, by go_num, Lib.hid .no, S, Lib.hid (by exact M7.out)⟩
              case measure => simp [intOf]; omega
          · have P := Lib.hid p
            have PA := Lib.hid (beginsB_true p1)
            have PS := Lib.hid (beginsB_true p2)
            have S := Lib.hid (fun b => (s b).mono (show k ≤ k + 1 by omega))
            have hal := HSC.out.few
            have hll : l.length ≤ 1000 := by have := p1.length_le; omega
            have hsl : sure.length ≤ 1000 := by have := p2.length_le; omega
            clear p p1 p2 s
            go_wp2_with (go_at_call 10; refine (o_open1 (i := 0) M6.out rfl 3 ⟨by decide, by decide⟩ he P.out).mono ?_; rintro e w7 ⟨b7, rfl, m⟩; refine Hid.out ?_)
            refine Lib.hid ?_
            have M7 := Lib.hid (show OMem w w7 [.disk d D', .pair u9 u10 all sure, .jour b7 d ⟨3, l, false⟩] from m)
            clear m M6
            go_wp2_with (go_at_call 13; refine (o_all_raw (k := 2) M7.out rfl).mono ?_; rintro e w8 ⟨v8, rfl, o8, n8, b8⟩; refine Hid.out ?_)
            refine Lib.hid ?_
            have m8 := M7.out.fresh b8
            have B1 := Lib.hid (begins_any u9 v8 all l w8 (m8.pair_at (i := 1) rfl).1 (by omega) (texts_own o8) (by omega))
            rw [PA.out] at B1
            have O8 := Lib.hid o8
            have N8 := Lib.hid n8
            have B8 := Lib.hid b8
            have M8 := Lib.hid m8
            clear m8 o8 n8 b8
            go_wp2_with (go_at_call 20; refine B1.out.mono ?_; rintro e w9 ⟨rfl, b9⟩; refine Hid.out ?_)
            refine Lib.hid ?_
            have m9 := M8.out.fresh b9
            have o9 := ownsRow_block (w' := w9) O8.out fun k hk => b9.block k (O8.out.lt k hk).2
            have B2 := Lib.hid (begins_any v8 u10 l sure w9 o9 (by omega) (texts_own (m9.pair_at (i := 1) rfl).2) (by omega))
            rw [PS.out] at B2
            have B89 := Lib.hid (B8.out.trans (b9.mono B8.out.size))
            have O9 := Lib.hid o9
            clear m9 o9 b9 B1
            go_wp2_with (go_at_call 20; refine B2.out.mono ?_; rintro e w10 ⟨rfl, b10⟩; have B10 := Lib.hid b10; clear b10)
            go_roundw
            case rel =>
              refine ⟨k + 1, some (b7, ⟨3, l, false⟩), D', l, l, by omega, by go_num, Lib.hid (.yes _ _), Lib.hid (S.out b7), Lib.hid ?_⟩
              have o10 := ownsRow_block (w' := w10) O9.out fun k hk => B10.out.block k (O9.out.lt k hk).2
              rw [← strVs_length l] at o10
              exact (M7.out.pair_set (i := 1) rfl (B89.out.trans (B10.out.mono B89.out.size)) o10 N8.out).2.2
            case measure => simp [intOf]; omega
      by_cases k5 : x.K = 5
      · as_aux_lemma =>
          rw [k5] at d0
          have HSC := Lib.hid HS.out
          have M4 := Lib.hid (ljobs_take (HM.out.fresh HB4.out))
          clear HM HS HJ
          have M5 := Lib.hid (show OMem w _ [.disk d D, .pair u9 u10 all sure] from M4.out.take 2)
          clear M4
          go_wp2_with (go_at_call 19; refine (o_start (i := 0) M5.out rfl).mono ?_; rintro e w6 ⟨rfl, m⟩; refine Hid.out ?_)
          refine Lib.hid ?_
          have M6 := Lib.hid (show OMem w w6 [.disk d D.start, .pair u9 u10 all sure] from m)
          clear m M5
          rcases HSC.out.start.opened with ⟨e, D', p, hee, s⟩ | ⟨l, D', p, p1, p2, s⟩
          · have P := Lib.hid p
            have S := Lib.hid (s.mono (show k ≤ k + 1 by omega))
            clear p s
            rcases hee with rfl | rfl
            · go_wp2_with (first | (go_at_call 10; refine (o_open0 (i := 0) M6.out rfl 3 ⟨by decide, by decide⟩ he P.out).mono ?_; rintro e w7 ⟨rfl, m⟩; have M7 := Lib.hid m; clear m) | (go_at_call 15; refine (disky_any 8 _).mono ?_; rintro e w8 ⟨rfl, rfl⟩; simp only [isDisky_8]))
              go_roundw
              case rel => exact ⟨k + 1, none, D', all, sure, by omega, by go_num, Lib.hid .no, S, Lib.hid (by exact M7.out)⟩
              case measure => simp [intOf]; omega
            · go_wp2_with (first | (go_at_call 10; refine (o_open0 (i := 0) M6.out rfl 3 ⟨by decide, by decide⟩ he P.out).mono ?_; rintro e w7 ⟨rfl, m⟩; have M7 := Lib.hid m; clear m) | (go_at_call 15; refine (disky_any 9 _).mono ?_; rintro e w8 ⟨rfl, rfl⟩; simp only [isDisky_9]))
              go_roundw
              case rel => exact ⟨k + 1, none, D', all, sure, by omega, by go_num, Lib.hid .no, S, Lib.hid (by exact M7.out)⟩
              case measure => simp [intOf]; omega
          · have P := Lib.hid p
            have PA := Lib.hid (beginsB_true p1)
            have PS := Lib.hid (beginsB_true p2)
            have S := Lib.hid (fun b => (s b).mono (show k ≤ k + 1 by omega))
            have hal := HSC.out.few
            have hll : l.length ≤ 1000 := by have := p1.length_le; omega
            have hsl : sure.length ≤ 1000 := by have := p2.length_le; omega
            clear p p1 p2 s
            go_wp2_with (go_at_call 10; refine (o_open1 (i := 0) M6.out rfl 3 ⟨by decide, by decide⟩ he P.out).mono ?_; rintro e w7 ⟨b7, rfl, m⟩; refine Hid.out ?_)
            refine Lib.hid ?_
            have M7 := Lib.hid (show OMem w w7 [.disk d D', .pair u9 u10 all sure, .jour b7 d ⟨3, l, false⟩] from m)
            clear m M6
            go_wp2_with (go_at_call 13; refine (o_all_raw (k := 2) M7.out rfl).mono ?_; rintro e w8 ⟨v8, rfl, o8, n8, b8⟩; refine Hid.out ?_)
            refine Lib.hid ?_
            have m8 := M7.out.fresh b8
            have B1 := Lib.hid (begins_any u9 v8 all l w8 (m8.pair_at (i := 1) rfl).1 (by omega) (texts_own o8) (by omega))
            rw [PA.out] at B1
            have O8 := Lib.hid o8
            have N8 := Lib.hid n8
            have B8 := Lib.hid b8
            have M8 := Lib.hid m8
            clear m8 o8 n8 b8
            go_wp2_with (go_at_call 20; refine B1.out.mono ?_; rintro e w9 ⟨rfl, b9⟩; refine Hid.out ?_)
            refine Lib.hid ?_
            have m9 := M8.out.fresh b9
            have o9 := ownsRow_block (w' := w9) O8.out fun k hk => b9.block k (O8.out.lt k hk).2
            have B2 := Lib.hid (begins_any v8 u10 l sure w9 o9 (by omega) (texts_own (m9.pair_at (i := 1) rfl).2) (by omega))
            rw [PS.out] at B2
            have B89 := Lib.hid (B8.out.trans (b9.mono B8.out.size))
            have O9 := Lib.hid o9
            clear m9 o9 b9 B1
            go_wp2_with (go_at_call 20; refine B2.out.mono ?_; rintro e w10 ⟨rfl, b10⟩; have B10 := Lib.hid b10; clear b10)
            go_roundw
            case rel =>
              refine ⟨k + 1, some (b7, ⟨3, l, false⟩), D', l, l, by omega, by go_num, Lib.hid (.yes _ _), Lib.hid (S.out b7), Lib.hid ?_⟩
              have o10 := ownsRow_block (w' := w10) O9.out fun k hk => B10.out.block k (O9.out.lt k hk).2
              rw [← strVs_length l] at o10
              exact (M7.out.pair_set (i := 1) rfl (B89.out.trans (B10.out.mono B89.out.size)) o10 N8.out).2.2
            case measure => simp [intOf]; omega
      have HS2 := Lib.hid (HS.out.mono (show k ≤ k + 1 by omega))
      clear HS
      go_wp2
      go_roundw
      case rel => exact ⟨k + 1, jx, D, all, sure, hk1, by go_num, HJ, HS2, Lib.hid (HM.out.fresh HB4.out)⟩
      case measure => simp [intOf]; omega
    by_cases heq : k = xs.length
    · as_aux_lemma =>
        have HLAST := Lib.hid (HS.out.last ks)
        have HSC := HS
        have HB4 := Lib.hid (below_alloc wr (.cells #[.int .i64 4, .string ⟨#[]⟩, .int .i64 0, .slice a1 ks.length c2] 34))
        have hcn : OCells (wr.alloc (.cells #[.int .i64 4, .string ⟨#[]⟩, .int .i64 0, .slice a1 ks.length c2] 34)) wr.heap.size 0 ⟨4, [], 0, ks⟩ (.slice a1 ks.length c2) := ⟨by rw [alloc_new_cell]; rfl, by rw [alloc_new_cell]; rfl, by rw [alloc_new_cell]; rfl, by rw [alloc_new_cell]; rfl⟩
        have M4 := Lib.hid (show OMem w (wr.alloc (.cells #[.int .i64 4, .string ⟨#[]⟩, .int .i64 0, .slice a1 ks.length c2] 34)) [.disk d D, .pair u9 u10 all sure, .op wr.heap.size ⟨4, [], 0, ks⟩ (.slice a1 ks.length c2)] from (ljobs_take HM.out).op_new HB4.out hcn (Nat.le_refl _) (by simp))
        clear HM HS HJ hcn
        go_wp2_with (go_at_call 11; refine (o_lose (i := 0) M4.out rfl 0 I64.zero).mono ?_; rintro e w4 ⟨rfl, m⟩; refine Hid.out ?_)
        refine Lib.hid ?_
        have M5 := Lib.hid (show OMem w w4 [.disk d (D.lose 0), .pair u9 u10 all sure, .op wr.heap.size ⟨4, [], 0, ks⟩ (.slice a1 ks.length c2)] from m)
        clear m M4
        go_wp2_with (go_at_call 12; refine (o_arm (i := 0) M5.out rfl 0 I64.zero (.slice none 0 0) [] (nums_nil _ _) (by decide)).mono ?_; rintro e w5 ⟨rfl, m⟩; refine Hid.out ?_)
        refine Lib.hid ?_
        have M6 := Lib.hid (show OMem w w5 [.disk d ((D.lose 0).arm 0 []), .pair u9 u10 all sure, .op wr.heap.size ⟨4, [], 0, ks⟩ (.slice a1 ks.length c2)] from m)
        have d0 : w5.cell? ⟨wr.heap.size, 0, none⟩ = some (.int .i64 4) := (m.op_at (i := 2) rfl).c0
        have d3 : w5.cell? ⟨wr.heap.size, 3, none⟩ = some (.slice a1 ks.length c2) := (m.op_at (i := 2) rfl).c3
        clear m M5
        go_wp2_with (go_at_call 18; refine (o_crash (i := 0) M6.out rfl _ ks (HK.out.to M6.out.below) (by have := HKL.out; omega)).mono ?_; rintro e w6 ⟨rfl, m⟩; refine Hid.out ?_)
        refine Lib.hid ?_
        have M4 := Lib.hid (show OMem w w6 [.disk d (((D.lose 0).arm 0 []).crash ks), .pair u9 u10 all sure, .op wr.heap.size ⟨4, [], 0, ks⟩ (.slice a1 ks.length c2)] from m)
        clear m M6 d0 d3
        have M5 := Lib.hid (show OMem w _ [.disk d (((D.lose 0).arm 0 []).crash ks), .pair u9 u10 all sure] from M4.out.take 2)
        clear M4
        go_wp2_with (go_at_call 19; refine (o_start (i := 0) M5.out rfl).mono ?_; rintro e w6 ⟨rfl, m⟩; refine Hid.out ?_)
        refine Lib.hid ?_
        have M6 := Lib.hid (show OMem w w6 [.disk d (((D.lose 0).arm 0 []).crash ks).start, .pair u9 u10 all sure] from m)
        clear m M5
        obtain ⟨l, D', p, p1, p2, s⟩ := HLAST.out
        have P := Lib.hid p
        have PA := Lib.hid (beginsB_true p1)
        have PS := Lib.hid (beginsB_true p2)
        have S := Lib.hid (fun b => (s b).mono (show k ≤ k + 1 by omega))
        have hal := HSC.out.few
        have hll : l.length ≤ 1000 := by have := p1.length_le; omega
        have hsl : sure.length ≤ 1000 := by have := p2.length_le; omega
        clear p p1 p2 s
        go_wp2_with (go_at_call 10; refine (o_open1 (i := 0) M6.out rfl 3 ⟨by decide, by decide⟩ he P.out).mono ?_; rintro e w7 ⟨b7, rfl, m⟩; refine Hid.out ?_)
        refine Lib.hid ?_
        have M7 := Lib.hid (show OMem w w7 [.disk d D', .pair u9 u10 all sure, .jour b7 d ⟨3, l, false⟩] from m)
        clear m M6
        go_wp2_with (go_at_call 13; refine (o_all_raw (k := 2) M7.out rfl).mono ?_; rintro e w8 ⟨v8, rfl, o8, n8, b8⟩; refine Hid.out ?_)
        refine Lib.hid ?_
        have m8 := M7.out.fresh b8
        have B1 := Lib.hid (begins_any u9 v8 all l w8 (m8.pair_at (i := 1) rfl).1 (by omega) (texts_own o8) (by omega))
        rw [PA.out] at B1
        have O8 := Lib.hid o8
        have N8 := Lib.hid n8
        have B8 := Lib.hid b8
        have M8 := Lib.hid m8
        clear m8 o8 n8 b8
        go_wp2_with (go_at_call 20; refine B1.out.mono ?_; rintro e w9 ⟨rfl, b9⟩; refine Hid.out ?_)
        refine Lib.hid ?_
        have m9 := M8.out.fresh b9
        have o9 := ownsRow_block (w' := w9) O8.out fun k hk => b9.block k (O8.out.lt k hk).2
        have B2 := Lib.hid (begins_any v8 u10 l sure w9 o9 (by omega) (texts_own (m9.pair_at (i := 1) rfl).2) (by omega))
        rw [PS.out] at B2
        have B89 := Lib.hid (B8.out.trans (b9.mono B8.out.size))
        have O9 := Lib.hid o9
        clear m9 o9 b9 B1
        go_wp2_with (go_at_call 20; refine B2.out.mono ?_; rintro e w10 ⟨rfl, b10⟩; have B10 := Lib.hid b10; clear b10)
        go_roundw
        case rel =>
          refine ⟨k + 1, some (b7, ⟨3, l, false⟩), D', l, l, by omega, by go_num, Lib.hid (.yes _ _), Lib.hid (S.out b7), Lib.hid ?_⟩
          have o10 := ownsRow_block (w' := w10) O9.out fun k hk => B10.out.block k (O9.out.lt k hk).2
          rw [← strVs_length l] at o10
          exact (M7.out.pair_set (i := 1) rfl (B89.out.trans (B10.out.mono B89.out.size)) o10 N8.out).2.2
        case measure => simp [intOf]; omega
    · obtain rfl : k = xs.length + 1 := by omega
      go_wp2
      go_ret
      exact ⟨rfl, HM.out.below⟩
theorem jlasts_walk (a0 : Option Addr) (n0 cap : Nat) (xs : List Op1) (hn0 : xs.length = n0) (hm0 : n0 ≤ maxLen) (o0 : OArgs w a0 xs) (a2 : Option Addr) (n2 c2 : Nat) (ks : List Int) (hn2 : ks.length = n2) (hm2 : n2 ≤ maxLen) (o2 : Nums w w (.slice a2 n2 c2) ks) (he : Env w) :
    Calls Tryd.prog 3 #[.slice a0 n0 cap, .slice a2 n2 c2] w fun e w' => e = .returned (.bool true) ∧ Below w.heap.size w w' := by
  subst hn0 hn2
  unfold maxLen at hm0 hm2
  by_cases hb : fewO xs = false ∨ 50 < ks.length
  · exact jlasts_out cap c2 o0 (by omega) (by omega) hb he
  · have h1 : fewO xs = true := by cases h : fewO xs with | true => rfl | false => exact absurd (.inl h) hb
    exact jlasts_main cap c2 o0 h1 o2 (by omega) he
end
end Go.Proofs.YtjbcgahdiolhhaaDoor.D2
