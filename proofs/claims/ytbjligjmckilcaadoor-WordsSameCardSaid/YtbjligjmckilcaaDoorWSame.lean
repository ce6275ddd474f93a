/- The walk of WordsSame. -/
import Derived.Test.YtbjligjmckilcaaDoorWUp
import Derived.BigQuiet
import Derived.Test.YtbjligjmckilcaaDoorOrd7
import Derived.Deep.CutRange
namespace Go.Proofs.YtbjligjmckilcaaDoor
open Go.RowKit Go.Maps Go.ChangeMaps Go.MapKept
open Wd
attribute [local go_sem ↓] Go.wp_at_zero Go.wp_at_succ
theorem find_two {s x : S} (h : x ∈ words s) : find [s, []] x = [0] := by
  have hx := words_all s x h
  rw [find_one (words_good hx)]
  have h1 : Wd.has x s = true := by unfold Wd.has; rw [List.contains_iff_mem]; exact h
  have h2 : Wd.has x [] = false := by
    unfold Wd.has
    rw [show words [] = [] from rfl]; rfl
  show fnd [s, []] x 2 = [0]
  rw [fnd_next, fnd_next]
  show (fnd [s, []] x 0 ++ if Wd.has x s = true then [((0 : Nat) : Int)] else []) ++ (if Wd.has x [] = true then [((1 : Nat) : Int)] else []) = [0]
  rw [h1, h2]; rfl
theorem glue_le (l : List S) (k : Nat) : (glue (l.take k)).length ≤ (glue l).length := by have := @glue_sub l k; omega
theorem glue_next {L : List S} {k : Nat} {x : S} (h : L[k]? = some x) : glue (L.take (k + 1)) = glue (L.take k) ++ [32] ++ x := by
  rw [List.take_add_one, h]
  show glue (L.take k ++ [x]) = _
  rw [glue_snoc]; simp
theorem two_txts (w : World) (a b : S) : TxAt (w.alloc (.cells #[.string (bs a), .string (bs b)] 9)) (.slice (some ⟨w.heap.size, 0, none⟩) 2 2) [a, b] := txts_lit w [a, b] (by simp)
theorem one_txt (w : World) (a : S) : TxAt (w.alloc (.cells #[.string (bs a)] 9)) (.slice (some ⟨w.heap.size, 0, none⟩) 1 1) [a] := txts_lit w [a] (by simp)
set_option maxHeartbeats 8000000 in
set_option maxRecDepth 100000 in
theorem same_walk {E : World → Prop} (A : WApi E) {w : World} {s : S} {q : Int} (hE : E w) (hq : 0 ≤ q ∧ q ≤ 255) :
    Calls Tryd.prog 6 #[.string (bs s), .int .u8 q] w fun e w' => e = .returned (.bool true) ∧ Below w.heap.size w w' := by
  have HE := Lib.hid hE
  have hz := bs_size s
  clear hE
  by_cases h1 : 400 < s.length
  · have h1' : (400 : Int) < (s.length : Int) := by omega
    go_enter Tryd.func6, Tryd.ntmps6
    go_wp2_with (go_at_call 7; refine (small_any A HE.out).mono ?_; rintro e w1 ⟨rfl, m1⟩; refine Hid.out ?_)
    refine Lib.hid ?_
    have HE := Lib.hid (A.keep HE.out m1)
    have B := Lib.hid m1
    clear m1
    go_wp2
    go_ret
    exact ⟨rfl, B.out⟩
  · have h1' : ¬ (400 : Int) < (s.length : Int) := by omega
    go_enter Tryd.func6, Tryd.ntmps6
    go_wp2_with (go_at_call 7; refine (small_any A HE.out).mono ?_; rintro e w1 ⟨rfl, m1⟩; refine Hid.out ?_)
    refine Lib.hid ?_
    have HE := Lib.hid (A.keep HE.out m1)
    have B := Lib.hid m1
    clear m1
    have H1 := A.words_ (s := s) HE.out (by omega)
    obtain ⟨L, hL⟩ : ∃ L, words s = L := ⟨_, rfl⟩
    have hlc := words_count s
    have hgll := words_glue_len s
    have HG := Lib.hid (words_all s)
    rw [hL] at H1 hlc hgll HG
    have HLL := Lib.hid hL
    have H1 := Lib.hid H1
    clear hL
    go_wp2_with (go_at_call 10; refine (H1.out).mono ?_; rintro e w2 ⟨v, rfl, hv, b2⟩; refine Hid.out ?_)
    refine Lib.hid ?_
    have HV := Lib.hid hv
    obtain ⟨va, vc, rfl⟩ := hv.slice
    have B2 := Lib.hid (B.out.trans (b2.mono B.out.size))
    have HE2 := Lib.hid (A.keep HE.out b2)
    clear hv b2 H1
    go_wp2
    go_loopw [7, 8] (fun o i wr => ∃ k : Nat, k ≤ L.length ∧ i = .int .i64 k ∧ o = .string (bs (glue (L.take k))) ∧ Hid (Below w2.heap.size w2 wr)) (fun _ i _ => L.length - (intOf i).toNat)
    case atStart => exact ⟨0, Nat.zero_le _, rfl, rfl, Lib.hid (Below.refl _ _)⟩
    case round =>
      obtain ⟨k, hk, rfl, rfl, HB⟩ := hrel
      by_cases hlt : k < L.length
      · obtain ⟨x, hx⟩ : ∃ x, L[k]? = some x := ⟨_, List.getElem?_eq_getElem hlt⟩
        obtain ⟨vb, vo, vcap, e1, _, hc⟩ := (HV.out.keep HB.out).form (by omega)
        cases e1
        have c0 := hc k x hx
        have hfk := glue_le L k
        have hfk2 := glue_le L (k + 1)
        have hfn := glue_next hx
        have hxm := List.mem_of_getElem? hx
        have hxl : x.length ≤ 800 := by have := mem_glue hxm; omega
        have HW1 := Lib.hid (show words x = [x] from words_good (HG.out x hxm))
        have HF1 := Lib.hid (show find [s, []] x = [0] from find_two (by rw [HLL.out]; exact hxm))
        have e1 : bs (glue (L.take k)) ++ (⟨#[32]⟩ : ByteArray) = bs (glue (L.take k) ++ [32]) := bs_append _ [32]
        have e2 : bs (glue (L.take k) ++ [32]) ++ bs x = bs (glue (L.take (k + 1))) := by rw [hfn]; exact bs_append _ _
        have z1 := bs_size (glue (L.take k))
        have z2 := bs_size x
        have z3 : (bs (glue (L.take k) ++ [32])).size ≤ 2000 := by rw [bs_size]; simp; omega
        have SS := Lib.hid (show ∀ wx, Below wr.heap.size wr wx → wx.cell? ⟨vb, vo + k, none⟩ = some (.string (bs x)) from fun wx hx => below_cell c0 hx)
        have EE := Lib.hid (show ∀ wx, Below wr.heap.size wr wx → E wx from fun wx hx => A.keep HE2.out (HB.out.trans (hx.mono HB.out.size)))
        obtain ⟨F2, hF2⟩ : ∃ F2, glue (L.take (k + 1)) = F2 := ⟨_, rfl⟩
        rw [hF2] at e2
        have HF2 := Lib.hid hF2
        clear hF2 hfn hc hx hxm hfk2
        generalize glue (L.take k) = F at *
        generalize F ++ [32] = F1 at *
        go_upto_region 10 with fail
        go_cut [55] from 32 to 55 (fun v wx => v = .bool false ∧ Hid (Below wr.heap.size wr wx))
        case first =>
          have BC := Lib.hid (below_drew wr)
          have S0 := SS.out _ BC.out
          refine region_till 21 (fun wx => wx.cell? ⟨vb, vo + k, none⟩ = some (.string (bs x))) (by kernel_rfl) ?_
          refine till_take 0 30 false (v := ?v0) (by kernel_rfl) (by kernel_rfl) (by kernel_rfl) (by kernel_rfl) (by kernel_rfl) (fun _ _ _ h => h) ?hw0 S0 ?hy0 ?rest0
          case hw0 => (simp only [List.getElem?_toArray, List.getElem?_cons_zero, Option.elim]; rfl)
          case hy0 => (simp only [List.getElem?_toArray, List.getElem?_cons_zero, Option.elim]; intro wx _; go_simp; with_reducible rfl)
          simp only [dstOf, List.getElem?_toArray, List.getElem?_cons_zero, Option.bind, Act.put, List.setIfInBounds_toArray, List.set_cons_zero, List.set_cons_succ]
          refine till_take 1 30 false (v := ?v1) (by kernel_rfl) (by kernel_rfl) (by kernel_rfl) (by kernel_rfl) (by kernel_rfl) (fun _ _ _ h => h) ?hw1 S0 ?hy1 ?rest1
          case hw1 => (simp only [List.getElem?_toArray, List.getElem?_cons_zero, List.getElem?_cons_succ, Option.elim]; rfl)
          case hy1 => (simp only [List.getElem?_toArray, List.getElem?_cons_zero, List.getElem?_cons_succ, Option.elim]; intro wx _; go_simp; with_reducible rfl)
          simp only [dstOf, List.getElem?_toArray, List.getElem?_cons_zero, List.getElem?_cons_succ, Option.bind, Act.put, List.setIfInBounds_toArray, List.set_cons_zero, List.set_cons_succ]
          refine till_take 2 30 false (v := ?v2) (by kernel_rfl) (by kernel_rfl) (by kernel_rfl) (by kernel_rfl) (by kernel_rfl) (fun _ _ _ h => h) ?hw2 S0 ?hy2 ?rest2
          case hw2 => (simp only [List.getElem?_toArray, List.getElem?_cons_zero, List.getElem?_cons_succ, Option.elim]; rfl)
          case hy2 => (simp only [List.getElem?_toArray, List.getElem?_cons_zero, List.getElem?_cons_succ, Option.elim]; intro wx _; go_simp; with_reducible rfl)
          simp only [dstOf, List.getElem?_toArray, List.getElem?_cons_zero, List.getElem?_cons_succ, Option.bind, Act.put, List.setIfInBounds_toArray, List.set_cons_zero, List.set_cons_succ]
          refine till_take 3 30 true (v := ?v3) (by kernel_rfl) (by kernel_rfl) (by kernel_rfl) (by kernel_rfl) (by kernel_rfl) (fun _ _ _ h => h) ?hw3 S0 ?hy3 ?rest3
          case hw3 => (simp only [List.getElem?_toArray, List.getElem?_cons_zero, List.getElem?_cons_succ, Option.elim]; rfl)
          case hy3 => (simp only [List.getElem?_toArray, List.getElem?_cons_zero, List.getElem?_cons_succ, Option.elim]; intro wx hx; have x0 := hx trivial; go_simp; with_reducible rfl)
          simp only [dstOf, List.getElem?_toArray, List.getElem?_cons_zero, List.getElem?_cons_succ, Option.bind, Act.put, List.setIfInBounds_toArray, List.set_cons_zero, List.set_cons_succ]
          refine till_take 5 30 false (v := ?v5) (by kernel_rfl) (by kernel_rfl) (by kernel_rfl) (by kernel_rfl) (by kernel_rfl) (fun _ _ _ h => h) ?hw5 S0 ?hy5 ?rest5
          case hw5 => (simp only [List.getElem?_toArray, List.getElem?_cons_zero, List.getElem?_cons_succ, Option.elim]; rfl)
          case hy5 => (simp only [List.getElem?_toArray, List.getElem?_cons_zero, List.getElem?_cons_succ, Option.elim]; intro wx _; go_simp; with_reducible rfl)
          simp only [dstOf, List.getElem?_toArray, List.getElem?_cons_zero, List.getElem?_cons_succ, Option.bind, Act.put, List.setIfInBounds_toArray, List.set_cons_zero, List.set_cons_succ]
          refine till_take 6 30 false (v := ?v6) (by kernel_rfl) (by kernel_rfl) (by kernel_rfl) (by kernel_rfl) (by kernel_rfl) (fun _ _ _ h => h) ?hw6 S0 ?hy6 ?rest6
          case hw6 => (simp only [List.getElem?_toArray, List.getElem?_cons_zero, List.getElem?_cons_succ, Option.elim]; rfl)
          case hy6 => (simp only [List.getElem?_toArray, List.getElem?_cons_zero, List.getElem?_cons_succ, Option.elim]; intro wx _; go_simp; with_reducible rfl)
          simp only [dstOf, List.getElem?_toArray, List.getElem?_cons_zero, List.getElem?_cons_succ, Option.bind, Act.put, List.setIfInBounds_toArray, List.set_cons_zero, List.set_cons_succ]
          refine till_take 7 30 false (v := ?v7) (by kernel_rfl) (by kernel_rfl) (by kernel_rfl) (by kernel_rfl) (by kernel_rfl) (fun _ _ _ h => h) ?hw7 S0 ?hy7 ?rest7
          case hw7 => (simp only [List.getElem?_toArray, List.getElem?_cons_zero, List.getElem?_cons_succ, Option.elim]; rfl)
          case hy7 => (simp only [List.getElem?_toArray, List.getElem?_cons_zero, List.getElem?_cons_succ, Option.elim]; intro wx _; go_simp; with_reducible rfl)
          simp only [dstOf, List.getElem?_toArray, List.getElem?_cons_zero, List.getElem?_cons_succ, Option.bind, Act.put, List.setIfInBounds_toArray, List.set_cons_zero, List.set_cons_succ]
          refine till_take 8 30 true (v := ?v8) (by kernel_rfl) (by kernel_rfl) (by kernel_rfl) (by kernel_rfl) (by kernel_rfl) (fun _ _ _ h => h) ?hw8 S0 ?hy8 ?rest8
          case hw8 => (simp only [List.getElem?_toArray, List.getElem?_cons_zero, List.getElem?_cons_succ, Option.elim]; rfl)
          case hy8 => (simp only [List.getElem?_toArray, List.getElem?_cons_zero, List.getElem?_cons_succ, Option.elim]; intro wx hx; have x0 := hx trivial; go_simp; with_reducible rfl)
          simp only [dstOf, List.getElem?_toArray, List.getElem?_cons_zero, List.getElem?_cons_succ, Option.bind, Act.put, List.setIfInBounds_toArray, List.set_cons_zero, List.set_cons_succ]
          have cnW := A.words_ (s := x) (EE.out _ BC.out) (by omega)
          rw [HW1.out] at cnW
          have cnW := Lib.hid cnW
          have HFW := Lib.hid (show Fit [s, []] from ⟨by simp, fun y hy => by simp at hy; rcases hy with rfl | rfl; omega; simp⟩)
          refine till_split 4 9 (by kernel_rfl) ?_ ?_
          · intro K hK
            simp only [List.getElem?_toArray, List.getElem?_cons_zero, List.getElem?_cons_succ, Option.elim]
            rw [if_pos (by rfl)]
            go_simp
            go_at_call 10
            refine (cnW.out).mono ?_
            rintro e wa ⟨va2, rfl, hwa, bb⟩
            refine hK.out _ _ (SS.out _ (BC.out.trans (bb.mono BC.out.size))) ?_
            clear hK K
            try simp only [Act.put, List.setIfInBounds_toArray, List.set_cons_zero, List.set_cons_succ]
            have BC := Lib.hid (BC.out.trans (bb.mono BC.out.size))
            have S0 := SS.out _ BC.out
            have HW2 := Lib.hid hwa
            clear bb
            refine till_before 9 (by kernel_rfl) (fun K hK => ?_)
            simp only [List.getElem?_toArray, List.getElem?_cons_zero, List.getElem?_cons_succ, Option.elim]
            rw [if_pos (by rfl)]
            go_simp
            refine hK.out _ _ (SS.out _ (BC.out.trans (((Below.refl wa.heap.size wa).alloc (Nat.le_refl _) (.cells #[.string (bs x)] 9)).mono BC.out.size))) ?_
            clear hK K
            try simp only [Act.put, List.setIfInBounds_toArray, List.set_cons_zero, List.set_cons_succ]
            have q0 := one_txt wa x
            have HX1 := Lib.hid q0
            clear q0
            have bb := ((Below.refl wa.heap.size wa).alloc (Nat.le_refl _) (.cells #[.string (bs x)] 9))
            have BC := Lib.hid (BC.out.trans (bb.mono BC.out.size))
            have HW2 := Lib.hid (HW2.out.keep bb)
            have S0 := SS.out _ BC.out
            clear bb
            have cnws := Lib.hid (same_yes HW2.out HX1.out (by simp))
            refine till_before 10 (by kernel_rfl) (fun K hK => ?_)
            simp only [List.getElem?_toArray, List.getElem?_cons_zero, List.getElem?_cons_succ, Option.elim]
            rw [if_pos (by rfl)]
            go_simp
            go_at_call 9
            refine (cnws.out).mono ?_
            rintro e ws ⟨rfl, bb⟩
            refine hK.out _ _ (SS.out _ (BC.out.trans (bb.mono BC.out.size))) ?_
            clear hK K
            try simp only [Act.put, List.setIfInBounds_toArray, List.set_cons_zero, List.set_cons_succ]
            have BC := Lib.hid (BC.out.trans (bb.mono BC.out.size))
            have HW2 := Lib.hid (HW2.out.keep bb)
            have HX1 := Lib.hid (HX1.out.keep bb)
            have S0 := SS.out _ BC.out
            clear bb
            refine till_take 11 30 false (v := ?v11A) (by kernel_rfl) (by kernel_rfl) (by kernel_rfl) (by kernel_rfl) (by kernel_rfl) (fun _ _ _ h => h) ?hw11A S0 ?hy11A ?rest11A
            case hw11A => (simp only [List.getElem?_toArray, List.getElem?_cons_zero, List.getElem?_cons_succ, Option.elim]; rfl)
            case hy11A => (simp only [List.getElem?_toArray, List.getElem?_cons_zero, List.getElem?_cons_succ, Option.elim]; intro wx _; go_simp; with_reducible rfl)
            simp only [dstOf, List.getElem?_toArray, List.getElem?_cons_zero, List.getElem?_cons_succ, Option.bind, Act.put, List.setIfInBounds_toArray, List.set_cons_zero, List.set_cons_succ]
            refine till_take 12 30 false (v := ?v12A) (by kernel_rfl) (by kernel_rfl) (by kernel_rfl) (by kernel_rfl) (by kernel_rfl) (fun _ _ _ h => h) ?hw12A S0 ?hy12A ?rest12A
            case hw12A => (simp only [List.getElem?_toArray, List.getElem?_cons_zero, List.getElem?_cons_succ, Option.elim]; rfl)
            case hy12A => (simp only [List.getElem?_toArray, List.getElem?_cons_zero, List.getElem?_cons_succ, Option.elim]; intro wx _; go_simp; with_reducible rfl)
            simp only [dstOf, List.getElem?_toArray, List.getElem?_cons_zero, List.getElem?_cons_succ, Option.bind, Act.put, List.setIfInBounds_toArray, List.set_cons_zero, List.set_cons_succ]
            refine till_take 13 30 false (v := ?v13A) (by kernel_rfl) (by kernel_rfl) (by kernel_rfl) (by kernel_rfl) (by kernel_rfl) (fun _ _ _ h => h) ?hw13A S0 ?hy13A ?rest13A
            case hw13A => (simp only [List.getElem?_toArray, List.getElem?_cons_zero, List.getElem?_cons_succ, Option.elim]; rfl)
            case hy13A => (simp only [List.getElem?_toArray, List.getElem?_cons_zero, List.getElem?_cons_succ, Option.elim]; intro wx _; go_simp; with_reducible rfl)
            simp only [dstOf, List.getElem?_toArray, List.getElem?_cons_zero, List.getElem?_cons_succ, Option.bind, Act.put, List.setIfInBounds_toArray, List.set_cons_zero, List.set_cons_succ]
            refine till_take 15 30 false (v := ?v15A) (by kernel_rfl) (by kernel_rfl) (by kernel_rfl) (by kernel_rfl) (by kernel_rfl) (fun _ _ _ h => h) ?hw15A S0 ?hy15A ?rest15A
            case hw15A => (simp only [List.getElem?_toArray, List.getElem?_cons_zero, List.getElem?_cons_succ, Option.elim]; rfl)
            case hy15A => (simp only [List.getElem?_toArray, List.getElem?_cons_zero, List.getElem?_cons_succ, Option.elim]; intro wx _; go_simp; with_reducible rfl)
            simp only [dstOf, List.getElem?_toArray, List.getElem?_cons_zero, List.getElem?_cons_succ, Option.bind, Act.put, List.setIfInBounds_toArray, List.set_cons_zero, List.set_cons_succ]
            refine till_take 16 30 false (v := ?v16A) (by kernel_rfl) (by kernel_rfl) (by kernel_rfl) (by kernel_rfl) (by kernel_rfl) (fun _ _ _ h => h) ?hw16A S0 ?hy16A ?rest16A
            case hw16A => (simp only [List.getElem?_toArray, List.getElem?_cons_zero, List.getElem?_cons_succ, Option.elim]; rfl)
            case hy16A => (simp only [List.getElem?_toArray, List.getElem?_cons_zero, List.getElem?_cons_succ, Option.elim]; intro wx _; go_simp; with_reducible rfl)
            simp only [dstOf, List.getElem?_toArray, List.getElem?_cons_zero, List.getElem?_cons_succ, Option.bind, Act.put, List.setIfInBounds_toArray, List.set_cons_zero, List.set_cons_succ]
            refine till_take 17 30 false (v := ?v17A) (by kernel_rfl) (by kernel_rfl) (by kernel_rfl) (by kernel_rfl) (by kernel_rfl) (fun _ _ _ h => h) ?hw17A S0 ?hy17A ?rest17A
            case hw17A => (simp only [List.getElem?_toArray, List.getElem?_cons_zero, List.getElem?_cons_succ, Option.elim]; rfl)
            case hy17A => (simp only [List.getElem?_toArray, List.getElem?_cons_zero, List.getElem?_cons_succ, Option.elim]; intro wx _; go_simp; with_reducible rfl)
            simp only [dstOf, List.getElem?_toArray, List.getElem?_cons_zero, List.getElem?_cons_succ, Option.bind, Act.put, List.setIfInBounds_toArray, List.set_cons_zero, List.set_cons_succ]
            refine till_take 18 30 true (v := ?v18A) (by kernel_rfl) (by kernel_rfl) (by kernel_rfl) (by kernel_rfl) (by kernel_rfl) (fun _ _ _ h => h) ?hw18A S0 ?hy18A ?rest18A
            case hw18A => (simp only [List.getElem?_toArray, List.getElem?_cons_zero, List.getElem?_cons_succ, Option.elim]; rfl)
            case hy18A => (simp only [List.getElem?_toArray, List.getElem?_cons_zero, List.getElem?_cons_succ, Option.elim]; intro wx hx; have x0 := hx trivial; go_simp; with_reducible rfl)
            simp only [dstOf, List.getElem?_toArray, List.getElem?_cons_zero, List.getElem?_cons_succ, Option.bind, Act.put, List.setIfInBounds_toArray, List.set_cons_zero, List.set_cons_succ]
            refine till_split 14 20 (by kernel_rfl) ?_ ?_
            · intro K hK
              simp only [List.getElem?_toArray, List.getElem?_cons_zero, List.getElem?_cons_succ, Option.elim]
              rw [if_pos (by rfl)]
              go_simp
              refine hK.out _ _ (SS.out _ (BC.out.trans (((Below.refl ws.heap.size ws).alloc (Nat.le_refl _) (.cells #[.string (bs s), .string (bs [])] 9)).mono BC.out.size))) ?_
              clear hK K
              try simp only [Act.put, List.setIfInBounds_toArray, List.set_cons_zero, List.set_cons_succ]
              have q0 := two_txts ws s []
              have HS2 := Lib.hid q0
              clear q0
              have bb := ((Below.refl ws.heap.size ws).alloc (Nat.le_refl _) (.cells #[.string (bs s), .string (bs [])] 9))
              have BC := Lib.hid (BC.out.trans (bb.mono BC.out.size))
              have HW2 := Lib.hid (HW2.out.keep bb)
              have HX1 := Lib.hid (HX1.out.keep bb)
              have S0 := SS.out _ BC.out
              clear bb
              have cnA := A.find_ (s := x) (EE.out _ BC.out) HS2.out HFW.out (by omega)
              rw [HF1.out] at cnA
              have cnA := Lib.hid cnA
              refine till_split 19 20 (by kernel_rfl) ?_ ?_
              · intro K hK
                simp only [List.getElem?_toArray, List.getElem?_cons_zero, List.getElem?_cons_succ, Option.elim]
                rw [if_pos (by rfl)]
                go_simp
                go_at_call 17
                refine (cnA.out).mono ?_
                rintro e wf ⟨vf, rfl, hf, bb⟩
                refine hK.out _ _ (SS.out _ (BC.out.trans (bb.mono BC.out.size))) ?_
                clear hK K
                try simp only [Act.put, List.setIfInBounds_toArray, List.set_cons_zero, List.set_cons_succ]
                have BC := Lib.hid (BC.out.trans (bb.mono BC.out.size))
                have HW2 := Lib.hid (HW2.out.keep bb)
                have HX1 := Lib.hid (HX1.out.keep bb)
                have HS2 := Lib.hid (HS2.out.keep bb)
                have S0 := SS.out _ BC.out
                have HN1 := Lib.hid hf
                clear bb
                refine till_before 20 (by kernel_rfl) (fun K hK => ?_)
                simp only [List.getElem?_toArray, List.getElem?_cons_zero, List.getElem?_cons_succ, Option.elim]
                rw [if_pos (by rfl)]
                go_simp
                refine hK.out _ _ (SS.out _ (BC.out.trans (((Below.refl wf.heap.size wf).alloc (Nat.le_refl _) (.cells #[.int .i64 0] 3)).mono BC.out.size))) ?_
                clear hK K
                try simp only [Act.put, List.setIfInBounds_toArray, List.set_cons_zero, List.set_cons_succ]
                have q0 := nums_one wf 0
                have HN0 := Lib.hid q0
                clear q0
                have bb := ((Below.refl wf.heap.size wf).alloc (Nat.le_refl _) (.cells #[.int .i64 0] 3))
                have BC := Lib.hid (BC.out.trans (bb.mono BC.out.size))
                have HW2 := Lib.hid (HW2.out.keep bb)
                have HX1 := Lib.hid (HX1.out.keep bb)
                have HS2 := Lib.hid (HS2.out.keep bb)
                have HN1 := Lib.hid (HN1.out.keep bb)
                have S0 := SS.out _ BC.out
                clear bb
                have cnwz := Lib.hid (ints_yes HN1.out HN0.out (by simp))
                refine till_step 21 (by kernel_rfl) (by kernel_rfl) (fun K hK => ?_)
                simp only [List.getElem?_toArray, List.getElem?_cons_zero, List.getElem?_cons_succ, Option.elim]
                rw [if_pos (by rfl)]
                go_simp
                go_at_call 16
                refine (cnwz.out).mono ?_
                rintro e wz ⟨rfl, bb⟩
                refine hK.out _ _ ?_
                clear hK K
                try simp only [Act.put, List.setIfInBounds_toArray, List.set_cons_zero, List.set_cons_succ]
                have BC := Lib.hid (BC.out.trans (bb.mono BC.out.size))
                have HW2 := Lib.hid (HW2.out.keep bb)
                have HX1 := Lib.hid (HX1.out.keep bb)
                have HS2 := Lib.hid (HS2.out.keep bb)
                have HN1 := Lib.hid (HN1.out.keep bb)
                have HN0 := Lib.hid (HN0.out.keep bb)
                have S0 := SS.out _ BC.out
                clear bb
                refine till_late 22 (v := ?v22AP1) (by kernel_rfl) (by kernel_rfl) (by kernel_rfl) (by kernel_rfl) (fun _ _ _ h => h) (by kernel_rfl) ?hw22AP1 ?hy22AP1 ?rest22AP1
                case hw22AP1 => (simp only [List.getElem?_toArray, List.getElem?_cons_zero, List.getElem?_cons_succ, Option.elim]; rfl)
                case hy22AP1 => (simp only [List.getElem?_toArray, List.getElem?_cons_zero, List.getElem?_cons_succ, Option.elim]; intro wx; go_simp; with_reducible rfl)
                simp only [dstOf, List.getElem?_toArray, List.getElem?_cons_zero, List.getElem?_cons_succ, Option.bind, Act.put, List.setIfInBounds_toArray, List.set_cons_zero, List.set_cons_succ]
                refine till_late 23 (v := ?v23AP1) (by kernel_rfl) (by kernel_rfl) (by kernel_rfl) (by kernel_rfl) (fun _ _ _ h => h) (by kernel_rfl) ?hw23AP1 ?hy23AP1 ?rest23AP1
                case hw23AP1 => (simp only [List.getElem?_toArray, List.getElem?_cons_zero, List.getElem?_cons_succ, Option.elim]; rfl)
                case hy23AP1 => (simp only [List.getElem?_toArray, List.getElem?_cons_zero, List.getElem?_cons_succ, Option.elim]; intro wx; go_simp; with_reducible rfl)
                simp only [dstOf, List.getElem?_toArray, List.getElem?_cons_zero, List.getElem?_cons_succ, Option.bind, Act.put, List.setIfInBounds_toArray, List.set_cons_zero, List.set_cons_succ]
                refine till_end (by kernel_rfl) ?_ _
                go_wp2
                go_meet
                exact ⟨rfl, BC⟩
              · intro K hK
                simp only [List.getElem?_toArray, List.getElem?_cons_zero, List.getElem?_cons_succ, Option.elim]
                rw [if_pos (by rfl)]
                go_simp
                refine hK.out _ _ (SS.out _ (BC.out.trans (((Below.refl (ws.alloc (.cells #[.string (bs s), .string (bs [])] 9)).heap.size (ws.alloc (.cells #[.string (bs s), .string (bs [])] 9))).alloc (Nat.le_refl _) (.cells #[.int .i64 0] 3)).mono BC.out.size))) ?_
                clear hK K
                try simp only [Act.put, List.setIfInBounds_toArray, List.set_cons_zero, List.set_cons_succ]
                have q0 := nums_one (ws.alloc (.cells #[.string (bs s), .string (bs [])] 9)) 0
                rw [show (ws.alloc (.cells #[.string (bs s), .string (bs [])] 9)).heap.size = ws.heap.size + 1 by simp] at q0
                have HN0 := Lib.hid q0
                clear q0
                have bb := ((Below.refl (ws.alloc (.cells #[.string (bs s), .string (bs [])] 9)).heap.size (ws.alloc (.cells #[.string (bs s), .string (bs [])] 9))).alloc (Nat.le_refl _) (.cells #[.int .i64 0] 3))
                have BC := Lib.hid (BC.out.trans (bb.mono BC.out.size))
                have HW2 := Lib.hid (HW2.out.keep bb)
                have HX1 := Lib.hid (HX1.out.keep bb)
                have HS2 := Lib.hid (HS2.out.keep bb)
                have S0 := SS.out _ BC.out
                clear bb
                have cnwf := A.find_ (s := x) (EE.out _ BC.out) HS2.out HFW.out (by omega)
                rw [HF1.out] at cnwf
                have cnwf := Lib.hid cnwf
                refine till_before 19 (by kernel_rfl) (fun K hK => ?_)
                simp only [List.getElem?_toArray, List.getElem?_cons_zero, List.getElem?_cons_succ, Option.elim]
                rw [if_pos (by rfl)]
                go_simp
                go_at_call 17
                refine (cnwf.out).mono ?_
                rintro e wf ⟨vf, rfl, hwf, bb⟩
                refine hK.out _ _ (SS.out _ (BC.out.trans (bb.mono BC.out.size))) ?_
                clear hK K
                try simp only [Act.put, List.setIfInBounds_toArray, List.set_cons_zero, List.set_cons_succ]
                have BC := Lib.hid (BC.out.trans (bb.mono BC.out.size))
                have HW2 := Lib.hid (HW2.out.keep bb)
                have HX1 := Lib.hid (HX1.out.keep bb)
                have HS2 := Lib.hid (HS2.out.keep bb)
                have HN0 := Lib.hid (HN0.out.keep bb)
                have S0 := SS.out _ BC.out
                have HN1 := Lib.hid hwf
                clear bb
                have cnwz := Lib.hid (ints_yes HN1.out HN0.out (by simp))
                refine till_step 21 (by kernel_rfl) (by kernel_rfl) (fun K hK => ?_)
                simp only [List.getElem?_toArray, List.getElem?_cons_zero, List.getElem?_cons_succ, Option.elim]
                rw [if_pos (by rfl)]
                go_simp
                go_at_call 16
                refine (cnwz.out).mono ?_
                rintro e wz ⟨rfl, bb⟩
                refine hK.out _ _ ?_
                clear hK K
                try simp only [Act.put, List.setIfInBounds_toArray, List.set_cons_zero, List.set_cons_succ]
                have BC := Lib.hid (BC.out.trans (bb.mono BC.out.size))
                have HW2 := Lib.hid (HW2.out.keep bb)
                have HX1 := Lib.hid (HX1.out.keep bb)
                have HS2 := Lib.hid (HS2.out.keep bb)
                have HN0 := Lib.hid (HN0.out.keep bb)
                have HN1 := Lib.hid (HN1.out.keep bb)
                have S0 := SS.out _ BC.out
                clear bb
                refine till_late 22 (v := ?v22AP2) (by kernel_rfl) (by kernel_rfl) (by kernel_rfl) (by kernel_rfl) (fun _ _ _ h => h) (by kernel_rfl) ?hw22AP2 ?hy22AP2 ?rest22AP2
                case hw22AP2 => (simp only [List.getElem?_toArray, List.getElem?_cons_zero, List.getElem?_cons_succ, Option.elim]; rfl)
                case hy22AP2 => (simp only [List.getElem?_toArray, List.getElem?_cons_zero, List.getElem?_cons_succ, Option.elim]; intro wx; go_simp; with_reducible rfl)
                simp only [dstOf, List.getElem?_toArray, List.getElem?_cons_zero, List.getElem?_cons_succ, Option.bind, Act.put, List.setIfInBounds_toArray, List.set_cons_zero, List.set_cons_succ]
                refine till_late 23 (v := ?v23AP2) (by kernel_rfl) (by kernel_rfl) (by kernel_rfl) (by kernel_rfl) (fun _ _ _ h => h) (by kernel_rfl) ?hw23AP2 ?hy23AP2 ?rest23AP2
                case hw23AP2 => (simp only [List.getElem?_toArray, List.getElem?_cons_zero, List.getElem?_cons_succ, Option.elim]; rfl)
                case hy23AP2 => (simp only [List.getElem?_toArray, List.getElem?_cons_zero, List.getElem?_cons_succ, Option.elim]; intro wx; go_simp; with_reducible rfl)
                simp only [dstOf, List.getElem?_toArray, List.getElem?_cons_zero, List.getElem?_cons_succ, Option.bind, Act.put, List.setIfInBounds_toArray, List.set_cons_zero, List.set_cons_succ]
                refine till_end (by kernel_rfl) ?_ _
                go_wp2
                go_meet
                exact ⟨rfl, BC⟩
            · intro K hK
              simp only [List.getElem?_toArray, List.getElem?_cons_zero, List.getElem?_cons_succ, Option.elim]
              rw [if_pos (by rfl)]
              go_simp
              refine hK.out _ _ (SS.out _ (BC.out.trans (((Below.refl ws.heap.size ws).alloc (Nat.le_refl _) (.cells #[.int .i64 0] 3)).mono BC.out.size))) ?_
              clear hK K
              try simp only [Act.put, List.setIfInBounds_toArray, List.set_cons_zero, List.set_cons_succ]
              have q0 := nums_one ws 0
              have HN0 := Lib.hid q0
              clear q0
              have bb := ((Below.refl ws.heap.size ws).alloc (Nat.le_refl _) (.cells #[.int .i64 0] 3))
              have BC := Lib.hid (BC.out.trans (bb.mono BC.out.size))
              have HW2 := Lib.hid (HW2.out.keep bb)
              have HX1 := Lib.hid (HX1.out.keep bb)
              have S0 := SS.out _ BC.out
              clear bb
              refine till_before 14 (by kernel_rfl) (fun K hK => ?_)
              simp only [List.getElem?_toArray, List.getElem?_cons_zero, List.getElem?_cons_succ, Option.elim]
              rw [if_pos (by rfl)]
              go_simp
              refine hK.out _ _ (SS.out _ (BC.out.trans (((Below.refl (ws.alloc (.cells #[.int .i64 0] 3)).heap.size (ws.alloc (.cells #[.int .i64 0] 3))).alloc (Nat.le_refl _) (.cells #[.string (bs s), .string (bs [])] 9)).mono BC.out.size))) ?_
              clear hK K
              try simp only [Act.put, List.setIfInBounds_toArray, List.set_cons_zero, List.set_cons_succ]
              have q0 := two_txts (ws.alloc (.cells #[.int .i64 0] 3)) s []
              rw [show (ws.alloc (.cells #[.int .i64 0] 3)).heap.size = ws.heap.size + 1 by simp] at q0
              have HS2 := Lib.hid q0
              clear q0
              have bb := ((Below.refl (ws.alloc (.cells #[.int .i64 0] 3)).heap.size (ws.alloc (.cells #[.int .i64 0] 3))).alloc (Nat.le_refl _) (.cells #[.string (bs s), .string (bs [])] 9))
              have BC := Lib.hid (BC.out.trans (bb.mono BC.out.size))
              have HW2 := Lib.hid (HW2.out.keep bb)
              have HX1 := Lib.hid (HX1.out.keep bb)
              have HN0 := Lib.hid (HN0.out.keep bb)
              have S0 := SS.out _ BC.out
              clear bb
              have cnwf := A.find_ (s := x) (EE.out _ BC.out) HS2.out HFW.out (by omega)
              rw [HF1.out] at cnwf
              have cnwf := Lib.hid cnwf
              refine till_before 19 (by kernel_rfl) (fun K hK => ?_)
              simp only [List.getElem?_toArray, List.getElem?_cons_zero, List.getElem?_cons_succ, Option.elim]
              rw [if_pos (by rfl)]
              go_simp
              go_at_call 17
              refine (cnwf.out).mono ?_
              rintro e wf ⟨vf, rfl, hwf, bb⟩
              refine hK.out _ _ (SS.out _ (BC.out.trans (bb.mono BC.out.size))) ?_
              clear hK K
              try simp only [Act.put, List.setIfInBounds_toArray, List.set_cons_zero, List.set_cons_succ]
              have BC := Lib.hid (BC.out.trans (bb.mono BC.out.size))
              have HW2 := Lib.hid (HW2.out.keep bb)
              have HX1 := Lib.hid (HX1.out.keep bb)
              have HN0 := Lib.hid (HN0.out.keep bb)
              have HS2 := Lib.hid (HS2.out.keep bb)
              have S0 := SS.out _ BC.out
              have HN1 := Lib.hid hwf
              clear bb
              have cnwz := Lib.hid (ints_yes HN1.out HN0.out (by simp))
              refine till_step 21 (by kernel_rfl) (by kernel_rfl) (fun K hK => ?_)
              simp only [List.getElem?_toArray, List.getElem?_cons_zero, List.getElem?_cons_succ, Option.elim]
              rw [if_pos (by rfl)]
              go_simp
              go_at_call 16
              refine (cnwz.out).mono ?_
              rintro e wz ⟨rfl, bb⟩
              refine hK.out _ _ ?_
              clear hK K
              try simp only [Act.put, List.setIfInBounds_toArray, List.set_cons_zero, List.set_cons_succ]
              have BC := Lib.hid (BC.out.trans (bb.mono BC.out.size))
              have HW2 := Lib.hid (HW2.out.keep bb)
              have HX1 := Lib.hid (HX1.out.keep bb)
              have HN0 := Lib.hid (HN0.out.keep bb)
              have HS2 := Lib.hid (HS2.out.keep bb)
              have HN1 := Lib.hid (HN1.out.keep bb)
              have S0 := SS.out _ BC.out
              clear bb
              refine till_late 22 (v := ?v22AQ) (by kernel_rfl) (by kernel_rfl) (by kernel_rfl) (by kernel_rfl) (fun _ _ _ h => h) (by kernel_rfl) ?hw22AQ ?hy22AQ ?rest22AQ
              case hw22AQ => (simp only [List.getElem?_toArray, List.getElem?_cons_zero, List.getElem?_cons_succ, Option.elim]; rfl)
              case hy22AQ => (simp only [List.getElem?_toArray, List.getElem?_cons_zero, List.getElem?_cons_succ, Option.elim]; intro wx; go_simp; with_reducible rfl)
              simp only [dstOf, List.getElem?_toArray, List.getElem?_cons_zero, List.getElem?_cons_succ, Option.bind, Act.put, List.setIfInBounds_toArray, List.set_cons_zero, List.set_cons_succ]
              refine till_late 23 (v := ?v23AQ) (by kernel_rfl) (by kernel_rfl) (by kernel_rfl) (by kernel_rfl) (fun _ _ _ h => h) (by kernel_rfl) ?hw23AQ ?hy23AQ ?rest23AQ
              case hw23AQ => (simp only [List.getElem?_toArray, List.getElem?_cons_zero, List.getElem?_cons_succ, Option.elim]; rfl)
              case hy23AQ => (simp only [List.getElem?_toArray, List.getElem?_cons_zero, List.getElem?_cons_succ, Option.elim]; intro wx; go_simp; with_reducible rfl)
              simp only [dstOf, List.getElem?_toArray, List.getElem?_cons_zero, List.getElem?_cons_succ, Option.bind, Act.put, List.setIfInBounds_toArray, List.set_cons_zero, List.set_cons_succ]
              refine till_end (by kernel_rfl) ?_ _
              go_wp2
              go_meet
              exact ⟨rfl, BC⟩
          · intro K hK
            simp only [List.getElem?_toArray, List.getElem?_cons_zero, List.getElem?_cons_succ, Option.elim]
            rw [if_pos (by rfl)]
            go_simp
            refine hK.out _ _ (SS.out _ (BC.out.trans (((Below.refl wr.drew.heap.size wr.drew).alloc (Nat.le_refl _) (.cells #[.string (bs x)] 9)).mono BC.out.size))) ?_
            clear hK K
            try simp only [Act.put, List.setIfInBounds_toArray, List.set_cons_zero, List.set_cons_succ]
            have q0 := one_txt wr.drew x
            have HX1 := Lib.hid q0
            clear q0
            have bb := ((Below.refl wr.drew.heap.size wr.drew).alloc (Nat.le_refl _) (.cells #[.string (bs x)] 9))
            have BC := Lib.hid (BC.out.trans (bb.mono BC.out.size))
            have S0 := SS.out _ BC.out
            clear bb
            have cnwa := A.words_ (s := x) (EE.out _ BC.out) (by omega)
            rw [HW1.out] at cnwa
            have cnwa := Lib.hid cnwa
            refine till_before 4 (by kernel_rfl) (fun K hK => ?_)
            simp only [List.getElem?_toArray, List.getElem?_cons_zero, List.getElem?_cons_succ, Option.elim]
            rw [if_pos (by rfl)]
            go_simp
            go_at_call 10
            refine (cnwa.out).mono ?_
            rintro e wa ⟨vwa, rfl, hwa, bb⟩
            refine hK.out _ _ (SS.out _ (BC.out.trans (bb.mono BC.out.size))) ?_
            clear hK K
            try simp only [Act.put, List.setIfInBounds_toArray, List.set_cons_zero, List.set_cons_succ]
            have BC := Lib.hid (BC.out.trans (bb.mono BC.out.size))
            have HX1 := Lib.hid (HX1.out.keep bb)
            have S0 := SS.out _ BC.out
            have HW2 := Lib.hid hwa
            clear bb
            have cnws := Lib.hid (same_yes HW2.out HX1.out (by simp))
            refine till_before 10 (by kernel_rfl) (fun K hK => ?_)
            simp only [List.getElem?_toArray, List.getElem?_cons_zero, List.getElem?_cons_succ, Option.elim]
            rw [if_pos (by rfl)]
            go_simp
            go_at_call 9
            refine (cnws.out).mono ?_
            rintro e ws ⟨rfl, bb⟩
            refine hK.out _ _ (SS.out _ (BC.out.trans (bb.mono BC.out.size))) ?_
            clear hK K
            try simp only [Act.put, List.setIfInBounds_toArray, List.set_cons_zero, List.set_cons_succ]
            have BC := Lib.hid (BC.out.trans (bb.mono BC.out.size))
            have HX1 := Lib.hid (HX1.out.keep bb)
            have HW2 := Lib.hid (HW2.out.keep bb)
            have S0 := SS.out _ BC.out
            clear bb
            refine till_take 11 30 false (v := ?v11B) (by kernel_rfl) (by kernel_rfl) (by kernel_rfl) (by kernel_rfl) (by kernel_rfl) (fun _ _ _ h => h) ?hw11B S0 ?hy11B ?rest11B
            case hw11B => (simp only [List.getElem?_toArray, List.getElem?_cons_zero, List.getElem?_cons_succ, Option.elim]; rfl)
            case hy11B => (simp only [List.getElem?_toArray, List.getElem?_cons_zero, List.getElem?_cons_succ, Option.elim]; intro wx _; go_simp; with_reducible rfl)
            simp only [dstOf, List.getElem?_toArray, List.getElem?_cons_zero, List.getElem?_cons_succ, Option.bind, Act.put, List.setIfInBounds_toArray, List.set_cons_zero, List.set_cons_succ]
            refine till_take 12 30 false (v := ?v12B) (by kernel_rfl) (by kernel_rfl) (by kernel_rfl) (by kernel_rfl) (by kernel_rfl) (fun _ _ _ h => h) ?hw12B S0 ?hy12B ?rest12B
            case hw12B => (simp only [List.getElem?_toArray, List.getElem?_cons_zero, List.getElem?_cons_succ, Option.elim]; rfl)
            case hy12B => (simp only [List.getElem?_toArray, List.getElem?_cons_zero, List.getElem?_cons_succ, Option.elim]; intro wx _; go_simp; with_reducible rfl)
            simp only [dstOf, List.getElem?_toArray, List.getElem?_cons_zero, List.getElem?_cons_succ, Option.bind, Act.put, List.setIfInBounds_toArray, List.set_cons_zero, List.set_cons_succ]
            refine till_take 13 30 false (v := ?v13B) (by kernel_rfl) (by kernel_rfl) (by kernel_rfl) (by kernel_rfl) (by kernel_rfl) (fun _ _ _ h => h) ?hw13B S0 ?hy13B ?rest13B
            case hw13B => (simp only [List.getElem?_toArray, List.getElem?_cons_zero, List.getElem?_cons_succ, Option.elim]; rfl)
            case hy13B => (simp only [List.getElem?_toArray, List.getElem?_cons_zero, List.getElem?_cons_succ, Option.elim]; intro wx _; go_simp; with_reducible rfl)
            simp only [dstOf, List.getElem?_toArray, List.getElem?_cons_zero, List.getElem?_cons_succ, Option.bind, Act.put, List.setIfInBounds_toArray, List.set_cons_zero, List.set_cons_succ]
            refine till_take 15 30 false (v := ?v15B) (by kernel_rfl) (by kernel_rfl) (by kernel_rfl) (by kernel_rfl) (by kernel_rfl) (fun _ _ _ h => h) ?hw15B S0 ?hy15B ?rest15B
            case hw15B => (simp only [List.getElem?_toArray, List.getElem?_cons_zero, List.getElem?_cons_succ, Option.elim]; rfl)
            case hy15B => (simp only [List.getElem?_toArray, List.getElem?_cons_zero, List.getElem?_cons_succ, Option.elim]; intro wx _; go_simp; with_reducible rfl)
            simp only [dstOf, List.getElem?_toArray, List.getElem?_cons_zero, List.getElem?_cons_succ, Option.bind, Act.put, List.setIfInBounds_toArray, List.set_cons_zero, List.set_cons_succ]
            refine till_take 16 30 false (v := ?v16B) (by kernel_rfl) (by kernel_rfl) (by kernel_rfl) (by kernel_rfl) (by kernel_rfl) (fun _ _ _ h => h) ?hw16B S0 ?hy16B ?rest16B
            case hw16B => (simp only [List.getElem?_toArray, List.getElem?_cons_zero, List.getElem?_cons_succ, Option.elim]; rfl)
            case hy16B => (simp only [List.getElem?_toArray, List.getElem?_cons_zero, List.getElem?_cons_succ, Option.elim]; intro wx _; go_simp; with_reducible rfl)
            simp only [dstOf, List.getElem?_toArray, List.getElem?_cons_zero, List.getElem?_cons_succ, Option.bind, Act.put, List.setIfInBounds_toArray, List.set_cons_zero, List.set_cons_succ]
            refine till_take 17 30 false (v := ?v17B) (by kernel_rfl) (by kernel_rfl) (by kernel_rfl) (by kernel_rfl) (by kernel_rfl) (fun _ _ _ h => h) ?hw17B S0 ?hy17B ?rest17B
            case hw17B => (simp only [List.getElem?_toArray, List.getElem?_cons_zero, List.getElem?_cons_succ, Option.elim]; rfl)
            case hy17B => (simp only [List.getElem?_toArray, List.getElem?_cons_zero, List.getElem?_cons_succ, Option.elim]; intro wx _; go_simp; with_reducible rfl)
            simp only [dstOf, List.getElem?_toArray, List.getElem?_cons_zero, List.getElem?_cons_succ, Option.bind, Act.put, List.setIfInBounds_toArray, List.set_cons_zero, List.set_cons_succ]
            refine till_take 18 30 true (v := ?v18B) (by kernel_rfl) (by kernel_rfl) (by kernel_rfl) (by kernel_rfl) (by kernel_rfl) (fun _ _ _ h => h) ?hw18B S0 ?hy18B ?rest18B
            case hw18B => (simp only [List.getElem?_toArray, List.getElem?_cons_zero, List.getElem?_cons_succ, Option.elim]; rfl)
            case hy18B => (simp only [List.getElem?_toArray, List.getElem?_cons_zero, List.getElem?_cons_succ, Option.elim]; intro wx hx; have x0 := hx trivial; go_simp; with_reducible rfl)
            simp only [dstOf, List.getElem?_toArray, List.getElem?_cons_zero, List.getElem?_cons_succ, Option.bind, Act.put, List.setIfInBounds_toArray, List.set_cons_zero, List.set_cons_succ]
            refine till_split 14 20 (by kernel_rfl) ?_ ?_
            · intro K hK
              simp only [List.getElem?_toArray, List.getElem?_cons_zero, List.getElem?_cons_succ, Option.elim]
              rw [if_pos (by rfl)]
              go_simp
              refine hK.out _ _ (SS.out _ (BC.out.trans (((Below.refl ws.heap.size ws).alloc (Nat.le_refl _) (.cells #[.string (bs s), .string (bs [])] 9)).mono BC.out.size))) ?_
              clear hK K
              try simp only [Act.put, List.setIfInBounds_toArray, List.set_cons_zero, List.set_cons_succ]
              have q0 := two_txts ws s []
              have HS2 := Lib.hid q0
              clear q0
              have bb := ((Below.refl ws.heap.size ws).alloc (Nat.le_refl _) (.cells #[.string (bs s), .string (bs [])] 9))
              have BC := Lib.hid (BC.out.trans (bb.mono BC.out.size))
              have HX1 := Lib.hid (HX1.out.keep bb)
              have HW2 := Lib.hid (HW2.out.keep bb)
              have S0 := SS.out _ BC.out
              clear bb
              have cnA := A.find_ (s := x) (EE.out _ BC.out) HS2.out HFW.out (by omega)
              rw [HF1.out] at cnA
              have cnA := Lib.hid cnA
              refine till_split 19 20 (by kernel_rfl) ?_ ?_
              · intro K hK
                simp only [List.getElem?_toArray, List.getElem?_cons_zero, List.getElem?_cons_succ, Option.elim]
                rw [if_pos (by rfl)]
                go_simp
                go_at_call 17
                refine (cnA.out).mono ?_
                rintro e wf ⟨vf, rfl, hf, bb⟩
                refine hK.out _ _ (SS.out _ (BC.out.trans (bb.mono BC.out.size))) ?_
                clear hK K
                try simp only [Act.put, List.setIfInBounds_toArray, List.set_cons_zero, List.set_cons_succ]
                have BC := Lib.hid (BC.out.trans (bb.mono BC.out.size))
                have HX1 := Lib.hid (HX1.out.keep bb)
                have HW2 := Lib.hid (HW2.out.keep bb)
                have HS2 := Lib.hid (HS2.out.keep bb)
                have S0 := SS.out _ BC.out
                have HN1 := Lib.hid hf
                clear bb
                refine till_before 20 (by kernel_rfl) (fun K hK => ?_)
                simp only [List.getElem?_toArray, List.getElem?_cons_zero, List.getElem?_cons_succ, Option.elim]
                rw [if_pos (by rfl)]
                go_simp
                refine hK.out _ _ (SS.out _ (BC.out.trans (((Below.refl wf.heap.size wf).alloc (Nat.le_refl _) (.cells #[.int .i64 0] 3)).mono BC.out.size))) ?_
                clear hK K
                try simp only [Act.put, List.setIfInBounds_toArray, List.set_cons_zero, List.set_cons_succ]
                have q0 := nums_one wf 0
                have HN0 := Lib.hid q0
                clear q0
                have bb := ((Below.refl wf.heap.size wf).alloc (Nat.le_refl _) (.cells #[.int .i64 0] 3))
                have BC := Lib.hid (BC.out.trans (bb.mono BC.out.size))
                have HX1 := Lib.hid (HX1.out.keep bb)
                have HW2 := Lib.hid (HW2.out.keep bb)
                have HS2 := Lib.hid (HS2.out.keep bb)
                have HN1 := Lib.hid (HN1.out.keep bb)
                have S0 := SS.out _ BC.out
                clear bb
                have cnwz := Lib.hid (ints_yes HN1.out HN0.out (by simp))
                refine till_step 21 (by kernel_rfl) (by kernel_rfl) (fun K hK => ?_)
                simp only [List.getElem?_toArray, List.getElem?_cons_zero, List.getElem?_cons_succ, Option.elim]
                rw [if_pos (by rfl)]
                go_simp
                go_at_call 16
                refine (cnwz.out).mono ?_
                rintro e wz ⟨rfl, bb⟩
                refine hK.out _ _ ?_
                clear hK K
                try simp only [Act.put, List.setIfInBounds_toArray, List.set_cons_zero, List.set_cons_succ]
                have BC := Lib.hid (BC.out.trans (bb.mono BC.out.size))
                have HX1 := Lib.hid (HX1.out.keep bb)
                have HW2 := Lib.hid (HW2.out.keep bb)
                have HS2 := Lib.hid (HS2.out.keep bb)
                have HN1 := Lib.hid (HN1.out.keep bb)
                have HN0 := Lib.hid (HN0.out.keep bb)
                have S0 := SS.out _ BC.out
                clear bb
                refine till_late 22 (v := ?v22BP1) (by kernel_rfl) (by kernel_rfl) (by kernel_rfl) (by kernel_rfl) (fun _ _ _ h => h) (by kernel_rfl) ?hw22BP1 ?hy22BP1 ?rest22BP1
                case hw22BP1 => (simp only [List.getElem?_toArray, List.getElem?_cons_zero, List.getElem?_cons_succ, Option.elim]; rfl)
                case hy22BP1 => (simp only [List.getElem?_toArray, List.getElem?_cons_zero, List.getElem?_cons_succ, Option.elim]; intro wx; go_simp; with_reducible rfl)
                simp only [dstOf, List.getElem?_toArray, List.getElem?_cons_zero, List.getElem?_cons_succ, Option.bind, Act.put, List.setIfInBounds_toArray, List.set_cons_zero, List.set_cons_succ]
                refine till_late 23 (v := ?v23BP1) (by kernel_rfl) (by kernel_rfl) (by kernel_rfl) (by kernel_rfl) (fun _ _ _ h => h) (by kernel_rfl) ?hw23BP1 ?hy23BP1 ?rest23BP1
                case hw23BP1 => (simp only [List.getElem?_toArray, List.getElem?_cons_zero, List.getElem?_cons_succ, Option.elim]; rfl)
                case hy23BP1 => (simp only [List.getElem?_toArray, List.getElem?_cons_zero, List.getElem?_cons_succ, Option.elim]; intro wx; go_simp; with_reducible rfl)
                simp only [dstOf, List.getElem?_toArray, List.getElem?_cons_zero, List.getElem?_cons_succ, Option.bind, Act.put, List.setIfInBounds_toArray, List.set_cons_zero, List.set_cons_succ]
                refine till_end (by kernel_rfl) ?_ _
                go_wp2
                go_meet
                exact ⟨rfl, BC⟩
              · intro K hK
                simp only [List.getElem?_toArray, List.getElem?_cons_zero, List.getElem?_cons_succ, Option.elim]
                rw [if_pos (by rfl)]
                go_simp
                refine hK.out _ _ (SS.out _ (BC.out.trans (((Below.refl (ws.alloc (.cells #[.string (bs s), .string (bs [])] 9)).heap.size (ws.alloc (.cells #[.string (bs s), .string (bs [])] 9))).alloc (Nat.le_refl _) (.cells #[.int .i64 0] 3)).mono BC.out.size))) ?_
                clear hK K
                try simp only [Act.put, List.setIfInBounds_toArray, List.set_cons_zero, List.set_cons_succ]
                have q0 := nums_one (ws.alloc (.cells #[.string (bs s), .string (bs [])] 9)) 0
                rw [show (ws.alloc (.cells #[.string (bs s), .string (bs [])] 9)).heap.size = ws.heap.size + 1 by simp] at q0
                have HN0 := Lib.hid q0
                clear q0
                have bb := ((Below.refl (ws.alloc (.cells #[.string (bs s), .string (bs [])] 9)).heap.size (ws.alloc (.cells #[.string (bs s), .string (bs [])] 9))).alloc (Nat.le_refl _) (.cells #[.int .i64 0] 3))
                have BC := Lib.hid (BC.out.trans (bb.mono BC.out.size))
                have HX1 := Lib.hid (HX1.out.keep bb)
                have HW2 := Lib.hid (HW2.out.keep bb)
                have HS2 := Lib.hid (HS2.out.keep bb)
                have S0 := SS.out _ BC.out
                clear bb
                have cnwf := A.find_ (s := x) (EE.out _ BC.out) HS2.out HFW.out (by omega)
                rw [HF1.out] at cnwf
                have cnwf := Lib.hid cnwf
                refine till_before 19 (by kernel_rfl) (fun K hK => ?_)
                simp only [List.getElem?_toArray, List.getElem?_cons_zero, List.getElem?_cons_succ, Option.elim]
                rw [if_pos (by rfl)]
                go_simp
                go_at_call 17
                refine (cnwf.out).mono ?_
                rintro e wf ⟨vf, rfl, hwf, bb⟩
                refine hK.out _ _ (SS.out _ (BC.out.trans (bb.mono BC.out.size))) ?_
                clear hK K
                try simp only [Act.put, List.setIfInBounds_toArray, List.set_cons_zero, List.set_cons_succ]
                have BC := Lib.hid (BC.out.trans (bb.mono BC.out.size))
                have HX1 := Lib.hid (HX1.out.keep bb)
                have HW2 := Lib.hid (HW2.out.keep bb)
                have HS2 := Lib.hid (HS2.out.keep bb)
                have HN0 := Lib.hid (HN0.out.keep bb)
                have S0 := SS.out _ BC.out
                have HN1 := Lib.hid hwf
                clear bb
                have cnwz := Lib.hid (ints_yes HN1.out HN0.out (by simp))
                refine till_step 21 (by kernel_rfl) (by kernel_rfl) (fun K hK => ?_)
                simp only [List.getElem?_toArray, List.getElem?_cons_zero, List.getElem?_cons_succ, Option.elim]
                rw [if_pos (by rfl)]
                go_simp
                go_at_call 16
                refine (cnwz.out).mono ?_
                rintro e wz ⟨rfl, bb⟩
                refine hK.out _ _ ?_
                clear hK K
                try simp only [Act.put, List.setIfInBounds_toArray, List.set_cons_zero, List.set_cons_succ]
                have BC := Lib.hid (BC.out.trans (bb.mono BC.out.size))
                have HX1 := Lib.hid (HX1.out.keep bb)
                have HW2 := Lib.hid (HW2.out.keep bb)
                have HS2 := Lib.hid (HS2.out.keep bb)
                have HN0 := Lib.hid (HN0.out.keep bb)
                have HN1 := Lib.hid (HN1.out.keep bb)
                have S0 := SS.out _ BC.out
                clear bb
                refine till_late 22 (v := ?v22BP2) (by kernel_rfl) (by kernel_rfl) (by kernel_rfl) (by kernel_rfl) (fun _ _ _ h => h) (by kernel_rfl) ?hw22BP2 ?hy22BP2 ?rest22BP2
                case hw22BP2 => (simp only [List.getElem?_toArray, List.getElem?_cons_zero, List.getElem?_cons_succ, Option.elim]; rfl)
                case hy22BP2 => (simp only [List.getElem?_toArray, List.getElem?_cons_zero, List.getElem?_cons_succ, Option.elim]; intro wx; go_simp; with_reducible rfl)
                simp only [dstOf, List.getElem?_toArray, List.getElem?_cons_zero, List.getElem?_cons_succ, Option.bind, Act.put, List.setIfInBounds_toArray, List.set_cons_zero, List.set_cons_succ]
                refine till_late 23 (v := ?v23BP2) (by kernel_rfl) (by kernel_rfl) (by kernel_rfl) (by kernel_rfl) (fun _ _ _ h => h) (by kernel_rfl) ?hw23BP2 ?hy23BP2 ?rest23BP2
                case hw23BP2 => (simp only [List.getElem?_toArray, List.getElem?_cons_zero, List.getElem?_cons_succ, Option.elim]; rfl)
                case hy23BP2 => (simp only [List.getElem?_toArray, List.getElem?_cons_zero, List.getElem?_cons_succ, Option.elim]; intro wx; go_simp; with_reducible rfl)
                simp only [dstOf, List.getElem?_toArray, List.getElem?_cons_zero, List.getElem?_cons_succ, Option.bind, Act.put, List.setIfInBounds_toArray, List.set_cons_zero, List.set_cons_succ]
                refine till_end (by kernel_rfl) ?_ _
                go_wp2
                go_meet
                exact ⟨rfl, BC⟩
            · intro K hK
              simp only [List.getElem?_toArray, List.getElem?_cons_zero, List.getElem?_cons_succ, Option.elim]
              rw [if_pos (by rfl)]
              go_simp
              refine hK.out _ _ (SS.out _ (BC.out.trans (((Below.refl ws.heap.size ws).alloc (Nat.le_refl _) (.cells #[.int .i64 0] 3)).mono BC.out.size))) ?_
              clear hK K
              try simp only [Act.put, List.setIfInBounds_toArray, List.set_cons_zero, List.set_cons_succ]
              have q0 := nums_one ws 0
              have HN0 := Lib.hid q0
              clear q0
              have bb := ((Below.refl ws.heap.size ws).alloc (Nat.le_refl _) (.cells #[.int .i64 0] 3))
              have BC := Lib.hid (BC.out.trans (bb.mono BC.out.size))
              have HX1 := Lib.hid (HX1.out.keep bb)
              have HW2 := Lib.hid (HW2.out.keep bb)
              have S0 := SS.out _ BC.out
              clear bb
              refine till_before 14 (by kernel_rfl) (fun K hK => ?_)
              simp only [List.getElem?_toArray, List.getElem?_cons_zero, List.getElem?_cons_succ, Option.elim]
              rw [if_pos (by rfl)]
              go_simp
              refine hK.out _ _ (SS.out _ (BC.out.trans (((Below.refl (ws.alloc (.cells #[.int .i64 0] 3)).heap.size (ws.alloc (.cells #[.int .i64 0] 3))).alloc (Nat.le_refl _) (.cells #[.string (bs s), .string (bs [])] 9)).mono BC.out.size))) ?_
              clear hK K
              try simp only [Act.put, List.setIfInBounds_toArray, List.set_cons_zero, List.set_cons_succ]
              have q0 := two_txts (ws.alloc (.cells #[.int .i64 0] 3)) s []
              rw [show (ws.alloc (.cells #[.int .i64 0] 3)).heap.size = ws.heap.size + 1 by simp] at q0
              have HS2 := Lib.hid q0
              clear q0
              have bb := ((Below.refl (ws.alloc (.cells #[.int .i64 0] 3)).heap.size (ws.alloc (.cells #[.int .i64 0] 3))).alloc (Nat.le_refl _) (.cells #[.string (bs s), .string (bs [])] 9))
              have BC := Lib.hid (BC.out.trans (bb.mono BC.out.size))
              have HX1 := Lib.hid (HX1.out.keep bb)
              have HW2 := Lib.hid (HW2.out.keep bb)
              have HN0 := Lib.hid (HN0.out.keep bb)
              have S0 := SS.out _ BC.out
              clear bb
              have cnwf := A.find_ (s := x) (EE.out _ BC.out) HS2.out HFW.out (by omega)
              rw [HF1.out] at cnwf
              have cnwf := Lib.hid cnwf
              refine till_before 19 (by kernel_rfl) (fun K hK => ?_)
              simp only [List.getElem?_toArray, List.getElem?_cons_zero, List.getElem?_cons_succ, Option.elim]
              rw [if_pos (by rfl)]
              go_simp
              go_at_call 17
              refine (cnwf.out).mono ?_
              rintro e wf ⟨vf, rfl, hwf, bb⟩
              refine hK.out _ _ (SS.out _ (BC.out.trans (bb.mono BC.out.size))) ?_
              clear hK K
              try simp only [Act.put, List.setIfInBounds_toArray, List.set_cons_zero, List.set_cons_succ]
              have BC := Lib.hid (BC.out.trans (bb.mono BC.out.size))
              have HX1 := Lib.hid (HX1.out.keep bb)
              have HW2 := Lib.hid (HW2.out.keep bb)
              have HN0 := Lib.hid (HN0.out.keep bb)
              have HS2 := Lib.hid (HS2.out.keep bb)
              have S0 := SS.out _ BC.out
              have HN1 := Lib.hid hwf
              clear bb
              have cnwz := Lib.hid (ints_yes HN1.out HN0.out (by simp))
              refine till_step 21 (by kernel_rfl) (by kernel_rfl) (fun K hK => ?_)
              simp only [List.getElem?_toArray, List.getElem?_cons_zero, List.getElem?_cons_succ, Option.elim]
              rw [if_pos (by rfl)]
              go_simp
              go_at_call 16
              refine (cnwz.out).mono ?_
              rintro e wz ⟨rfl, bb⟩
              refine hK.out _ _ ?_
              clear hK K
              try simp only [Act.put, List.setIfInBounds_toArray, List.set_cons_zero, List.set_cons_succ]
              have BC := Lib.hid (BC.out.trans (bb.mono BC.out.size))
              have HX1 := Lib.hid (HX1.out.keep bb)
              have HW2 := Lib.hid (HW2.out.keep bb)
              have HN0 := Lib.hid (HN0.out.keep bb)
              have HS2 := Lib.hid (HS2.out.keep bb)
              have HN1 := Lib.hid (HN1.out.keep bb)
              have S0 := SS.out _ BC.out
              clear bb
              refine till_late 22 (v := ?v22BQ) (by kernel_rfl) (by kernel_rfl) (by kernel_rfl) (by kernel_rfl) (fun _ _ _ h => h) (by kernel_rfl) ?hw22BQ ?hy22BQ ?rest22BQ
              case hw22BQ => (simp only [List.getElem?_toArray, List.getElem?_cons_zero, List.getElem?_cons_succ, Option.elim]; rfl)
              case hy22BQ => (simp only [List.getElem?_toArray, List.getElem?_cons_zero, List.getElem?_cons_succ, Option.elim]; intro wx; go_simp; with_reducible rfl)
              simp only [dstOf, List.getElem?_toArray, List.getElem?_cons_zero, List.getElem?_cons_succ, Option.bind, Act.put, List.setIfInBounds_toArray, List.set_cons_zero, List.set_cons_succ]
              refine till_late 23 (v := ?v23BQ) (by kernel_rfl) (by kernel_rfl) (by kernel_rfl) (by kernel_rfl) (fun _ _ _ h => h) (by kernel_rfl) ?hw23BQ ?hy23BQ ?rest23BQ
              case hw23BQ => (simp only [List.getElem?_toArray, List.getElem?_cons_zero, List.getElem?_cons_succ, Option.elim]; rfl)
              case hy23BQ => (simp only [List.getElem?_toArray, List.getElem?_cons_zero, List.getElem?_cons_succ, Option.elim]; intro wx; go_simp; with_reducible rfl)
              simp only [dstOf, List.getElem?_toArray, List.getElem?_cons_zero, List.getElem?_cons_succ, Option.bind, Act.put, List.setIfInBounds_toArray, List.set_cons_zero, List.set_cons_succ]
              refine till_end (by kernel_rfl) ?_ _
              go_wp2
              go_meet
              exact ⟨rfl, BC⟩
        case rest =>
          obtain ⟨rfl, BC⟩ := hcut
          have HB9 := Lib.hid (HB.out.trans (BC.out.mono HB.out.size))
          generalize wc = w9 at HB9 ⊢
          clear BC
          go_wp2
          go_roundw
          case rel => exact ⟨k + 1, by omega, by go_num, by rw [HF2.out], HB9⟩
          case measure => simp [intOf]; omega
      · obtain rfl : k = L.length := by omega
        rw [List.take_length]
        have HGL := Lib.hid (show words (glue L) = L from words_glue HG.out)
        have hgl := hgll
        have BE := Lib.hid (B2.out.trans (HB.out.mono B2.out.size))
        have HE3 := Lib.hid (A.keep HE2.out HB.out)
        have HV3 := Lib.hid (HV.out.keep HB.out)
        obtain ⟨n, hn, hln, hc10, hnm, hne⟩ := line_is s q
        have H3 := A.line_ (s := s) (m := q) HE3.out (by omega) (by unfold I64; omega)
        rw [hln] at H3
        have H3 := Lib.hid H3
        have HC10 := Lib.hid hc10
        clear hln hc10
        go_wp2_with (go_at_call 14; refine (H3.out).mono ?_; rintro e w3 ⟨rfl, b3⟩; refine Hid.out ?_)
        refine Lib.hid ?_
        have BE := Lib.hid (BE.out.trans (b3.mono BE.out.size))
        have HE3 := Lib.hid (A.keep HE3.out b3)
        have HV3 := Lib.hid (HV3.out.keep b3)
        clear b3
        have htl : (s.take n).length = n := by rw [List.length_take]; omega
        have zl : (bs (s.take n)).size = n := by rw [bs_size, htl]
        go_wp2
        go_loopw [11] (fun i wr => ∃ k : Nat, k ≤ n ∧ i = .int .i64 k ∧ Hid (Below w3.heap.size w3 wr)) (fun i _ => n - (intOf i).toNat)
        case atStart => exact ⟨0, Nat.zero_le _, rfl, Lib.hid (Below.refl _ _)⟩
        case round =>
          obtain ⟨k, hk, rfl, HB3⟩ := hrel
          by_cases hlt : k < n
          · obtain ⟨c, hc⟩ : ∃ c, s[k]? = some c := ⟨_, List.getElem?_eq_getElem (by omega)⟩
            have hct : (s.take n)[k]? = some c := by rw [List.getElem?_take_of_lt hlt, hc]
            have hd : ((c.toNat : Int) == 10) = false := by
              have h10 := HC10.out c (List.mem_of_getElem? hct)
              simp only [beq_eq_false_iff_ne]
              intro q
              exact h10 (byte_eq (by rw [show (10 : UInt8).toNat = 10 from rfl]; omega))
            obtain ⟨i1, g1⟩ := bs_get hc
            obtain ⟨i2, g2⟩ := bs_get hct
            have Q1 := Lib.hid (show decide (s.length ≤ k) = false from decide_eq_false (by omega))
            have q2 : (k : Int) ≤ (s.length : Int) - 1 := by omega
            clear hc hct
            go_wp2
            have q1 := Q1.out
            go_quiet (fail)
            go_wp2
            go_roundw
            case rel => exact ⟨k + 1, by omega, by go_num, Lib.hid (HB3.out.trans ((drewN_below _ _).mono HB3.out.size))⟩
            case measure => simp [intOf]; omega
          · obtain rfl : k = n := by omega
            have BE := Lib.hid (BE.out.trans (HB3.out.mono BE.out.size))
            have HE4 := Lib.hid (A.keep HE3.out HB3.out)
            have HV4 := Lib.hid (HV3.out.keep HB3.out)
            have H5 := A.words_ (s := glue L) HE4.out (by omega)
            rw [HGL.out] at H5
            have H5 := Lib.hid H5
            have q1 : ¬ q < (k : Int) := by omega
            by_cases q2 : (k : Int) < q
            · by_cases q3 : k < s.length
              · have hc : s[k]? = some 10 := by
                  rcases hne with r | r | r
                  · omega
                  · exact r
                  · omega
                obtain ⟨i1, g1⟩ := bs_get hc
                have q4 : ¬ (s.length : Int) - 1 < 0 := by omega
                have q5 : (k : Int) ≤ (s.length : Int) - 1 := by omega
                have hd : (((10 : UInt8).toNat : Int) != 10) = false := by decide
                clear hc hne
                go_wp2_with (go_at_call 10; refine (H5.out).mono ?_; rintro e w5 ⟨v5, rfl, h5, b5⟩; refine Hid.out ?_)
                refine Lib.hid ?_
                have BE := Lib.hid (BE.out.trans (b5.mono BE.out.size))
                have HE5 := Lib.hid (A.keep HE4.out b5)
                have HV5 := Lib.hid (HV4.out.keep b5)
                have H6 := Lib.hid (same_yes h5 HV5.out (by omega))
                clear h5 b5
                go_wp2_with (go_at_call 9; refine (H6.out).mono ?_; rintro e w6 ⟨rfl, b6⟩; refine Hid.out ?_)
                refine Lib.hid ?_
                have BE := Lib.hid (BE.out.trans (b6.mono BE.out.size))
                have HE6 := Lib.hid (A.keep HE5.out b6)
                have HV6 := Lib.hid (HV5.out.keep b6)
                have H7 := Lib.hid (w_upper (w := w6) (s := s) (by omega))
                clear b6
                go_wp2_with (go_at_call 22; refine (H7.out).mono ?_; rintro e w7 ⟨rfl, b7⟩; refine Hid.out ?_)
                refine Lib.hid ?_
                have BE := Lib.hid (BE.out.trans (b7.mono BE.out.size))
                have HE7 := Lib.hid (A.keep HE6.out b7)
                have HV7 := Lib.hid (HV6.out.keep b7)
                have H8 := A.words_ (s := s.map up) HE7.out (by simp; omega)
                rw [words_up, HLL.out] at H8
                have H8 := Lib.hid H8
                clear b7
                go_wp2_with (go_at_call 10; refine (H8.out).mono ?_; rintro e w8 ⟨v8, rfl, h8, b8⟩; refine Hid.out ?_)
                refine Lib.hid ?_
                have BE := Lib.hid (BE.out.trans (b8.mono BE.out.size))
                have HV8 := Lib.hid (HV7.out.keep b8)
                have H9 := Lib.hid (same_yes h8 HV8.out (by omega))
                clear h8 b8
                go_wp2_with (go_at_call 9; refine (H9.out).mono ?_; rintro e w9 ⟨rfl, b9⟩; refine Hid.out ?_)
                refine Lib.hid ?_
                go_wp2
                go_ret
                exact ⟨rfl, BE.out.trans (b9.mono BE.out.size)⟩
              · have q3' : ¬ (k : Int) < (s.length : Int) := by omega
                clear hne
                go_wp2_with (go_at_call 10; refine (H5.out).mono ?_; rintro e w5 ⟨v5, rfl, h5, b5⟩; refine Hid.out ?_)
                refine Lib.hid ?_
                have BE := Lib.hid (BE.out.trans (b5.mono BE.out.size))
                have HE5 := Lib.hid (A.keep HE4.out b5)
                have HV5 := Lib.hid (HV4.out.keep b5)
                have H6 := Lib.hid (same_yes h5 HV5.out (by omega))
                clear h5 b5
                go_wp2_with (go_at_call 9; refine (H6.out).mono ?_; rintro e w6 ⟨rfl, b6⟩; refine Hid.out ?_)
                refine Lib.hid ?_
                have BE := Lib.hid (BE.out.trans (b6.mono BE.out.size))
                have HE6 := Lib.hid (A.keep HE5.out b6)
                have HV6 := Lib.hid (HV5.out.keep b6)
                have H7 := Lib.hid (w_upper (w := w6) (s := s) (by omega))
                clear b6
                go_wp2_with (go_at_call 22; refine (H7.out).mono ?_; rintro e w7 ⟨rfl, b7⟩; refine Hid.out ?_)
                refine Lib.hid ?_
                have BE := Lib.hid (BE.out.trans (b7.mono BE.out.size))
                have HE7 := Lib.hid (A.keep HE6.out b7)
                have HV7 := Lib.hid (HV6.out.keep b7)
                have H8 := A.words_ (s := s.map up) HE7.out (by simp; omega)
                rw [words_up, HLL.out] at H8
                have H8 := Lib.hid H8
                clear b7
                go_wp2_with (go_at_call 10; refine (H8.out).mono ?_; rintro e w8 ⟨v8, rfl, h8, b8⟩; refine Hid.out ?_)
                refine Lib.hid ?_
                have BE := Lib.hid (BE.out.trans (b8.mono BE.out.size))
                have HV8 := Lib.hid (HV7.out.keep b8)
                have H9 := Lib.hid (same_yes h8 HV8.out (by omega))
                clear h8 b8
                go_wp2_with (go_at_call 9; refine (H9.out).mono ?_; rintro e w9 ⟨rfl, b9⟩; refine Hid.out ?_)
                refine Lib.hid ?_
                go_wp2
                go_ret
                exact ⟨rfl, BE.out.trans (b9.mono BE.out.size)⟩
            · clear hne
              go_wp2_with (go_at_call 10; refine (H5.out).mono ?_; rintro e w5 ⟨v5, rfl, h5, b5⟩; refine Hid.out ?_)
              refine Lib.hid ?_
              have BE := Lib.hid (BE.out.trans (b5.mono BE.out.size))
              have HE5 := Lib.hid (A.keep HE4.out b5)
              have HV5 := Lib.hid (HV4.out.keep b5)
              have H6 := Lib.hid (same_yes h5 HV5.out (by omega))
              clear h5 b5
              go_wp2_with (go_at_call 9; refine (H6.out).mono ?_; rintro e w6 ⟨rfl, b6⟩; refine Hid.out ?_)
              refine Lib.hid ?_
              have BE := Lib.hid (BE.out.trans (b6.mono BE.out.size))
              have HE6 := Lib.hid (A.keep HE5.out b6)
              have HV6 := Lib.hid (HV5.out.keep b6)
              have H7 := Lib.hid (w_upper (w := w6) (s := s) (by omega))
              clear b6
              go_wp2_with (go_at_call 22; refine (H7.out).mono ?_; rintro e w7 ⟨rfl, b7⟩; refine Hid.out ?_)
              refine Lib.hid ?_
              have BE := Lib.hid (BE.out.trans (b7.mono BE.out.size))
              have HE7 := Lib.hid (A.keep HE6.out b7)
              have HV7 := Lib.hid (HV6.out.keep b7)
              have H8 := A.words_ (s := s.map up) HE7.out (by simp; omega)
              rw [words_up, HLL.out] at H8
              have H8 := Lib.hid H8
              clear b7
              go_wp2_with (go_at_call 10; refine (H8.out).mono ?_; rintro e w8 ⟨v8, rfl, h8, b8⟩; refine Hid.out ?_)
              refine Lib.hid ?_
              have BE := Lib.hid (BE.out.trans (b8.mono BE.out.size))
              have HV8 := Lib.hid (HV7.out.keep b8)
              have H9 := Lib.hid (same_yes h8 HV8.out (by omega))
              clear h8 b8
              go_wp2_with (go_at_call 9; refine (H9.out).mono ?_; rintro e w9 ⟨rfl, b9⟩; refine Hid.out ?_)
              refine Lib.hid ?_
              go_wp2
              go_ret
              exact ⟨rfl, BE.out.trans (b9.mono BE.out.size)⟩
end Go.Proofs.YtbjligjmckilcaaDoor
