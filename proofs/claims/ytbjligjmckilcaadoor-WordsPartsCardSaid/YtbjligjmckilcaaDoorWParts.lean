/- The walk of WordsParts. -/
import Derived.Test.YtbjligjmckilcaaDoorWSmall
namespace Go.Proofs.YtbjligjmckilcaaDoor
open Go.RowKit Go.Maps Go.ChangeMaps Go.MapKept
open Wd
attribute [local go_sem ↓] Go.wp_at_zero Go.wp_at_succ
theorem flat_le : ∀ (L : List S) (k : Nat), ((L.take k).flatten).length ≤ L.flatten.length
  | [], k => by simp
  | x :: L, 0 => by simp
  | x :: L, k + 1 => by have := flat_le L k; simp at this ⊢; omega
theorem flat_next {L : List S} {k : Nat} {x : S} (h : L[k]? = some x) : (L.take (k + 1)).flatten = (L.take k).flatten ++ x := by rw [List.take_add_one, h]; simp
theorem Wd.PtsOk.short {z m : Nat} {s : S} {L : List S} (h : PtsOk z m s L) (hs : s.length ≤ 400) : L.flatten.length ≤ 401 := by
  rcases h.all with ⟨q, _⟩ | ⟨q, _, _⟩
  · rw [q]; omega
  · rw [q]; simp; omega
theorem empty_yes : (bs ([] : S)).toList.isEmpty = true := by rw [bs_toList]; rfl
theorem empty_no {t : S} (h : t ≠ []) : (bs t).toList.isEmpty = false := by
  rw [bs_toList]; cases t with
  | nil => exact (h rfl).elim
  | cons x y => rfl
set_option maxHeartbeats 8000000 in
set_option maxRecDepth 100000 in
theorem parts_walk {E : World → Prop} (A : WApi E) {w : World} {s : S} {a b : Int} (hE : E w) (ha : I64 a) (hb : I64 b) :
    Calls Tryd.prog 4 #[.string (bs s), .int .i64 a, .int .i64 b] w fun e w' => e = .returned (.bool true) ∧ Below w.heap.size w w' := by
  have HE := Lib.hid hE
  have hz := bs_size s
  clear hE
  by_cases h1 : 400 < s.length
  · have h1' : (400 : Int) < (s.length : Int) := by omega
    go_enter Tryd.func4, Tryd.ntmps4
    go_wp2_with (go_at_call 7; refine (small_any A HE.out).mono ?_; rintro e w1 ⟨rfl, m1⟩; refine Hid.out ?_)
    refine Lib.hid ?_
    have HE := Lib.hid (A.keep HE.out m1)
    have B := Lib.hid m1
    clear m1
    go_wp2
    go_ret
    exact ⟨rfl, B.out⟩
  · have h1' : ¬ (400 : Int) < (s.length : Int) := by omega
    by_cases h2 : a < 2 ∨ b < 1
    · have hp := parts_none (s := s) h2
      go_enter Tryd.func4, Tryd.ntmps4
      go_wp2_with (go_at_call 7; refine (small_any A HE.out).mono ?_; rintro e w1 ⟨rfl, m1⟩; refine Hid.out ?_)
      refine Lib.hid ?_
      have HE := Lib.hid (A.keep HE.out m1)
      have B := Lib.hid m1
      clear m1
      have H1 := Lib.hid (A.parts_ (s := s) HE.out (by omega) ha hb)
      rw [hp] at H1
      clear hp
      by_cases h3 : a < 2
      · clear h2
        go_wp2_with (go_at_call 12; refine (H1.out).mono ?_; rintro e w2 ⟨v, rfl, hv, b2⟩; refine Hid.out ?_)
        refine Lib.hid ?_
        obtain ⟨va, vc, rfl⟩ := hv.slice
        clear hv
        go_wp2
        go_ret
        exact ⟨rfl, B.out.trans (b2.mono B.out.size)⟩
      · have h4 : b < 1 := by omega
        clear h2
        go_wp2_with (go_at_call 12; refine (H1.out).mono ?_; rintro e w2 ⟨v, rfl, hv, b2⟩; refine Hid.out ?_)
        refine Lib.hid ?_
        obtain ⟨va, vc, rfl⟩ := hv.slice
        clear hv
        go_wp2
        go_ret
        exact ⟨rfl, B.out.trans (b2.mono B.out.size)⟩
    · have ha2 : ¬ a < 2 := by omega
      have hb2 : ¬ b < 1 := by omega
      clear h2
      have hP := parts_ok (s := s) (a := a) (b := b) (by omega) (by omega)
      go_enter Tryd.func4, Tryd.ntmps4
      go_wp2_with (go_at_call 7; refine (small_any A HE.out).mono ?_; rintro e w1 ⟨rfl, m1⟩; refine Hid.out ?_)
      refine Lib.hid ?_
      have HE := Lib.hid (A.keep HE.out m1)
      have B := Lib.hid m1
      clear m1
      have H1 := A.parts_ (s := s) HE.out (by omega) ha hb
      obtain ⟨L, hL⟩ : ∃ L, parts s a b = L := ⟨_, rfl⟩
      rw [hL] at H1 hP
      have H1 := Lib.hid H1
      have HP := Lib.hid hP
      clear hL
      obtain ⟨z, rfl⟩ : ∃ z : Nat, a = (z : Int) := ⟨a.toNat, by omega⟩
      obtain ⟨m, rfl⟩ : ∃ m : Nat, b = (m : Int) := ⟨b.toNat, by omega⟩
      rw [Int.toNat_natCast, Int.toNat_natCast] at HP hP
      have hsh := hP.short (by omega)
      have hmo := hP.most
      have hpo := hP.pos
      unfold I64 at ha hb
      go_wp2_with (go_at_call 12; refine (H1.out).mono ?_; rintro e w2 ⟨v, rfl, hv, b2⟩; refine Hid.out ?_)
      refine Lib.hid ?_
      have HV := Lib.hid hv
      obtain ⟨va, vc, rfl⟩ := hv.slice
      have B2 := Lib.hid (B.out.trans (b2.mono B.out.size))
      clear hv b2 hP H1
      go_wp2
      go_loopw [9, 10] (fun o i wr => ∃ k : Nat, k ≤ L.length ∧ i = .int .i64 k ∧ o = .string (bs (L.take k).flatten) ∧ Hid (Below w2.heap.size w2 wr)) (fun _ i _ => L.length - (intOf i).toNat)
      case atStart => exact ⟨0, Nat.zero_le _, rfl, rfl, Lib.hid (Below.refl _ _)⟩
      case round =>
        obtain ⟨k, hk, rfl, rfl, HB⟩ := hrel
        have hfk := flat_le L k
        by_cases hlt : k < L.length
        · obtain ⟨x, hx⟩ : ∃ x, L[k]? = some x := ⟨_, List.getElem?_eq_getElem hlt⟩
          obtain ⟨vb, vo, vcap, e1, _, hc⟩ := (HV.out.keep HB.out).form (by omega)
          cases e1
          have c0 := hc k x hx
          obtain ⟨p1, p2, p3⟩ := HP.out.each k x hx
          have hfn := flat_next hx
          have hf2 := flat_le L (k + 1)
          have hxl : x.length ≤ 401 := by rw [hfn, List.length_append] at hf2; omega
          have e1 : bs (L.take k).flatten ++ bs x = bs (L.take (k + 1)).flatten := by rw [hfn]; exact bs_append _ _
          have z1 := bs_size (L.take k).flatten
          have z2 := bs_size x
          have HBk := HB
          have q1 : ¬ (z : Int) < (x.length : Int) := by omega
          clear hfn hc hx hf2
          obtain ⟨F2, hF2⟩ : ∃ F2, (L.take (k + 1)).flatten = F2 := ⟨_, rfl⟩
          rw [hF2] at e1
          have HF2 := Lib.hid hF2
          clear hF2
          generalize (L.take k).flatten = F at *
          by_cases hx0 : x = []
          · subst hx0
            have hs0 : s = [] := Classical.byContradiction fun q => p3 q rfl
            have hi := empty_yes
            have his : (bs s).toList.isEmpty = true := by rw [hs0]; exact empty_yes
            clear hs0
            clear p3
            by_cases hlast : k + 1 < L.length
            · have p4 := p2 hlast
              simp only [List.length_nil] at p4
              omega
            · have q2 : ¬ (k : Int) < (L.length : Int) - 1 := by omega
              clear p2
              go_wp2
              go_roundw
              case rel => exact ⟨k + 1, by omega, by go_num, by rw [HF2.out], HBk⟩
              case measure => simp [intOf]; omega
          · have hi := empty_no hx0
            clear p3
            by_cases hlast : k + 1 < L.length
            · have p4 := p2 hlast
              have q2 : (k : Int) < (L.length : Int) - 1 := by omega
              have q3 : (x.length : Int) = (z : Int) := by omega
              clear p2 p4
              go_wp2
              go_roundw
              case rel => exact ⟨k + 1, by omega, by go_num, by rw [HF2.out], HBk⟩
              case measure => simp [intOf]; omega
            · have q2 : ¬ (k : Int) < (L.length : Int) - 1 := by omega
              clear p2
              go_wp2
              go_roundw
              case rel => exact ⟨k + 1, by omega, by go_num, by rw [HF2.out], HBk⟩
              case measure => simp [intOf]; omega
        · obtain rfl : k = L.length := by omega
          have hall : (L.take L.length).flatten = L.flatten := by rw [List.take_length]
          rw [hall]
          have BE := Lib.hid (B2.out.trans (HB.out.mono B2.out.size))
          have q1 : ¬ (L.length : Int) < 1 := by omega
          have q2 : ¬ (m : Int) < (L.length : Int) := by omega
          rcases HP.out.all with ⟨e, _⟩ | ⟨e, hq, hlm⟩
          · rw [e]
            clear hall e hfk hsh
            go_wp2
            go_ret
            exact ⟨rfl, BE.out⟩
          · obtain ⟨N, hN⟩ : ∃ N, z * m = N + 1 := ⟨z * m - 1, by have : 2 * 1 ≤ z * m := Nat.mul_le_mul (by omega) (by omega); omega⟩
            have hzm : (z : Int) * (m : Int) = ((N + 1 : Nat) : Int) := by rw [← hN]; exact (Int.natCast_mul z m).symm
            rw [hN] at e hq
            rw [show N + 1 - 1 = N by omega] at e
            have hfl : L.flatten.length = N + 1 := by rw [e]; simp; omega
            have hne : L.flatten ≠ s := fun q => by rw [q] at hfl; omega
            have hs := str_ne hne
            have x1 : (bs L.flatten).extract 0 N = bs (s.take N) := by rw [bs_extract, e, List.drop_zero, Nat.sub_zero, List.take_append_of_le_length (by simp; omega), List.take_take, Nat.min_self]
            have x2 : (bs s).extract 0 N = bs (s.take N) := by rw [bs_extract]; simp
            have x3 : (bs L.flatten).extract N (N + 1) = (⟨#[43]⟩ : ByteArray) := by
              rw [bs_extract, e, List.drop_append_of_le_length (by simp; omega)]
              rw [List.drop_eq_nil_of_le (by simp; omega)]
              rw [show N + 1 - N = 1 by omega]; rfl
            have z1 : (bs L.flatten).size = N + 1 := by rw [bs_size, hfl]
            have q3 : (L.length : Int) = (m : Int) := by omega
            have q4 : ¬ (N : Int) < 0 := by omega
            have q5 : (N : Int) < (s.length : Int) := by omega
            have q6 : decide ((N : Int) + 1 < (s.length : Int)) = true := decide_eq_true (by omega)
            clear hall e hfk hsh hne hN hfl
            generalize L.flatten = F at *
            go_wp2
            go_quiet (fail)
            go_wp2
            go_ret
            exact ⟨rfl, BE.out.trans ((drewN_below _ _).mono BE.out.size)⟩
end Go.Proofs.YtbjligjmckilcaaDoor
