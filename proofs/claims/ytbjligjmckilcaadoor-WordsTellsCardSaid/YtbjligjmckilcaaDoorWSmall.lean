/- The examples of layer 10. -/
import Derived.Test.YtbjligjmckilcaaDoorWApi
namespace Go.Proofs.YtbjligjmckilcaaDoor
open Go.RowKit Go.Maps Go.ChangeMaps Go.MapKept
open Wd
attribute [local go_sem ↓] Go.wp_at_zero Go.wp_at_succ
theorem i64_s {x : Int} (h : -1000 ≤ x ∧ x ≤ 1000) : I64 x := by unfold I64; omega
set_option maxHeartbeats 8000000 in
set_option maxRecDepth 100000 in
theorem small_any {E : World → Prop} (A : WApi E) {w : World} (hE : E w) : Calls Tryd.prog 7 #[] w fun e w' => e = .returned (.bool true) ∧ Below w.heap.size w w' := by
  have HE := Lib.hid hE
  have B := Lib.hid (Below.refl w.heap.size w)
  clear hE
  go_enter Tryd.func7, Tryd.ntmps7
  go_wp2_with (go_at_call 10; refine (A.words_ (s := [68, 111, 110, 39, 116, 32, 103, 111, 44, 32, 50, 110, 100, 33]) HE.out (by simp)).mono ?_; rintro e wx1 ⟨vx1, rfl, hx1, bx1⟩; refine Hid.out ?_)
  refine Lib.hid ?_
  rw [show words [68, 111, 110, 39, 116, 32, 103, 111, 44, 32, 50, 110, 100, 33] = [[100, 111, 110], [116], [103, 111], [50, 110, 100]] by decide +kernel] at hx1
  have HE := Lib.hid (A.keep HE.out bx1)
  have B := Lib.hid (B.out.trans (bx1.mono B.out.size))
  have hx2 : TxAt (wx1.alloc (.cells #[.string ⟨#[100, 111, 110]⟩, .string ⟨#[116]⟩, .string ⟨#[103, 111]⟩, .string ⟨#[50, 110, 100]⟩] 9)) (.slice (some ⟨wx1.heap.size, 0, none⟩) 4 4) [([100, 111, 110] : S), ([116] : S), ([103, 111] : S), ([50, 110, 100] : S)] := txts_lit wx1 [([100, 111, 110] : S), ([116] : S), ([103, 111] : S), ([50, 110, 100] : S)] (by simp)
  have bx2 : Below wx1.heap.size wx1 (wx1.alloc (.cells #[.string ⟨#[100, 111, 110]⟩, .string ⟨#[116]⟩, .string ⟨#[103, 111]⟩, .string ⟨#[50, 110, 100]⟩] 9)) := (Below.refl _ _).alloc (Nat.le_refl _) _
  have hx1 := hx1.keep bx2
  have HE := Lib.hid (A.keep HE.out bx2)
  have B := Lib.hid (B.out.trans (bx2.mono B.out.size))
  go_wp2_with (go_at_call 9; refine (same_yes hx1 hx2 (by simp)).mono ?_; rintro e wx3 ⟨rfl, bx3⟩; refine Hid.out ?_)
  refine Lib.hid ?_
  have hx1 := hx1.keep bx3
  have hx2 := hx2.keep bx3
  have HE := Lib.hid (A.keep HE.out bx3)
  have B := Lib.hid (B.out.trans (bx3.mono B.out.size))
  clear hx1 hx2
  go_wp2_with (go_at_call 12; refine (A.parts_ (s := [97, 98, 99, 100, 101, 102, 103]) (a := 3) (b := 4) HE.out (by simp) (i64_s (by omega)) (i64_s (by omega))).mono ?_; rintro e wx4 ⟨vx4, rfl, hx4, bx4⟩; refine Hid.out ?_)
  refine Lib.hid ?_
  rw [show parts [97, 98, 99, 100, 101, 102, 103] 3 4 = [[97, 98, 99], [100, 101, 102], [103]] by decide +kernel] at hx4
  have HE := Lib.hid (A.keep HE.out bx4)
  have B := Lib.hid (B.out.trans (bx4.mono B.out.size))
  have hx5 : TxAt (wx4.alloc (.cells #[.string ⟨#[97, 98, 99]⟩, .string ⟨#[100, 101, 102]⟩, .string ⟨#[103]⟩] 9)) (.slice (some ⟨wx4.heap.size, 0, none⟩) 3 3) [([97, 98, 99] : S), ([100, 101, 102] : S), ([103] : S)] := txts_lit wx4 [([97, 98, 99] : S), ([100, 101, 102] : S), ([103] : S)] (by simp)
  have bx5 : Below wx4.heap.size wx4 (wx4.alloc (.cells #[.string ⟨#[97, 98, 99]⟩, .string ⟨#[100, 101, 102]⟩, .string ⟨#[103]⟩] 9)) := (Below.refl _ _).alloc (Nat.le_refl _) _
  have hx4 := hx4.keep bx5
  have HE := Lib.hid (A.keep HE.out bx5)
  have B := Lib.hid (B.out.trans (bx5.mono B.out.size))
  go_wp2_with (go_at_call 9; refine (same_yes hx4 hx5 (by simp)).mono ?_; rintro e wx6 ⟨rfl, bx6⟩; refine Hid.out ?_)
  refine Lib.hid ?_
  have hx4 := hx4.keep bx6
  have hx5 := hx5.keep bx6
  have HE := Lib.hid (A.keep HE.out bx6)
  have B := Lib.hid (B.out.trans (bx6.mono B.out.size))
  clear hx4 hx5
  go_wp2_with (go_at_call 12; refine (A.parts_ (s := [97, 98, 99, 100, 101, 102, 103]) (a := 3) (b := 2) HE.out (by simp) (i64_s (by omega)) (i64_s (by omega))).mono ?_; rintro e wx7 ⟨vx7, rfl, hx7, bx7⟩; refine Hid.out ?_)
  refine Lib.hid ?_
  rw [show parts [97, 98, 99, 100, 101, 102, 103] 3 2 = [[97, 98, 99], [100, 101, 43]] by decide +kernel] at hx7
  have HE := Lib.hid (A.keep HE.out bx7)
  have B := Lib.hid (B.out.trans (bx7.mono B.out.size))
  have hx8 : TxAt (wx7.alloc (.cells #[.string ⟨#[97, 98, 99]⟩, .string ⟨#[100, 101, 43]⟩] 9)) (.slice (some ⟨wx7.heap.size, 0, none⟩) 2 2) [([97, 98, 99] : S), ([100, 101, 43] : S)] := txts_lit wx7 [([97, 98, 99] : S), ([100, 101, 43] : S)] (by simp)
  have bx8 : Below wx7.heap.size wx7 (wx7.alloc (.cells #[.string ⟨#[97, 98, 99]⟩, .string ⟨#[100, 101, 43]⟩] 9)) := (Below.refl _ _).alloc (Nat.le_refl _) _
  have hx7 := hx7.keep bx8
  have HE := Lib.hid (A.keep HE.out bx8)
  have B := Lib.hid (B.out.trans (bx8.mono B.out.size))
  go_wp2_with (go_at_call 9; refine (same_yes hx7 hx8 (by simp)).mono ?_; rintro e wx9 ⟨rfl, bx9⟩; refine Hid.out ?_)
  refine Lib.hid ?_
  have hx7 := hx7.keep bx9
  have hx8 := hx8.keep bx9
  have HE := Lib.hid (A.keep HE.out bx9)
  have B := Lib.hid (B.out.trans (bx9.mono B.out.size))
  clear hx7 hx8
  go_wp2_with (go_at_call 12; refine (A.parts_ (s := []) (a := 3) (b := 2) HE.out (by simp) (i64_s (by omega)) (i64_s (by omega))).mono ?_; rintro e wx10 ⟨vx10, rfl, hx10, bx10⟩; refine Hid.out ?_)
  refine Lib.hid ?_
  rw [show parts [] 3 2 = [[]] by decide +kernel] at hx10
  have HE := Lib.hid (A.keep HE.out bx10)
  have B := Lib.hid (B.out.trans (bx10.mono B.out.size))
  have hx11 : TxAt (wx10.alloc (.cells #[.string ⟨#[]⟩] 9)) (.slice (some ⟨wx10.heap.size, 0, none⟩) 1 1) [([] : S)] := txts_lit wx10 [([] : S)] (by simp)
  have bx11 : Below wx10.heap.size wx10 (wx10.alloc (.cells #[.string ⟨#[]⟩] 9)) := (Below.refl _ _).alloc (Nat.le_refl _) _
  have hx10 := hx10.keep bx11
  have HE := Lib.hid (A.keep HE.out bx11)
  have B := Lib.hid (B.out.trans (bx11.mono B.out.size))
  go_wp2_with (go_at_call 9; refine (same_yes hx10 hx11 (by simp)).mono ?_; rintro e wx12 ⟨rfl, bx12⟩; refine Hid.out ?_)
  refine Lib.hid ?_
  have hx10 := hx10.keep bx12
  have hx11 := hx11.keep bx12
  have HE := Lib.hid (A.keep HE.out bx12)
  have B := Lib.hid (B.out.trans (bx12.mono B.out.size))
  clear hx10 hx11
  have cx13 : Calls Tryd.prog 14 #[.string ⟨#[97, 98, 10, 99, 100]⟩, .int .i64 9] wx12 (fun e w' => e = .returned (.string ⟨#[97, 98]⟩) ∧ Below wx12.heap.size wx12 w') := by
    have q := A.line_ (s := [97, 98, 10, 99, 100]) (m := 9) HE.out (by simp) (i64_s (by omega))
    rw [show line [97, 98, 10, 99, 100] 9 = [97, 98] by decide +kernel] at q
    exact q
  go_wp2_with (go_at_call 14; refine (cx13).mono ?_; rintro e wx13 ⟨rfl, bx13⟩; refine Hid.out ?_)
  refine Lib.hid ?_
  clear cx13
  have HE := Lib.hid (A.keep HE.out bx13)
  have B := Lib.hid (B.out.trans (bx13.mono B.out.size))
  have cx14 : Calls Tryd.prog 14 #[.string ⟨#[97, 98, 99]⟩, .int .i64 2] wx13 (fun e w' => e = .returned (.string ⟨#[97, 98]⟩) ∧ Below wx13.heap.size wx13 w') := by
    have q := A.line_ (s := [97, 98, 99]) (m := 2) HE.out (by simp) (i64_s (by omega))
    rw [show line [97, 98, 99] 2 = [97, 98] by decide +kernel] at q
    exact q
  go_wp2_with (go_at_call 14; refine (cx14).mono ?_; rintro e wx14 ⟨rfl, bx14⟩; refine Hid.out ?_)
  refine Lib.hid ?_
  clear cx14
  have HE := Lib.hid (A.keep HE.out bx14)
  have B := Lib.hid (B.out.trans (bx14.mono B.out.size))
  have hx15 : TxAt (wx14.alloc (.cells #[.string ⟨#[97, 32, 98]⟩, .string ⟨#[66]⟩, .string ⟨#[97, 98]⟩] 9)) (.slice (some ⟨wx14.heap.size, 0, none⟩) 3 3) [([97, 32, 98] : S), ([66] : S), ([97, 98] : S)] := txts_lit wx14 [([97, 32, 98] : S), ([66] : S), ([97, 98] : S)] (by simp)
  have bx15 : Below wx14.heap.size wx14 (wx14.alloc (.cells #[.string ⟨#[97, 32, 98]⟩, .string ⟨#[66]⟩, .string ⟨#[97, 98]⟩] 9)) := (Below.refl _ _).alloc (Nat.le_refl _) _
  have HE := Lib.hid (A.keep HE.out bx15)
  have B := Lib.hid (B.out.trans (bx15.mono B.out.size))
  go_wp2_with (go_at_call 17; refine (A.find_ (s := [98]) HE.out hx15 (by decide +kernel) (by simp)).mono ?_; rintro e wx16 ⟨vx16, rfl, hx16, bx16⟩; refine Hid.out ?_)
  refine Lib.hid ?_
  rw [show find [[97, 32, 98], [66], [97, 98]] [98] = [0, 1] by decide +kernel] at hx16
  have hx15 := hx15.keep bx16
  have HE := Lib.hid (A.keep HE.out bx16)
  have B := Lib.hid (B.out.trans (bx16.mono B.out.size))
  have hx17 : NumsAt (wx16.alloc (.cells #[.int .i64 0, .int .i64 1] 3)) (.slice (some ⟨wx16.heap.size, 0, none⟩) 2 2) [0, 1] := nums_lit wx16 [0, 1] (by simp)
  have bx17 : Below wx16.heap.size wx16 (wx16.alloc (.cells #[.int .i64 0, .int .i64 1] 3)) := (Below.refl _ _).alloc (Nat.le_refl _) _
  have hx15 := hx15.keep bx17
  have hx16 := hx16.keep bx17
  have HE := Lib.hid (A.keep HE.out bx17)
  have B := Lib.hid (B.out.trans (bx17.mono B.out.size))
  go_wp2_with (go_at_call 16; refine (ints_yes hx16 hx17 (by simp)).mono ?_; rintro e wx18 ⟨rfl, bx18⟩; refine Hid.out ?_)
  refine Lib.hid ?_
  have hx15 := hx15.keep bx18
  have hx16 := hx16.keep bx18
  have hx17 := hx17.keep bx18
  have HE := Lib.hid (A.keep HE.out bx18)
  have B := Lib.hid (B.out.trans (bx18.mono B.out.size))
  clear hx15 hx17 hx16
  have hx19 : TxAt (wx18.alloc (.cells #[.string ⟨#[104, 105]⟩, .string ⟨#[]⟩, .string ⟨#[97, 10, 98]⟩] 9)) (.slice (some ⟨wx18.heap.size, 0, none⟩) 3 3) [([104, 105] : S), ([] : S), ([97, 10, 98] : S)] := txts_lit wx18 [([104, 105] : S), ([] : S), ([97, 10, 98] : S)] (by simp)
  have bx19 : Below wx18.heap.size wx18 (wx18.alloc (.cells #[.string ⟨#[104, 105]⟩, .string ⟨#[]⟩, .string ⟨#[97, 10, 98]⟩] 9)) := (Below.refl _ _).alloc (Nat.le_refl _) _
  have HE := Lib.hid (A.keep HE.out bx19)
  have B := Lib.hid (B.out.trans (bx19.mono B.out.size))
  have cx20 : Calls Tryd.prog 19 #[(.slice (some ⟨wx18.heap.size, 0, none⟩) 3 3)] (wx18.alloc (.cells #[.string ⟨#[104, 105]⟩, .string ⟨#[]⟩, .string ⟨#[97, 10, 98]⟩] 9)) (fun e w' => e = .returned (.string ⟨#[48, 58, 32, 104, 105, 10, 50, 58, 32, 97, 10]⟩) ∧ Below (wx18.alloc (.cells #[.string ⟨#[104, 105]⟩, .string ⟨#[]⟩, .string ⟨#[97, 10, 98]⟩] 9)).heap.size (wx18.alloc (.cells #[.string ⟨#[104, 105]⟩, .string ⟨#[]⟩, .string ⟨#[97, 10, 98]⟩] 9)) w') := by
    have q := A.digest_ HE.out hx19 (by decide +kernel)
    rw [show digest [[104, 105], ([] : S), [97, 10, 98]] = [48, 58, 32, 104, 105, 10, 50, 58, 32, 97, 10] by decide +kernel] at q
    exact q
  go_wp2_with (go_at_call 19; refine (cx20).mono ?_; rintro e wx20 ⟨rfl, bx20⟩; refine Hid.out ?_)
  refine Lib.hid ?_
  clear cx20
  have hx19 := hx19.keep bx20
  have HE := Lib.hid (A.keep HE.out bx20)
  have B := Lib.hid (B.out.trans (bx20.mono B.out.size))
  clear hx19
  go_wp2_with (go_at_call 12; refine (A.parts_ (s := [97]) (a := 1) (b := 1) HE.out (by simp) (i64_s (by omega)) (i64_s (by omega))).mono ?_; rintro e wx21 ⟨vx21, rfl, hx21, bx21⟩; refine Hid.out ?_)
  refine Lib.hid ?_
  rw [show parts [97] 1 1 = [] by decide +kernel] at hx21
  have HE := Lib.hid (A.keep HE.out bx21)
  have B := Lib.hid (B.out.trans (bx21.mono B.out.size))
  obtain ⟨va, vc, rfl⟩ := hx21.slice
  go_wp2
  go_ret
  exact ⟨rfl, B.out⟩
end Go.Proofs.YtbjligjmckilcaaDoor
