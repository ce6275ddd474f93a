/- The examples of layer 7. -/
import Derived.Test.YtihnnffhpgbgjaaGKnown
import Derived.Test.YtihnnffhpgbgjaaGx
import Derived.Test.YtihnnffhpgbgjaaOrd7
namespace Go.Proofs.Ytihnnffhpgbgjaa
open Go.RowKit Go.Maps Go.ChangeMaps Go.MapKept
open Gp
attribute [local go_sem ↓] Go.wp_at_zero Go.wp_at_succ

/-- Nodes with the slices of their parents. -/
def ndVs : List (Nd × Value) → List Value
  | [] => []
  | x :: l => .int .i64 x.1.1 :: x.2 :: ndVs l
theorem ndVs_length (l : List (Nd × Value)) : (ndVs l).length = l.length * 2 := by
  induction l with
  | nil => rfl
  | cons a l ih => simp [ndVs, ih]; omega
theorem nd_at {l : List (Nd × Value)} {k : Nat} {x : Nd × Value} (h : l[k]? = some x) : (ndVs l)[k * 2]? = some (.int .i64 x.1.1) ∧ (ndVs l)[k * 2 + 1]? = some x.2 := by
  induction l generalizing k with
  | nil => simp at h
  | cons a l ih =>
    cases k with
    | zero => simp at h; subst h; exact ⟨rfl, rfl⟩
    | succ k =>
      have := ih (k := k) (by simpa using h)
      rw [show (k + 1) * 2 = k * 2 + 1 + 1 by omega]
      simpa [ndVs] using this
theorem NodesAt.of_own {w : World} {base : Nat} {e : TypeId} {v : Value} {n : Nat} {l : List (Nd × Value)} (h : w.ownsRow base e 2 v n (ndVs l)) (hp : ∀ x ∈ l, NumsAt w x.2 x.1.2) : NodesAt w v (l.map (·.1)) := by
  have hn : n = l.length := by have := h.1; rw [ndVs_length] at this; omega
  subst hn
  rcases h.2 with ⟨rfl, h0⟩ | ⟨g, cap, cur, rfl, _, _, hcap, _⟩
  · have : l = [] := List.eq_nil_of_length_eq_zero h0
    subst this
    exact NodesAt.nil w
  · refine ⟨_, cap, by rw [List.length_map], ⟨by rw [List.length_map]; exact hcap, fun e => by cases e⟩, fun k m hk => ?_⟩
    rw [List.getElem?_map] at hk
    cases hx : l[k]? with
    | none => rw [hx] at hk; cases hk
    | some x =>
      rw [hx] at hk; cases hk
      refine ⟨g, 0, x.2, rfl, ?_, ?_, hp x (List.mem_of_getElem? hx)⟩
      · have h0 := h.cells rfl _ _ (nd_at hx).1
        rwa [Lib.add_plain] at h0
      · have h0 := h.cells rfl _ _ (nd_at hx).2
        rwa [Lib.add_plain] at h0
section
set_option maxHeartbeats 4000000 in
set_option maxRecDepth 100000 in
theorem small_any (A : GApi) (w : World) : Calls Try.prog 5 #[] w fun e w' => e = .returned (.bool true) ∧ Below w.heap.size w w' := by
  go_enter Try.func5, Try.ntmps5
  go_wp2_with (go_at_call 36; refine (node_any 0 none 0 0 _).mono ?_; rintro e w1 ⟨rfl, m1⟩; refine Hid.out ?_)
  refine Lib.hid ?_
  have M1 := Lib.hid (m1.trans (((Below.refl w1.heap.size w1).alloc (Nat.le_refl _) (.cells #[.int .i64 0] 3)).mono m1.size))
  have n1 := nums_one w1 0
  clear m1
  go_wp2_with (go_at_call 36; refine (node_any 1 (some ⟨w1.heap.size, 0, none⟩) 1 1 _).mono ?_; rintro e w2 ⟨rfl, m2⟩; refine Hid.out ?_)
  refine Lib.hid ?_
  have M2 := Lib.hid (M1.out.trans ((m2.trans (((Below.refl w2.heap.size w2).alloc (Nat.le_refl _) (.cells #[.int .i64 0] 3)).mono m2.size)).mono M1.out.size))
  have N1 := Lib.hid ((n1.keep m2).keep ((Below.refl w2.heap.size w2).alloc (Nat.le_refl _) (.cells #[.int .i64 0] 3)))
  have n2 := nums_one w2 0
  clear m2 n1
  go_wp2_with (go_at_call 36; refine (node_any 2 (some ⟨w2.heap.size, 0, none⟩) 1 1 _).mono ?_; rintro e w3 ⟨rfl, m3⟩; refine Hid.out ?_)
  refine Lib.hid ?_
  have b3 := m3.trans (((Below.refl w3.heap.size w3).alloc (Nat.le_refl _) (.cells #[.int .i64 1, .int .i64 2] 3)).mono m3.size)
  have M3 := Lib.hid (M2.out.trans (b3.mono M2.out.size))
  have N1 := Lib.hid (N1.out.keep b3)
  have N2 := Lib.hid (n2.keep b3)
  have n3 := nums_lit w3 [1, 2] (by decide)
  clear m3 n2 b3
  go_wp2_with (go_at_call 36; refine (node_any 3 (some ⟨w3.heap.size, 0, none⟩) 2 2 _).mono ?_; rintro e w4 ⟨rfl, m4⟩; refine Hid.out ?_)
  refine Lib.hid ?_
  have M4 := Lib.hid (M3.out.trans (m4.mono M3.out.size))
  have N1 := Lib.hid (N1.out.keep m4)
  have N2 := Lib.hid (N2.out.keep m4)
  have N3 := Lib.hid (n3.keep m4)
  clear m4 n3
  go_wp2_with (go_at_call 36; refine (node_any 7 none 0 0 _).mono ?_; rintro e w5 ⟨rfl, m5⟩; refine Hid.out ?_)
  refine Lib.hid ?_
  have b5 := m5.trans (((Below.refl w5.heap.size w5).alloc (Nat.le_refl _) (.cells #[.int .i64 0, .slice none 0 0, .int .i64 1, .slice (some ⟨w1.heap.size, 0, none⟩) 1 1, .int .i64 2, .slice (some ⟨w2.heap.size, 0, none⟩) 1 1, .int .i64 3, .slice (some ⟨w3.heap.size, 0, none⟩) 2 2, .int .i64 7, .slice none 0 0] 32)).mono m5.size)
  have M5 := Lib.hid (M4.out.trans (b5.mono M4.out.size))
  have hn : NodesAt (w5.alloc (.cells #[.int .i64 0, .slice none 0 0, .int .i64 1, .slice (some ⟨w1.heap.size, 0, none⟩) 1 1, .int .i64 2, .slice (some ⟨w2.heap.size, 0, none⟩) 1 1, .int .i64 3, .slice (some ⟨w3.heap.size, 0, none⟩) 2 2, .int .i64 7, .slice none 0 0] 32)) (.slice (some ⟨w5.heap.size, 0, none⟩) 5 5) xl :=
    NodesAt.of_own (l := [((0, []), .slice none 0 0), ((1, [0]), .slice (some ⟨w1.heap.size, 0, none⟩) 1 1), ((2, [0]), .slice (some ⟨w2.heap.size, 0, none⟩) 1 1), ((3, [1, 2]), .slice (some ⟨w3.heap.size, 0, none⟩) 2 2), ((7, []), .slice none 0 0)])
      (World.ownsRow_lit (e := 32) (size := 2) (base := 0) w5 #[.int .i64 0, .slice none 0 0, .int .i64 1, .slice (some ⟨w1.heap.size, 0, none⟩) 1 1, .int .i64 2, .slice (some ⟨w2.heap.size, 0, none⟩) 1 1, .int .i64 3, .slice (some ⟨w3.heap.size, 0, none⟩) 2 2, .int .i64 7, .slice none 0 0] 5 (Nat.zero_le _) (by decide) rfl)
      fun x hx => by
        simp at hx
        rcases hx with rfl | rfl | rfl | rfl | rfl
        · exact NumsAt.nil _
        · exact N1.out.keep b5
        · exact N2.out.keep b5
        · exact N3.out.keep b5
        · exact NumsAt.nil _
  have HM := made_any A (OMem.start _) hn (by decide) (by decide)
  rw [x_adds] at HM
  have HM := Lib.hid HM
  clear hn b5 m5 N1 N2 N3 M1 M2 M3 M4
  go_wp2_with (go_at_call 35; refine (HM.out).mono ?_; rintro e w6 ⟨b, rfl, m6⟩; refine Hid.out ?_)
  refine Lib.hid ?_
  generalize w5.alloc _ = wB at *
  have M6 := Lib.hid m6
  have HP := A.past_ 3 m6 (i := 0) rfl (by decide)
  rw [x_past] at HP
  have HP := Lib.hid HP
  clear m6 HM
  go_wp2_with (go_at_call 20; refine (HP.out).mono ?_; rintro e w7 ⟨v7, rfl, hv7, m7⟩; refine Hid.out ?_)
  refine Lib.hid ?_
  have l7 := nums_lit w7 [0, 1, 2] (by decide)
  have a7 := (Below.refl w7.heap.size w7).alloc (Nat.le_refl _) (.cells #[.int .i64 0, .int .i64 1, .int .i64 2] 3)
  have HS := s_same (hv7.keep a7) l7 (by decide)
  rw [show decide (([0, 1, 2] : List Int) = [0, 1, 2]) = true from decide_eq_true rfl] at HS
  have HS := Lib.hid HS
  have M7 := Lib.hid (M6.out.fresh (m7.trans (a7.mono m7.size)))
  clear hv7 m7 l7 a7 HP
  go_wp2_with (go_at_call 17; refine (HS.out).mono ?_; rintro e w8 ⟨rfl, m8⟩; refine Hid.out ?_)
  refine Lib.hid ?_
  have M8 := Lib.hid (M7.out.fresh m8)
  clear m8 HS
  have HP := A.heads_ M8.out (i := 0) rfl (by decide)
  rw [x_heads] at HP
  have HP := Lib.hid HP
  go_wp2_with (go_at_call 22; refine (HP.out).mono ?_; rintro e w9 ⟨v9, rfl, hv9, m9⟩; refine Hid.out ?_)
  refine Lib.hid ?_
  have l9 := nums_lit w9 [3, 7] (by decide)
  have a9 := (Below.refl w9.heap.size w9).alloc (Nat.le_refl _) (.cells #[.int .i64 3, .int .i64 7] 3)
  have HS := s_same (hv9.keep a9) l9 (by decide)
  rw [show decide (([3, 7] : List Int) = [3, 7]) = true from decide_eq_true rfl] at HS
  have HS := Lib.hid HS
  have M9 := Lib.hid (M8.out.fresh (m9.trans (a9.mono m9.size)))
  clear hv9 m9 l9 a9 HP
  go_wp2_with (go_at_call 17; refine (HS.out).mono ?_; rintro e w10 ⟨rfl, m10⟩; refine Hid.out ?_)
  refine Lib.hid ?_
  have M10 := Lib.hid (M9.out.fresh m10)
  clear m10 HS
  have HP := A.level_ 3 M10.out (i := 0) rfl (by decide)
  rw [x_lev3] at HP
  have HP := Lib.hid HP
  go_wp2_with (go_at_call 13; refine (HP.out).mono ?_; rintro e w11 ⟨rfl, m11⟩; refine Hid.out ?_)
  refine Lib.hid ?_
  have M11 := Lib.hid (M10.out.fresh m11)
  clear m11 HP
  have HP := A.level_ 7 M11.out (i := 0) rfl (by decide)
  rw [x_lev7] at HP
  have HP := Lib.hid HP
  go_wp2_with (go_at_call 13; refine (HP.out).mono ?_; rintro e w12 ⟨rfl, m12⟩; refine Hid.out ?_)
  refine Lib.hid ?_
  have M12 := Lib.hid (M11.out.fresh m12)
  clear m12 HP
  have HP := A.level_ 5 M12.out (i := 0) rfl (by decide)
  rw [x_lev5] at HP
  have HP := Lib.hid HP
  go_wp2_with (go_at_call 13; refine (HP.out).mono ?_; rintro e w13 ⟨rfl, m13⟩; refine Hid.out ?_)
  refine Lib.hid ?_
  have M13 := Lib.hid (M12.out.fresh m13)
  have l13 := nums_lit w13 [3, 7, 2] (by decide)
  have a13 := (Below.refl w13.heap.size w13).alloc (Nat.le_refl _) (.cells #[.int .i64 3, .int .i64 7, .int .i64 2] 3)
  have HP := A.sorted_ (M13.out.fresh a13) (i := 0) rfl (by decide) l13 (by decide)
  rw [x_sorted] at HP
  have HP := Lib.hid HP
  have M13 := Lib.hid (M13.out.fresh a13)
  clear m13 a13 l13
  go_wp2_with (go_at_call 28; refine (HP.out).mono ?_; rintro e w14 ⟨v14, rfl, hv14, m14⟩; refine Hid.out ?_)
  refine Lib.hid ?_
  have l14 := nums_lit w14 [7, 2, 3] (by decide)
  have a14 := (Below.refl w14.heap.size w14).alloc (Nat.le_refl _) (.cells #[.int .i64 7, .int .i64 2, .int .i64 3] 3)
  have HS := s_same (hv14.keep a14) l14 (by decide)
  rw [show decide (([7, 2, 3] : List Int) = [7, 2, 3]) = true from decide_eq_true rfl] at HS
  have HS := Lib.hid HS
  have M14 := Lib.hid (M13.out.fresh (m14.trans (a14.mono m14.size)))
  clear hv14 m14 l14 a14 HP
  go_wp2_with (go_at_call 17; refine (HS.out).mono ?_; rintro e w15 ⟨rfl, m15⟩; refine Hid.out ?_)
  refine Lib.hid ?_
  have M15 := Lib.hid (M14.out.fresh m15)
  have l15 := nums_lit w15 [1, 7] (by decide)
  have a15 := (Below.refl w15.heap.size w15).alloc (Nat.le_refl _) (.cells #[.int .i64 1, .int .i64 7] 3)
  have HP := A.down_ (M15.out.fresh a15) (i := 0) rfl (by decide) l15 (by decide)
  rw [x_down] at HP
  have HP := Lib.hid HP
  have M15 := Lib.hid (M15.out.fresh a15)
  clear m15 a15 l15 HS
  go_wp2_with (go_at_call 26; refine (HP.out).mono ?_; rintro e w16 ⟨v16, rfl, hv16, m16⟩; refine Hid.out ?_)
  refine Lib.hid ?_
  have l16 := nums_lit w16 [0, 1, 7] (by decide)
  have a16 := (Below.refl w16.heap.size w16).alloc (Nat.le_refl _) (.cells #[.int .i64 0, .int .i64 1, .int .i64 7] 3)
  have HS := s_same (hv16.keep a16) l16 (by decide)
  rw [show decide (([0, 1, 7] : List Int) = [0, 1, 7]) = true from decide_eq_true rfl] at HS
  have HS := Lib.hid HS
  have M16 := Lib.hid (M15.out.fresh (m16.trans (a16.mono m16.size)))
  clear hv16 m16 l16 a16 HP
  go_wp2_with (go_at_call 17; refine (HS.out).mono ?_; rintro e w17 ⟨rfl, m17⟩; refine Hid.out ?_)
  refine Lib.hid ?_
  have M17 := Lib.hid (M16.out.fresh m17)
  clear m17 HS
  have l17 := nums_one w17 1
  have a17 := (Below.refl w17.heap.size w17).alloc (Nat.le_refl _) (.cells #[.int .i64 1] 3)
  have M18 := Lib.hid (M17.out.fresh a17)
  go_wp2_with (go_at_call 36; refine (node_any 3 (some ⟨w17.heap.size, 0, none⟩) 1 1 _).mono ?_; rintro e w18 ⟨rfl, m18⟩; refine Hid.out ?_)
  refine Lib.hid ?_
  have HA := A.add_ (n := (3, [1])) (M18.out.fresh m18) (i := 0) rfl (l17.keep m18) (by decide) (by decide)
  rw [x_add3] at HA
  have HA := Lib.hid HA
  clear l17 a17 m18
  go_wp2_with (go_at_call 8; refine (HA.out).mono ?_; rintro e w19 ⟨rfl, m19⟩; refine Hid.out ?_)
  refine Lib.hid ?_
  have M19 := Lib.hid (show OMem wB w19 [A.ob b xl] from m19)
  have l19 := nums_one w19 5
  have a19 := (Below.refl w19.heap.size w19).alloc (Nat.le_refl _) (.cells #[.int .i64 5] 3)
  have M20 := Lib.hid (M19.out.fresh a19)
  clear m19 HA
  go_wp2_with (go_at_call 36; refine (node_any 8 (some ⟨w19.heap.size, 0, none⟩) 1 1 _).mono ?_; rintro e w20 ⟨rfl, m20⟩; refine Hid.out ?_)
  refine Lib.hid ?_
  have HA := A.add_ (n := (8, [5])) (M20.out.fresh m20) (i := 0) rfl (l19.keep m20) (by decide) (by decide)
  rw [x_add8] at HA
  have HA := Lib.hid HA
  clear l19 a19 m20
  go_wp2_with (go_at_call 8; refine (HA.out).mono ?_; rintro e w21 ⟨rfl, m21⟩; refine Hid.out ?_)
  refine Lib.hid ?_
  have M21 := Lib.hid (show OMem wB w21 [A.ob b xl] from m21)
  have HL := A.len_ m21 (i := 0) rfl (by decide)
  have HL := Lib.hid HL
  clear m21 HA
  go_wp2_with (go_at_call 10; refine (HL.out).mono ?_; rintro e w22 ⟨rfl, m22⟩; refine Hid.out ?_)
  refine Lib.hid ?_
  have M22 := Lib.hid (M5.out.trans ((M21.out.fresh m22).below.mono M5.out.size))
  clear m22 HL
  go_wp2
  go_ret
  exact ⟨rfl, M22.out⟩
end
end Go.Proofs.Ytihnnffhpgbgjaa
