/- Line of package words. -/
import Derived.Test.YtbjligjmckilcaaDoorWpt
namespace Go.Proofs.YtbjligjmckilcaaDoor
open Go.RowKit Go.Maps Go.ChangeMaps Go.MapKept
open Wd
attribute [local go_sem ↓] Go.wp_at_zero Go.wp_at_succ
def nl (s : S) : S := s.takeWhile (· ≠ 10)
theorem index_nl (s : S) : (Lib.indexByte s 10 = -1 ∧ nl s = s) ∨ (Lib.indexByte s 10 = ((nl s).length : Int) ∧ (nl s).length + 1 ≤ s.length ∧ nl s = s.take (nl s).length) := by
  induction s with
  | nil => exact .inl ⟨rfl, rfl⟩
  | cons c s ih =>
    unfold Lib.indexByte
    by_cases hc : c = 10
    · subst hc
      refine .inr ⟨?_, ?_, ?_⟩ <;> simp [nl]
    · have e : nl (c :: s) = c :: nl s := by unfold nl; rw [List.takeWhile_cons, if_pos (by simpa using hc)]
      rw [if_neg (by simpa using hc), e]
      rcases ih with ⟨h1, h2⟩ | ⟨h1, h2, h3⟩
      · rw [h1, if_pos (by rfl), h2]; exact .inl ⟨rfl, rfl⟩
      · refine .inr ⟨?_, by simp; omega, ?_⟩
        · rw [if_neg (by simp; omega), h1]; simp
        · rw [List.length_cons, List.take_succ_cons, ← h3]
theorem line_nl (s : S) (m : Int) {k : Nat} (hk : max 0 (min m (s.length : Int)) = (k : Int)) : nl (s.take k) = line s m := by
  have h1 : ∀ (l : S) (k : Nat), nl (l.take k) = (nl l).take k := by
    intro l
    induction l with
    | nil => intro k; simp [nl]
    | cons c l ih =>
      intro k
      cases k with
      | zero => simp [nl]
      | succ k =>
        rw [List.take_succ_cons]
        by_cases hc : c = 10
        · subst hc; simp [nl]
        · have e : ∀ r, nl (c :: r) = c :: nl r := fun r => by unfold nl; rw [List.takeWhile_cons, if_pos (by simpa using hc)]
          rw [e, e, ih, List.take_succ_cons]
  have hle : (nl s).length ≤ s.length := by
    rcases index_nl s with ⟨_, h⟩ | ⟨_, h, _⟩
    · rw [h]; exact Nat.le_refl _
    · omega
  rw [h1]
  unfold line
  rcases (by omega : (m.toNat = k) ∨ (s.length ≤ k ∧ s.length ≤ m.toNat)) with h | ⟨h2, h3⟩
  · rw [h]; rfl
  · show (nl s).take k = (nl s).take m.toNat
    rw [List.take_of_length_le (by omega), List.take_of_length_le (by omega)]
theorem bs_ne {a b : S} (h : a ≠ b) : ((bs a).toList == (bs b).toList) = false := by rw [bs_toList, bs_toList]; simpa using h
section
variable {w : World}
theorem byte_ok (s : S) : Calls Tryd.prog 59 #[.string (bs s), .int .u8 10] w fun e w' => e = .returned (.int .i64 (Lib.indexByte s 10)) ∧ w = w' :=
  (Any.stringslite_IndexByte { Tryd.lcut with } (bs s) 10 w).mono fun _ _ ⟨h1, h2⟩ => ⟨h1, h2.symm⟩
set_option maxHeartbeats 4000000 in
set_option maxRecDepth 100000 in
theorem index_ok (s : S) (hs : s.length ≤ 1000) : Calls Tryd.prog 51 #[.string (bs s), .string (bs [10])] w fun e w' => e = .returned (.int .i64 (Lib.indexByte s 10)) ∧ w = w' := by
  have HB := Lib.hid (byte_ok (w := w) s)
  have hz := bs_size s
  have h1 : (bs [10]).size = 1 := rfl
  by_cases he : s = [10]
  · subst he
    have hi : Lib.indexByte [10] 10 = 0 := by decide
    rw [hi]
    go_enter Tryd.func51, Tryd.ntmps51
    go_wp2
    go_ret
    exact ⟨rfl, rfl⟩
  · have hne := bs_ne (fun q => he q.symm : ([10] : S) ≠ s)
    have hb0 : ∃ h : 0 < (bs [10]).size, (bs [10])[0]'h = 10 := ⟨by rw [h1]; omega, rfl⟩
    obtain ⟨hb1, hb2⟩ := hb0
    go_enter Tryd.func51, Tryd.ntmps51
    go_wp2_with (go_at_call 59; refine (HB.out).mono ?_; rintro e w2 ⟨rfl, rfl⟩)
    go_ret
    exact ⟨rfl, rfl⟩
set_option maxHeartbeats 4000000 in
set_option maxRecDepth 100000 in
theorem cut_ok (s : S) (hs : s.length ≤ 1000) : Calls Tryd.prog 40 #[.string (bs s), .string (bs [10])] w fun e w' => (∃ (x : ByteArray) (y : Bool), e = .returned (.tuple #[.string (bs (nl s)), .string x, .bool y])) ∧ Below w.heap.size w w' := by
  have HI := Lib.hid (index_ok (w := w) s hs)
  have hz := bs_size s
  have h1 : (bs [10]).size = 1 := rfl
  rcases index_nl s with ⟨hi, hn⟩ | ⟨hi, hl, hn⟩
  · rw [hi] at HI
    rw [hn]
    clear hn hi
    go_enter Tryd.func40, Tryd.ntmps40
    go_wp2_with (go_at_call 51; refine (HI.out).mono ?_; rintro e w2 ⟨rfl, rfl⟩; refine Hid.out ?_)
    refine Lib.hid ?_
    go_wp2
    go_ret3
    exact ⟨⟨_, _, rfl⟩, Below.refl _ _⟩
  · rw [hi] at HI
    have HN := Lib.hid (show (bs s).extract 0 (nl s).length = bs (nl s) by rw [bs_extract, List.drop_zero, Nat.sub_zero, ← hn])
    generalize hk : (nl s).length = k at HI HN hl
    clear hn hi hk
    have hkn := HN.out
    go_enter Tryd.func40, Tryd.ntmps40
    go_wp2_with (go_at_call 51; refine (HI.out).mono ?_; rintro e w2 ⟨rfl, rfl⟩; refine Hid.out ?_)
    refine Lib.hid ?_
    go_wp2
    go_quiet (fail)
    go_wp2
    go_ret3
    exact ⟨⟨_, _, rfl⟩, below_drewN _ _⟩
set_option maxHeartbeats 4000000 in
set_option maxRecDepth 100000 in
theorem scut_ok (s : S) (hs : s.length ≤ 1000) : Calls Tryd.prog 28 #[.string (bs s), .string (bs [10])] w fun e w' => (∃ (x : ByteArray) (y : Bool), e = .returned (.tuple #[.string (bs (nl s)), .string x, .bool y])) ∧ Below w.heap.size w w' := by
  have HI := Lib.hid (cut_ok (w := w) s hs)
  go_enter Tryd.func28, Tryd.ntmps28
  go_wp2_with (go_at_call 40; refine (HI.out).mono ?_; rintro e w2 ⟨⟨x, y, rfl⟩, b2⟩; refine Hid.out ?_)
  refine Lib.hid ?_
  go_wp2
  go_ret3
  exact ⟨⟨_, _, rfl⟩, b2⟩
set_option maxHeartbeats 4000000 in
set_option maxRecDepth 100000 in
theorem p_line {s : S} {m : Int} (hs : s.length ≤ 500) (_hm : I64 m) : Calls Tryd.prog 14 #[.string (bs s), .int .i64 m] w (Text w (line s m)) := by
  have hz := bs_size s
  obtain ⟨k, hk⟩ : ∃ k : Nat, max 0 (min m (s.length : Int)) = (k : Int) := ⟨(max 0 (min m (s.length : Int))).toNat, by omega⟩
  have hks : k ≤ s.length := by omega
  have HL := Lib.hid (line_nl s m hk)
  have hex : (bs s).extract 0 k = bs (s.take k) := by rw [bs_extract, List.drop_zero, Nat.sub_zero]
  have HC := Lib.hid (scut_ok (w := w) (s.take k) (by simp; omega))
  have hlen : (nl (s.take k)).length ≤ 500 := by
    rcases index_nl (s.take k) with ⟨_, h⟩ | ⟨_, h, _⟩
    · rw [h]; simp; omega
    · simp at h; omega
  generalize s.take k = t at HL hex HC hlen
  have hcl : ({ data := #[10] } : ByteArray) = bs [10] := rfl
  go_enter Tryd.func14, Tryd.ntmps14
  go_wp2_with (go_at_call 28; refine (HC.out).mono ?_; rintro e w2 ⟨⟨x, y, rfl⟩, b2⟩; refine Hid.out ?_)
  refine Lib.hid ?_
  have B2 := Lib.hid b2
  clear b2
  go_wp2_with (go_at_call 25; refine (clone_any (nl t) (by omega)).mono ?_; rintro e w3 ⟨rfl, b3⟩; refine Hid.out ?_)
  refine Lib.hid ?_
  go_wp2
  go_ret
  exact ⟨ret_string (by rw [HL.out]), B2.out.trans (b3.mono B2.out.size)⟩
end
end Go.Proofs.YtbjligjmckilcaaDoor
