/- SameTexts of the reference (as in layer 1). -/
import Derived.Test.YtjbcgahdiolhhaaDoorRead2
namespace Go.Proofs.YtjbcgahdiolhhaaDoor
open Go.RowKit Go.Shelf

theorem take_eq {α : Type} {l m : List α} {k : Nat} (h : l.take k = m.take k) (h1 : k < l.length) (h2 : k < m.length) (he : l[k] = m[k]) : l.take (k + 1) = m.take (k + 1) := by
  rw [List.take_succ_eq_append_getElem h1, List.take_succ_eq_append_getElem h2, h, he]

theorem sameTexts_ne (a a' : Option Addr) (l m : List (List UInt8)) (cap cap' : Nat) (hne : l.length ≠ m.length) (w : World) :
    Calls Tryd.prog 16 #[.slice a l.length cap, .slice a' m.length cap'] w fun e w' => e = .returned (.bool false) ∧ Below w.heap.size w w' := by
  have hb : ((l.length : Int) != (m.length : Int)) = true := by rw [bne_iff_ne]; omega
  clear hne
  go_enter Tryd.func16, Tryd.ntmps16
  go_wp2
  go_ret
  exact ⟨rfl, Below.refl _ _⟩

theorem sameTexts_nil (a a' : Option Addr) (cap cap' : Nat) (w : World) :
    Calls Tryd.prog 16 #[.slice a 0 cap, .slice a' 0 cap'] w fun e w' => e = .returned (.bool true) ∧ Below w.heap.size w w' := by
  go_enter Tryd.func16, Tryd.ntmps16
  go_wp2
  go_loop [5] (fun i => i = .int .i64 0) (fun _ => 0)
  case atStart => exact rfl
  case round =>
    obtain rfl := hrel
    go_wp2
    go_ret
    exact ⟨rfl, Below.refl _ _⟩

set_option maxHeartbeats 1000000 in
theorem sameTexts_some (l m : List (List UInt8)) (n : Nat) (hn : m.length = n) (hl : l.length = n) (hb : n ≤ 1099511627776) (b off cap b' off' cap' : Nat) (w : World) (h1 : b < w.heap.size) (h2 : b' < w.heap.size)
    (hc : ∀ k, k < l.length → w.cell? ⟨b, off + k, none⟩ = some (.string (bs (l.getD k [])))) (hc' : ∀ k, k < m.length → w.cell? ⟨b', off' + k, none⟩ = some (.string (bs (m.getD k [])))) :
    Calls Tryd.prog 16 #[.slice (some ⟨b, off, none⟩) n cap, .slice (some ⟨b', off', none⟩) n cap'] w fun e w' => e = .returned (.bool (decide (l = m))) ∧ Below w.heap.size w w' := by
  have HC := Lib.hid hc
  have HC' := Lib.hid hc'
  have HN := Lib.hid hn
  have HL := Lib.hid hl
  clear hc hc' hn hl
  go_enter Tryd.func16, Tryd.ntmps16
  go_wp2
  go_loopw [5] (fun i wr => ∃ k : Nat, k ≤ n ∧ i = .int .i64 k ∧ Hid (l.take k = m.take k) ∧ Below w.heap.size w wr) (fun i _ => n - (intOf i).toNat)
  case atStart => exact ⟨0, Nat.zero_le _, rfl, Lib.hid rfl, Below.refl _ _⟩
  case round =>
    obtain ⟨k, hk, rfl, HT, kr⟩ := hrel
    by_cases hlt : k < n
    · have g1 : k < l.length := by rw [HL.out]; exact hlt
      have g2 : k < m.length := by rw [HN.out]; exact hlt
      have c1 : wr.cell? ⟨b, off + k, none⟩ = some (.string (bs (l[k]))) := by
        rw [kr.cell (p := ⟨b, off + k, none⟩) h1, HC.out k g1, List.getD_eq_getElem?_getD, List.getElem?_eq_getElem g1]; rfl
      have c2 : wr.cell? ⟨b', off' + k, none⟩ = some (.string (bs (m[k]))) := by
        rw [kr.cell (p := ⟨b', off' + k, none⟩) h2, HC'.out k g2, List.getD_eq_getElem?_getD, List.getElem?_eq_getElem g2]; rfl
      by_cases hd : l[k] = m[k]
      · have HX := Lib.hid (show (!((bs l[k]).toList == (bs m[k]).toList)) = false from by rw [hd]; simp)
        have HT2 := Lib.hid (take_eq HT.out g1 g2 hd)
        clear hd
        go_wp2
        go_quiet (fail)
        have kr2 := below_drewN kr nq
        clear c1 c2 kr
        simp only [HX.out]
        go_wp2
        go_roundw
        case rel => exact ⟨k + 1, by omega, by go_num, HT2, kr2⟩
        case measure => simp [intOf]; omega
      · have HX := Lib.hid (show (!((bs l[k]).toList == (bs m[k]).toList)) = true from by rw [bs_toList, bs_toList]; simpa using hd)
        have HD : l ≠ m := by intro e; subst e; exact hd rfl
        clear hd
        go_wp2
        go_quiet (fail)
        have kr2 := below_drewN kr nq
        clear c1 c2 kr
        simp only [HX.out]
        go_wp2
        go_ret
        exact ⟨by simp [HD], kr2⟩
    · have he : l = m := by
        have := HT.out
        rwa [List.take_of_length_le (by have := HL.out; omega), List.take_of_length_le (by have := HN.out; omega)] at this
      have HE := Lib.hid he
      clear he
      go_wp2
      go_ret
      exact ⟨by rw [HE.out]; simp, kr⟩

theorem sameTexts_any (v v' : Value) (l m : List (List UInt8)) (hm : m.length ≤ 1099511627776) (w : World) (h : TextsAt w v l) (h' : TextsAt w v' m) :
    Calls Tryd.prog 16 #[v, v'] w fun e w' => e = .returned (.bool (decide (l = m))) ∧ Below w.heap.size w w' := by
  obtain ⟨a, cap, rfl, h⟩ := h
  obtain ⟨a', cap', rfl, h'⟩ := h'
  by_cases hne : l.length = m.length
  · rcases h with rfl | ⟨b, off, rfl, hb, hc⟩
    · have : m = [] := List.length_eq_zero_iff.1 hne.symm
      subst this
      exact sameTexts_nil a a' cap cap' w
    · rcases h' with rfl | ⟨b', off', rfl, hb', hc'⟩
      · have : l = [] := List.length_eq_zero_iff.1 hne
        subst this
        exact sameTexts_nil _ _ cap cap' w
      · have := sameTexts_some l m m.length rfl hne hm b off cap b' off' cap' w hb hb' hc hc'
        rw [hne]
        exact this
  · have hd : decide (l = m) = false := by
      rw [decide_eq_false_iff_not]; intro e; exact hne (by rw [e])
    rw [hd]
    exact sameTexts_ne a a' l m cap cap' hne w
end Go.Proofs.YtjbcgahdiolhhaaDoor
