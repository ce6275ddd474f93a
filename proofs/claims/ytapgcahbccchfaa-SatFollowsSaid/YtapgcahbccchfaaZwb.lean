/- Package sat: way. -/
import Derived.Test.YtapgcahbccchfaaZwa
namespace Go.Proofs.Ytapgcahbccchfaa
open Go.RowKit Go.Maps Go.ChangeMaps Go.MapKept
open St
attribute [local go_sem ↓] Go.wp_at_zero Go.wp_at_succ

theorem own_sets {g n c : Nat} {e : TypeId} : ∀ (vs : List Value) (o : Nat) (xs : List Value) (w : World), w.ownsRow 0 e 1 (.slice (some ⟨g, 0, none⟩) n c) n xs → o + vs.length = xs.length →
    (w.setCells g o vs).ownsRow 0 e 1 (.slice (some ⟨g, 0, none⟩) n c) n (xs.take o ++ vs)
  | [], o, xs, w, h, hl => by
    rw [List.append_nil, List.take_of_length_le (by simp at hl; omega)]; exact h
  | v :: r, o, xs, w, h, hl => by
    have h1 := own_set h o v
    have h2 := own_sets r (o + 1) _ _ h1 (by simp at hl ⊢; omega)
    have ho : o < xs.length := by simp at hl; omega
    rw [show (xs.set o v).take (o + 1) ++ r = xs.take o ++ v :: r by
      rw [List.take_add_one, List.getElem?_set_self ho, List.take_set_of_le (Nat.le_refl _)]; simp] at h2
    exact h2
theorem grown_setL {w : World} {g : Nat} : ∀ (vs : List Value) (o : Nat) (w3 : World), w.grownBy w3 (some g) → w.grownBy (w3.setCells g o vs) (some g)
  | [], _, _, h => h
  | v :: r, o, w3, h => grown_setL r (o + 1) _ (h.trans (grown_cell w3 g o v))
/-- slices.Reverse of an own row. -/
theorem p_reverse {w : World} {g n c : Nat} {xs : List Int} (h : w.ownsRow 0 3 1 (.slice (some ⟨g, 0, none⟩) n c) n (intVs xs)) (hx : xs.length = n) (hn : n ≤ 10000) :
    Calls Try.prog 40 #[.slice (some ⟨g, 0, none⟩) n c] w fun e w' => e = .returned (.tuple #[]) ∧ w'.ownsRow 0 3 1 (.slice (some ⟨g, 0, none⟩) n c) n (intVs xs.reverse) ∧ w.grownBy w' (some g) := by
  have H := Any.slices_Reverse_int_cells Try.lreverse g 0 n c xs w (by omega) (by omega) (fun j hj => by
    rw [List.getD_eq_getElem?_getD, List.getElem?_eq_getElem hj, Nat.zero_add]
    exact own_at h (by simp [intVs, hj])) (fun j hj => by rw [Nat.zero_add]; exact own_fz h j)
  change Calls Try.prog 40 _ _ _ at H
  refine H.mono fun e w' ⟨he, q, hw⟩ => ?_
  subst hw
  rw [← hx, List.take_length]
  have hd : w.grownBy (w.drewN q) (some g) := ⟨rfl, rfl, rfl, Nat.le_refl _, fun _ _ _ => rfl⟩
  have h2 : (w.drewN q).ownsRow 0 3 1 (.slice (some ⟨g, 0, none⟩) n c) n (intVs xs) := h
  have h3 := own_sets (xs.reverse.map (Value.int .i64)) 0 _ _ h2 (by simp [intVs])
  rw [List.take_zero, List.nil_append, ← hx] at h3
  exact ⟨he, h3, grown_setL _ _ _ hd⟩
def vlen : Value → Nat
  | .slice _ n _ => n
  | _ => 0
set_option maxHeartbeats 4000000 in
set_option maxRecDepth 100000 in
theorem p_way {w : World} {t : Value} {l : List Cl} {n : Nat} {first x : Int} {T O : List Int} (ht : NumsAt w t T) (hT : Trl l n first T O) (hx : x ∈ O) (hne : x ≠ first) (hn : n ≤ 400) :
    Calls Try.prog 37 #[t, .int .i64 x] w fun e w' => ∃ a c q, e = .returned (.slice a (q.length + 1) c) ∧ w'.ownsRow 0 3 1 (.slice a (q.length + 1) c) (q.length + 1) (intVs (first :: q)) ∧ path l (first :: q) x = true ∧ q.length + 1 < 2 * n ∧
      Below w.heap.size w w' ∧ ∀ k, (Value.slice a (q.length + 1) c).ownBlock = some k → w.heap.size ≤ k := by
  have HN := Lib.hid ht
  have HT := Lib.hid hT
  have HNE := Lib.hid hne
  have HB0 := Lib.hid (Back.start (l := l) hx)
  have hlen := hT.len
  have HLN := Lib.hid hlen
  obtain ⟨ta, tc, hta⟩ := ht.slice
  subst hta
  clear ht hT hx hne hlen
  go_enter Try.func37, Try.ntmps37
  go_wp2
  go_loopw [1, 5] (fun y v wr => ∃ (z : Int) (W : List Int) (a : Option Addr) (c m : Nat), y = .int .i64 z ∧ v = .slice a m c ∧ Hid (m = W.length) ∧ Hid (wr.ownsRow 0 3 1 (.slice a m c) m (intVs W)) ∧ Hid (Back l O x z W.reverse) ∧ Hid (Below w.heap.size w wr) ∧ Hid (∀ k, (Value.slice a m c).ownBlock = some k → w.heap.size ≤ k)) (fun _ v _ => 2 * n - vlen v)
  case atStart => exact ⟨x, [], none, 0, 0, rfl, rfl, Lib.hid rfl, Lib.hid (World.ownsRow_nil _ _ _ _), HB0, Lib.hid (Below.refl _ _), Lib.hid (fun k hk => by cases hk)⟩
  case round =>
    clear HB0
    obtain ⟨z, W, a, c, m, rfl, rfl, HM, HO, HK, HB, HW⟩ := hrel
    obtain ⟨p, hp, hpl, hzl, hwl⟩ := HK.out.at_ HT.out
    obtain ⟨y, rfl⟩ : ∃ y : Nat, z = (y : Int) := ⟨z.toNat, by omega⟩
    rw [List.length_reverse, ← HM.out] at hwl
    have hy : y < T.length := by rw [HLN.out]; omega
    have hyn : y < 2 * n := by omega
    rw [Int.toNat_natCast] at hp
    obtain ⟨tb, toff, tcap, e1, _, hc⟩ := (HN.out.keep HB.out).form (by omega)
    cases e1
    have d0 := hc y p hp
    have HP := Lib.hid hp
    clear hc hp
    by_cases he : p = (y : Int)
    · obtain ⟨q, hq, hpath, hql⟩ := HK.out.done HT.out (by rw [Int.toNat_natCast, HP.out, he]) HNE.out
      have hW : W = (first :: q).reverse := by rw [← hq, List.reverse_reverse]
      have hm : m = q.length + 1 := by rw [HM.out, hW]; simp
      subst hm
      rw [hq] at hpath hql
      obtain ⟨g, c', e2⟩ := own_some HO.out (by omega)
      cases e2
      have HRV := Lib.hid (p_reverse HO.out HM.out.symm (by omega))
      have HQ := Lib.hid hq
      have HPA := Lib.hid hpath
      clear hq hpath hW
      go_wp2_with (go_at_call 40; refine (HRV.out).mono ?_; rintro e w3 ⟨rfl, o3, g3⟩; refine Hid.out ?_)
      refine Lib.hid ?_
      rw [HQ.out] at o3
      have HO3 := Lib.hid o3
      have HB3 := Lib.hid (below_grown HB.out g3 fun k hk => HW.out k hk)
      simp only [List.length_cons] at hql
      clear o3 g3 HRV
      go_wp2
      go_ret
      exact ⟨_, _, q, rfl, HO3.out, HPA.out, by omega, HB3.out, HW.out⟩
    · have HK2 := Lib.hid (HK.out.step HT.out (by rw [Int.toNat_natCast]; exact HP.out) he)
      have hba := (Below.refl wr.heap.size wr).alloc (Nat.le_refl _) (.cells #[.int .i64 p] 3)
      have ho1 := ownsRow_block (w' := wr.alloc (.cells #[.int .i64 p] 3)) HO.out fun k hk => hba.block k (HO.out.lt k hk).2
      rw [HM.out] at ho1
      obtain ⟨a2, c2, w3, r3, o3, g3, hloc⟩ := run_pushN _ _ _ W [p] ho1 (nums_one wr p) (by rw [← HM.out]; simp; omega)
      rw [← HM.out] at r3 o3 hloc
      simp only [List.length_singleton] at r3 o3 hloc
      have RA := Lib.hid r3
      have HM3 := Lib.hid (show m + 1 = (W ++ [p]).length by rw [List.length_append, ← HM.out]; rfl)
      have HO3 := Lib.hid o3
      have HB3 := Lib.hid (below_grown (HB.out.trans (hba.mono HB.out.size)) g3 fun k hk => HW.out k (by rw [HM.out]; exact hk))
      have HW3 := Lib.hid (show ∀ k, (Value.slice a2 (m + 1) c2).ownBlock = some k → w.heap.size ≤ k from fun k hk => by
        rcases hloc with h | h
        · exact HW.out k (h.symm.trans hk)
        · have := h.symm.trans hk
          have := HB.out.size
          simp at *; omega)
      have HK3 := Lib.hid (show Back l O x p (W ++ [p]).reverse by rw [List.reverse_append]; exact HK2.out)
      have d3 := (HN.out.keep HB3.out).at_ HP.out
      clear ho1 r3 o3 g3 hloc hba
      go_wp2_with (at_builtin; refine Hid.out ?_)
      refine Lib.hid ?_
      refine Lib.wpList_append_run _ rfl _ _ _ _ rfl _ _ rfl rfl _ _ RA.out ?_
      go_wp2
      go_roundw
      case rel => exact ⟨p, W ++ [p], a2, c2, m + 1, rfl, rfl, HM3, HO3, HK3, HB3, HW3⟩
      case measure => simp only [vlen]; omega
end Go.Proofs.Ytapgcahbccchfaa
