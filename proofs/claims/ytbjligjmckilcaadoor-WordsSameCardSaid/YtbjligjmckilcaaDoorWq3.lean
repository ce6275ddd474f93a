/- The reference of layer 10: Words, Parts. -/
import Derived.Test.YtbjligjmckilcaaDoorWq2
import Derived.Laws.IdiomStrings
namespace Go.Proofs.YtbjligjmckilcaaDoor
open Go.RowKit Go.Maps Go.ChangeMaps Go.MapKept
open Wd
attribute [local go_sem ↓] Go.wp_at_zero Go.wp_at_succ

theorem conv_str {w : World} {a : Addr} {cap : Nat} {l : S} (h : ByAt w (.slice (some a) l.length cap) l) (h0 : 0 < l.length) : (convert 41 9 (.slice (some a) l.length cap)).run Tryd.prog w = .ok (.string (bs l)) w := by
  obtain ⟨b, off, cap', e, _, hc⟩ := h.form h0
  cases e
  refine run_convert_bytes_back (P := Tryd.prog) w 41 9 5 ⟨b, off, none⟩ cap l Tryd.underlying41 Tryd.underlying5 Tryd.underlying9 fun j hj => ?_
  rw [Lib.add_plain]
  exact hc j _ (List.getElem?_eq_getElem hj)
theorem OMem.rowZero {w0 w : World} {os : List Ob} {i n size : Nat} {e : TypeId} {v : Value} {xs : List Value} (h : OMem w0 w os) (hi : os[i]? = some (.row e size v n xs)) : OMem w0 w (os.set i (.row e size (.slice none 0 0) 0 [])) := by
  obtain ⟨B, S, hq, hch⟩ := h.change hi
  exact hch rfl rfl rfl (Nat.le_refl _) (fun _ _ _ => rfl) (K' := rowK e size (.slice none 0 0) 0 []) (B' := fun x => (Value.slice none 0 0).ownBlock = some x) (S' := fun _ => False) ⟨World.ownsRow_nil _ _ _ _, fun _ => Iff.rfl, fun _ => id⟩ (fun _ hx => by cases hx) fun _ h => h.elim
/-- What a function leaves that makes a list of texts. -/
def Texts (w : World) (l : List S) (e : Ending) (w' : World) : Prop := ∃ v, e = .returned v ∧ TxAt w' v l ∧ Below w.heap.size w w'
def Ints (w : World) (l : List Int) (e : Ending) (w' : World) : Prop := ∃ v, e = .returned v ∧ NumsAt w' v l ∧ Below w.heap.size w w'
section
variable {w : World}
set_option maxHeartbeats 4000000 in
set_option maxRecDepth 100000 in
theorem q_words {s : S} (hs : s.length ≤ 1000) : Calls Tryd.prog 11 #[.string (bs s)] w (Texts w (words s)) := by
  have hz := bs_size s
  have M0 := Lib.hid (((OMem.start w).rowNil 9 1).rowNil 5 1)
  go_enter Tryd.func11, Tryd.ntmps11
  go_wp2
  go_loopw [3, 4, 5] (fun o n i wr => ∃ (k : Nat) (st1 : List S) (st2 : S) (oa : Option Addr) (oc : Nat) (na : Option Addr) (nc : Nat), k ≤ s.length ∧ i = .int .i64 k ∧ o = .slice oa st1.length oc ∧ n = .slice na st2.length nc ∧ Hid (wrun s k = (st1, st2)) ∧ OMem w wr [.row 9 1 (.slice oa st1.length oc) st1.length (txVs st1), .row 5 1 (.slice na st2.length nc) st2.length (byVs st2)]) (fun _ _ i _ => s.length - (intOf i).toNat)
  case atStart => exact ⟨0, [], [], none, 0, none, 0, Nat.zero_le _, rfl, rfl, rfl, Lib.hid (wrun_zero s), M0.out⟩
  case round =>
    obtain ⟨k, st1, st2, oa, oc, na, nc, hk, rfl, rfl, rfl, HW, mm⟩ := hrel
    have hwl := wrun_len hk
    rw [HW.out] at hwl
    simp only at hwl
    by_cases hlt : k < s.length
    · obtain ⟨c, hcc⟩ : ∃ c, s[k]? = some c := ⟨_, List.getElem?_eq_getElem hlt⟩
      have hwn := wrun_next hcc
      rw [HW.out] at hwn
      obtain ⟨hbz, hb⟩ := bs_get hcc
      have H1 := Lib.hid (q_letter (w := wr) (c := c))
      by_cases h0 : low c = 0
      · have hl0 : ((low c).toNat : Int) = 0 := by rw [h0]; rfl
        rw [hl0] at H1
        by_cases hq : st2 = []
        · have e : wst (st1, st2) c = (st1, []) := by unfold wst; rw [if_pos h0]; simp [hq]
          rw [e] at hwn
          subst hq
          have HWN := Lib.hid hwn
          have M2 := Lib.hid (show OMem w wr [.row 9 1 (.slice oa st1.length oc) st1.length (txVs st1), .row 5 1 (.slice none 0 0) 0 []] from mm.rowZero (i := 1) rfl)
          clear hwn e hcc mm h0 hl0
          go_wp2_with (go_at_call 27; refine (H1.out).mono ?_; rintro e w2 ⟨rfl, rfl⟩; refine Hid.out ?_)
          refine Lib.hid ?_
          go_wp2
          go_roundw
          case rel => exact ⟨k + 1, st1, [], oa, oc, none, 0, by omega, by go_num, rfl, rfl, HWN, M2.out⟩
          case measure => simp [intOf]; omega
        · have e : wst (st1, st2) c = (st1 ++ [st2], []) := by unfold wst; rw [if_pos h0]; simp [hq]
          rw [e] at hwn
          have HWN := Lib.hid hwn
          have hp0 := List.length_pos_iff.2 hq
          obtain ⟨ga, gc, e1⟩ := own_some (mm.rowAt (i := 1) rfl) hp0
          cases e1
          have hcv := conv_str (ByAt.of_own (mm.rowAt (i := 1) rfl)) hp0
          obtain ⟨ya, yc, w7, r7, m7⟩ := mm.pushT (i := 0) rfl st2 (by omega)
          have R7 := Lib.hid r7
          have hlp : (0 : Int) < (st2.length : Int) := by omega
          clear r7
          have M2 := Lib.hid (show OMem w w7 [.row 9 1 (.slice ya (st1 ++ [st2]).length yc) (st1 ++ [st2]).length (txVs (st1 ++ [st2])), .row 5 1 (.slice none 0 0) 0 []] by
            have := m7.rowZero (i := 1) rfl
            rw [List.length_append]; exact this)
          have HL2 := Lib.hid (show st1.length + 1 = (st1 ++ [st2]).length by simp)
          clear hwn e hcc mm h0 hl0 m7
          go_wp2_with (go_at_call 27; refine (H1.out).mono ?_; rintro e w2 ⟨rfl, rfl⟩; refine Hid.out ?_)
          refine Lib.hid ?_
          go_wp2_with (at_builtin; refine Hid.out ?_)
          refine Lib.hid ?_
          go_wp2_with (at_builtin; refine Hid.out ?_)
          refine Lib.hid ?_
          refine Lib.wpList_append_run _ rfl _ _ _ _ rfl _ _ rfl rfl _ _ R7.out ?_
          go_wp2
          go_roundw
          case rel => exact ⟨k + 1, st1 ++ [st2], [], ya, yc, none, 0, by omega, by go_num, by rw [HL2.out], rfl, HWN, M2.out⟩
          case measure => simp [intOf]; omega
      · have hl0 : (((low c).toNat : Int) != 0) = true := by
          simp only [bne_iff_ne]
          intro q
          exact h0 (byte_eq (by rw [show (0 : UInt8).toNat = 0 from rfl]; omega))
        have e : wst (st1, st2) c = (st1, st2 ++ [low c]) := by unfold wst; rw [if_neg h0]
        rw [e] at hwn
        have HWN := Lib.hid hwn
        obtain ⟨ya, yc, w7, r7, m7⟩ := mm.pushB (i := 1) rfl (low c) (by omega)
        have R7 := Lib.hid r7
        have M2 := Lib.hid (show OMem w w7 [.row 9 1 (.slice oa st1.length oc) st1.length (txVs st1), .row 5 1 (.slice ya (st2 ++ [low c]).length yc) (st2 ++ [low c]).length (byVs (st2 ++ [low c]))] by
          rw [List.length_append]; exact m7)
        have HL2 := Lib.hid (show st2.length + 1 = (st2 ++ [low c]).length by simp)
        clear hwn e hcc mm h0 m7 r7
        go_wp2_with (go_at_call 27; refine (H1.out).mono ?_; rintro e w2 ⟨rfl, rfl⟩; refine Hid.out ?_)
        refine Lib.hid ?_
        go_wp2_with (at_builtin; refine Hid.out ?_)
        refine Lib.hid ?_
        refine Lib.wpList_append_run _ rfl _ _ _ _ rfl _ _ rfl rfl _ _ R7.out ?_
        go_wp2
        go_roundw
        case rel => exact ⟨k + 1, st1, st2 ++ [low c], oa, oc, ya, yc, by omega, by go_num, rfl, by rw [HL2.out], HWN, M2.out⟩
        case measure => simp [intOf]; omega
    · obtain rfl : k = s.length := by omega
      have hwf := wrun_all s
      rw [HW.out] at hwf
      by_cases hq : st2 = []
      · subst hq
        have HR := Lib.hid (show TxAt wr (.slice oa st1.length oc) (words s) by
          rw [← hwf]; exact TxAt.of_own (mm.rowAt (i := 0) rfl))
        have HB := Lib.hid mm.below
        clear mm hwf
        go_wp2
        go_ret
        exact ⟨_, rfl, HR.out, HB.out⟩
      · have e : wfin (st1, st2) = st1 ++ [st2] := by unfold wfin; simp [hq]
        rw [e] at hwf
        have hp0 := List.length_pos_iff.2 hq
        obtain ⟨ga, gc, e1⟩ := own_some (mm.rowAt (i := 1) rfl) hp0
        cases e1
        have hcv := conv_str (ByAt.of_own (mm.rowAt (i := 1) rfl)) hp0
        obtain ⟨ya, yc, w7, r7, m7⟩ := mm.pushT (i := 0) rfl st2 (by omega)
        have R7 := Lib.hid r7
        have hlp : (0 : Int) < (st2.length : Int) := by omega
        clear r7
        have HR := Lib.hid (show TxAt w7 (.slice ya (st1.length + 1) yc) (words s) by
          rw [← hwf]; exact TxAt.of_own (m7.rowAt (i := 0) rfl))
        have HB := Lib.hid m7.below
        clear mm hwf e m7
        go_wp2_with (at_builtin; refine Hid.out ?_)
        refine Lib.hid ?_
        go_wp2_with (at_builtin; refine Hid.out ?_)
        refine Lib.hid ?_
        refine Lib.wpList_append_run _ rfl _ _ _ _ rfl _ _ rfl rfl _ _ R7.out ?_
        go_wp2
        go_ret
        exact ⟨_, rfl, HR.out, HB.out⟩
end
end Go.Proofs.YtbjligjmckilcaaDoor
