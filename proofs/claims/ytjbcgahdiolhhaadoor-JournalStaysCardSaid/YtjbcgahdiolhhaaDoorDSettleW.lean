/- settle: the walk. -/
import Derived.Test.YtjbcgahdiolhhaaDoorDSettle
namespace Go.Proofs.YtjbcgahdiolhhaaDoor.D2
open Go.RowKit Go.Maps Go.ChangeMaps Go.MapKept
open Dp
attribute [local go_sem ↓] Go.wp_at_zero Go.wp_at_succ

theorem MapIs.drop' {P : Program} {w : World} {k : TypeId} {b c : Nat} {m : Lit → Option Value} {t e : TypeId} (h : MapIs P w k b c m) (K : Keyed P k) (ht : P.underlying t = some (.map k e)) {key v : Value} {kl : Lit} (hkey : keyOf P k key = some kl) (hold : m kl = some v) :
    ∃ w', (∀ ty, (Builtin.delete_ #[t, k] ty #[.map (some b), key]).run P w = .ok (.tuple #[]) w') ∧ MapIs P w' k b (c - 1) (fun x => open Classical in if x = kl then none else m x) ∧ w.grownBy w' (some b) := by
  obtain ⟨w', hr, h1, h2⟩ := h.drop K ht hkey hold 0
  exact ⟨w', fun _ => hr, h1, h2⟩

theorem settle_eq (D : Dk) (f : Nat) : D.settle f = { hardens D (keepsF f D.pend) with pend := dropsF f D.pend } := rfl

def SettleInv (lab : Nat → Nat) (id b : Nat) (D : Dk) (L : Loc) (f : Nat) (w : World) (k : Nat) (v : Value) (wr : World) : Prop :=
  ∃ lab' dv, DiskIn wr lab' id b (hardens D (keepsF f (D.pend.take k))) (marksAt f D.pend k) { L with dv := dv } ∧ Chg id lab lab' w wr ∧ wr.ownsRow 0 78 2 v (dropsF f (D.pend.take k)).length (secVs (dropsF f (D.pend.take k))) ∧ ∀ j, v.ownBlock = some j → lab' j = 0 ∧ w.heap.size ≤ j

section
variable {w : World} {lab : Nat → Nat} {id b : Nat} {D : Dk} {L : Loc}
theorem chg_below {lab' : Nat → Nat} {wr w' : World} {mk : List (Nat × Nat)} {D' : Dk} {L' : Loc} (k : Chg id lab lab' w wr) (h : DiskIn wr lab' id b D' mk L') (hb : Below wr.heap.size wr w') : Chg id lab lab' w w' :=
  k.trans ⟨hb.os, hb.tape, hb.output, hb.size, fun _ _ => rfl, fun x hx _ => hb.block x hx, fun x hx => .inl (h.lo x hx)⟩
theorem SettleInv.fresh {f k : Nat} {v : Value} {wr w' : World} (h : SettleInv lab id b D L f w k v wr) (hb : Below wr.heap.size wr w') : SettleInv lab id b D L f w k v w' := by
  obtain ⟨lab', dv, h1, h2, h3, h4⟩ := h
  exact ⟨lab', dv, h1.fresh hb, chg_below h2 h1 hb, ownsRow_block h3 fun j hj => hb.block j (h3.lt j hj).2, h4⟩

theorem chg_row {lab' : Nat → Nat} {wr w1 : World} {row : Option Nat} (h : Chg id lab lab' w wr) (g : wr.grownBy w1 row) (hr : ∀ j, row = some j → w.heap.size ≤ j) : Chg id lab lab' w w1 :=
  ⟨g.os.trans h.os, g.tape.trans h.tape, g.output.trans h.output, Nat.le_trans h.size g.size, h.labs, fun x hx hl => (g.block x (Nat.lt_of_lt_of_le hx h.size) (fun e => by have := hr x e.symm; omega)).trans (h.block x hx hl), h.fresh⟩
theorem DiskIn.row {wr w1 : World} {mk : List (Nat × Nat)} {row : Option Nat} (h : DiskIn wr lab id b D mk L) (g : wr.grownBy w1 row) (hr : ∀ j, row = some j → lab j = 0) : DiskIn w1 lab id b D mk L :=
  h.kept (fun x hx => h.lo x (Nat.le_trans g.size hx)) (fun _ _ => rfl) fun x hx h1 _ => g.block x hx (fun e => by have := hr x e.symm; have := h.id64; omega)
theorem secVs_snoc (l : List (Nat × Nat)) (p : Nat × Nat) : secVs (l ++ [p]) = secVs l ++ [.int .i64 (p.1 : Int), .int .i64 (p.2 : Int)] := by simp [secVs]

set_option maxHeartbeats 4000000 in
set_option maxRecDepth 100000 in
theorem settle_any (h : DiskIn w lab id b D D.pend L) (hin : D.In) (f : Nat) (hf : f < 16) :
    Calls Tryd.prog 50 #[.pointer (some ⟨b, 0, none⟩), .int .i64 (f : Int)] w (DiskPost lab id b (D.settle f) w) := by
  obtain ⟨i0, hi, hz0, hz1, hz2⟩ := info_parts sec_info
  have c1 := h.c 1
  simp only [List.getElem?_toArray, List.getElem?_cons_zero, List.getElem?_cons_succ] at c1
  obtain ⟨pa, pc, hpv⟩ := own_form h.pend
  rw [hpv] at c1
  have H := Lib.hid h
  have HP := Lib.hid hpv
  have HI := Lib.hid hin
  have HC0 := Lib.hid (Chg.refl (id := id) h.lo)
  have hn : D.pend.length ≤ 4194304 := pend_len h.ok
  clear h hpv hin
  go_enter Tryd.func50, Tryd.ntmps50
  go_wp2
  go_loopw [4, 12] (fun v i wr => ∃ k : Nat, k ≤ D.pend.length ∧ i = .int .i64 (k : Int) ∧ SettleInv lab id b D L f w k v wr) (fun _ i _ => D.pend.length - (intOf i).toNat)
  case atStart => exact ⟨0, Nat.zero_le _, rfl, lab, L.dv, H.out, HC0.out, World.ownsRow_nil _ _ _ _, fun j hj => by cases hj⟩
  case round =>
    obtain ⟨k, hkl, rfl, hinv⟩ := hrel
    have HINV := Lib.hid hinv
    clear hinv
    by_cases hlt : k < D.pend.length
    · obtain ⟨p, hp⟩ : ∃ p, D.pend[k]? = some p := ⟨_, List.getElem?_eq_getElem hlt⟩
      obtain ⟨lab1, dv1, h1, k1, o1, l1⟩ := HINV.out
      obtain ⟨pg, cap, hpv2, s0, s1⟩ := sec_cell (k := k) (p := p) h1 (by rw [(hardens_keeps _ D).2.1]; exact hp)
      rw [(hardens_keeps _ D).2.1] at hpv2
      have hpv3 := HP.out.symm.trans hpv2
      simp only [Value.slice.injEq, true_and] at hpv3
      obtain ⟨rfl, rfl⟩ := hpv3
      have HPP := Lib.hid hp
      have hbA := below_alloc wr (.cells #[.int .i64 (p.1 : Int), .int .i64 (p.2 : Int)] 78)
      have h2 := h1.fresh hbA
      have k2 := chg_below k1 h1 hbA
      have o2 := ownsRow_block o1 fun j hj => hbA.block j (o1.lt j hj).2
      have l2 := l1
      clear hbA
      have a0 : (wr.alloc (.cells #[.int .i64 (p.1 : Int), .int .i64 (p.2 : Int)] 78)).cell? ⟨wr.heap.size, 0, none⟩ = some (.int .i64 (p.1 : Int)) := by simp
      have a1 : (wr.alloc (.cells #[.int .i64 (p.1 : Int), .int .i64 (p.2 : Int)] 78)).cell? ⟨wr.heap.size, 1, none⟩ = some (.int .i64 (p.2 : Int)) := by simp
      obtain ⟨oa, oc, hov⟩ := own_form o1
      have hb1 := (h1.ok.few p (by rw [(hardens_keeps _ D).2.1]; exact List.mem_of_getElem? hp))
      have hll : (dropsF f (D.pend.take k)).length ≤ 4194304 := by
        have h5 := List.length_filter_le (fun p => decide (p.1 ≠ f)) (D.pend.take k)
        have h6 : (dropsF f (D.pend.take k)).length ≤ (D.pend.take k).length := h5
        have h7 := List.length_take_le k D.pend
        omega
      by_cases hpf : p.1 = f
      · subst hpf
        have hne : ((p.1 : Int) == (p.1 : Int)) = true := by simp
        have hne2 : ((p.1 : Int) != (p.1 : Int)) = false := by simp
        have hpn := HI.out p (List.mem_of_getElem? hp)
        have HPN := Lib.hid hpn
        have c0 := h2.c 0
        simp only [List.getElem?_toArray, List.getElem?_cons_zero] at c0
        have hl5 := h2.drew.lookN hf
        simp only at c0 hl5
        have hrl : wr.heap.size < (wr.alloc (.cells #[.int .i64 (p.1 : Int), .int .i64 (p.2 : Int)] 78)).heap.size := by simp
        have hlr := h1.lo wr.heap.size (Nat.le_refl _)
        have O2 := Lib.hid o2
        have L2 := Lib.hid l2
        have H2 := Lib.hid h2.drew
        have K2 := Lib.hid k2
        have LR := Lib.hid hlr
        clear h1 k1 o1 l1 hpv2 hp c1 h2 k2 o2 l2 hpn
        subst hov
        go_wp2
        generalize wr.alloc (.cells #[.int .i64 (p.1 : Int), .int .i64 (p.2 : Int)] 78) = wa at H2 K2 O2 L2 a0 a1 c0 hl5 hrl ⊢
        go_region_with (first | (go_at_call 41; refine (harden_any H2.out hf (by rw [(hardens_keeps _ D).1]; exact HPN.out)).mono ?_; rintro e w3 ⟨rfl, lab3, dv3, h3, k3⟩; have H3 := Lib.hid h3; have K3 := Lib.hid k3; clear h3 k3))
        all_goals
          have b0 : w3.cell? ⟨wr.heap.size, 0, none⟩ = some (.int .i64 (p.1 : Int)) := by
            rw [World.cell?_of_block (w := wa) (K3.out.block wr.heap.size hrl (by rw [LR.out]; have := H2.out.id64; omega))]; exact a0
          have b1 : w3.cell? ⟨wr.heap.size, 1, none⟩ = some (.int .i64 (p.2 : Int)) := by
            rw [World.cell?_of_block (w := wa) (K3.out.block wr.heap.size hrl (by rw [LR.out]; have := H2.out.id64; omega))]; exact a1
          have c2 := H3.out.c 2
          simp only [List.getElem?_toArray, List.getElem?_cons_zero, List.getElem?_cons_succ] at c2
          obtain ⟨mlen, mold, mnew⟩ := marks_drop H.out.ok.pend H.out.ok.few HPP.out rfl
          obtain ⟨w4, hdel, m4, g4⟩ := H3.out.drew.marks.drop' lawS Tryd.underlying61 (keyS (p := p) (by omega) (by omega)) mold
          have HDEL := Lib.hid hdel
          have M4 := Lib.hid (m4.congr mnew mlen)
          have G4 := Lib.hid g4
          clear hdel m4 g4 mlen mold mnew a0 a1 c0 hl5
          go_wp2
          go_region_law (first | (refine step_delete_run (by rfl) _ _ _ _ (by rfl) _ _ (by rfl) (by rfl) _ (HDEL.out _) ?_))
          all_goals
            have HIN5 := Lib.hid (show SettleInv lab id b D L p.1 w (k + 1) (.slice oa (dropsF p.1 (D.pend.take k)).length oc) w4 from by
              obtain ⟨h5, k5⟩ := H3.out.drew.setMarks G4.out (Hp.refl _) M4.out
              refine ⟨lab3, dv3, by rw [keepsF_take HPP.out, if_pos rfl, hardens_snoc]; exact h5, (K2.out.trans K3.out.of_drew).trans k5.of_drew, ?_, fun j hj => ?_⟩
              · rw [dropsF_take HPP.out, if_pos rfl, List.append_nil]
                refine ownsRow_block O2.out fun j hj => ?_
                have h7 := (L2.out j hj).1
                have h8 := (O2.out.lt j hj).2
                have h9 := H2.out.id64
                rw [(K3.out.of_drew.trans k5.of_drew).block j h8 (by omega)]
              · have h7 := L2.out j hj
                have h8 := (O2.out.lt j hj).2
                exact ⟨(K3.out.labs j h8).trans h7.1, h7.2⟩)
            clear H3 K3 M4 G4 HDEL b0 b1 c2
            go_wp2
            go_roundw
            case rel => exact ⟨k + 1, by omega, by go_num, HIN5.out⟩
            case measure => simp [intOf]; omega
      · have HPF := Lib.hid hpf
        have hne : ((p.1 : Int) == (f : Int)) = false := by simp; omega
        have hne2 : ((p.1 : Int) != (f : Int)) = true := by simp; omega
        have O2 := Lib.hid o2
        have L2 := Lib.hid l2
        have H2 := Lib.hid h2
        have K2 := Lib.hid k2
        clear h1 k1 o1 l1 hpv2 hp c1 h2 k2 o2 l2 hpf
        subst hov
        go_wp2_with (at_builtin; refine wpList_append_own_at _ rfl _ _ 62 rfl 0 78 i0 (.agg #[.int .i64 0, .int .i64 0]) 2 16 Tryd.underlying62 hi hz0 hz1 hz2 rfl (by decide) _ _ _ rfl (O2.out.alloc _) ⟨wr.heap.size + 1, 0, none⟩ 1 1 [.int .i64 (p.1 : Int), .int .i64 (p.2 : Int)] rfl rfl ?c1 ?c2 ?c3 ?c4 (Nat.zero_le _) ?_)
        case c1 =>
          intro j y hj
          rw [Lib.add_plain]
          match j, hj with
          | 0, hj => simp at hj; subst hj; simp
          | 1, hj => simp at hj; subst hj; simp
        case c2 => intro y hy; simp at hy; rcases hy with rfl | rfl <;> rfl
        case c3 => unfold maxLen; omega
        case c4 => omega
        intro v' w4 hown3 hgrow _ hat
        have HIN4 := Lib.hid (show SettleInv lab id b D L f w (k + 1) v' w4 from by
          have hb := below_alloc (wr.alloc (.cells #[.int .i64 (p.1 : Int), .int .i64 (p.2 : Int)] 78)) (.cells #[.int .i64 (p.1 : Int), .int .i64 (p.2 : Int)] 78)
          have h5 := (H2.out.fresh hb).row hgrow (fun j hj => (L2.out j hj).1)
          have k5 := chg_row (chg_below K2.out H2.out hb) hgrow (fun j hj => (L2.out j hj).2)
          refine ⟨lab1, dv1, ?_, k5, ?_, fun j hj => ?_⟩
          · rw [keepsF_take HPP.out, if_neg HPF.out, List.append_nil, marks_skip HPP.out HPF.out]; exact h5
          · rw [dropsF_take HPP.out, if_neg HPF.out, secVs_snoc, List.length_append]; exact hown3
          · rcases hat with h6 | h6
            · exact L2.out j (h6.symm.trans hj)
            · have h7 := h6.symm.trans hj
              simp only [Option.some.injEq] at h7
              have h8 := K2.out.size
              simp only [World.size_alloc] at h8
              exact ⟨H2.out.lo j (by simp; omega), by omega⟩)
        clear hown3 hgrow hat O2 L2 H2 K2
        go_wp2
        go_roundw
        case rel => exact ⟨k + 1, by omega, by go_num, HIN4.out⟩
        case measure => simp [intOf]; omega
    · have hkk : k = D.pend.length := by omega
      have hinv := HINV.out
      unfold SettleInv at hinv
      rw [hkk, List.take_of_length_le (Nat.le_refl _)] at hinv
      have hmk : marksAt f D.pend D.pend.length = dropsF f D.pend := by simp [marksAt]
      rw [hmk] at hinv
      obtain ⟨lab1, dv1, h1, k1, o1, l1⟩ := hinv
      obtain ⟨oa, oc, hov⟩ := own_form o1
      have hz := fun j hj => And.intro (l1 j hj).1 (o1.lt j hj).2
      have h2 := h1.claim (c := id + 3) hz
      have k2 := k1.claim (c := id + 3) (by omega) (fun j hj => (l1 j hj).2)
      have hsub : ∀ q ∈ dropsF f D.pend, q ∈ D.pend := fun q hq => (List.mem_filter.1 hq).1
      obtain ⟨h3, k3⟩ := h2.setPend2 (ps := dropsF f D.pend) (H.out.ok.pend.filter _) (fun q hq => H.out.ok.few q (hsub q hq)) o1 (fun j hj => by unfold claimL; rw [if_pos hj]) (Hp.refl _)
      have c1' := h2.c 1
      have f1' := h2.fz 1
      simp only [List.getElem?_toArray, List.getElem?_cons_zero, List.getElem?_cons_succ] at c1'
      have H3 := Lib.hid h3
      have K3 := Lib.hid (k2.trans k3)
      clear h1 k1 o1 l1 hz h2 k2 h3 k3 hmk hkk c1 HINV
      subst hov
      go_wp2
      go_end0
      exact ⟨rfl, _, _, H3.out, K3.out⟩
end
end Go.Proofs.YtjbcgahdiolhhaaDoor.D2
