/- The reference of layer 11: Text. -/
import Derived.Test.YtenbdnkipkfpkaaDoorLq4
namespace Go.Proofs.YtenbdnkipkfpkaaDoor
open Go.RowKit Go.Maps Go.ChangeMaps Go.MapKept
open Lx
attribute [local go_sem ↓] Go.wp_at_zero Go.wp_at_succ
def wds (l : List Tk) (k : Nat) : List S := ((l.take k).filter fun t => t.kind != 3).map (·.text)
theorem wds_next {l : List Tk} {k : Nat} {t : Tk} (h : l[k]? = some t) : wds l (k + 1) = wds l k ++ (if t.kind = 3 then [] else [t.text]) := by
  unfold wds
  rw [List.take_add_one, h, List.filter_append, List.map_append]
  congr 1
  show (List.filter (fun t => t.kind != 3) [t]).map _ = _
  by_cases e : t.kind = 3
  · rw [if_pos e, List.filter_cons_of_neg (by simp [e])]; rfl
  · rw [if_neg e, List.filter_cons_of_pos (by simpa using e)]; rfl
theorem wds_all (l : List Tk) : glue (wds l l.length) = textOf l := by unfold wds textOf; rw [List.take_length]
theorem glue_snoc : ∀ (l : List S) (w : S), glue (l ++ [w]) = if l = [] then w else glue l ++ 32 :: w
  | [], w => rfl
  | [v], w => by simp [glue]
  | v :: u :: l, w => by
    have ih := glue_snoc (u :: l) w
    rw [if_neg (by simp)] at ih ⊢
    rw [List.cons_append, glue_cons (l := u :: l ++ [w]) (by simp), ih, show glue (v :: u :: l) = v ++ 32 :: glue (u :: l) from rfl, List.append_assoc]; rfl
theorem glue_mono (l : List Tk) : ∀ k, (glue (wds l k)).length ≤ (glue (wds l (k + 1))).length := by
  intro k
  cases h : l[k]? with
  | none =>
    have e : wds l (k + 1) = wds l k := by
      unfold wds
      rw [List.take_add_one, h]; simp
    rw [e]; exact Nat.le_refl _
  | some t =>
    rw [wds_next h]
    split
    · simp
    · rw [glue_snoc]
      split
      · rename_i e; rw [e]; simp [glue]
      · simp
theorem glue_le (l : List Tk) {k : Nat} (hk : k ≤ l.length) : (glue (wds l k)).length ≤ (textOf l).length := by
  rw [← wds_all]
  have key : ∀ d, (glue (wds l k)).length ≤ (glue (wds l (k + d))).length := by
    intro d
    induction d with
    | zero => exact Nat.le_refl _
    | succ d ih => exact Nat.le_trans ih (glue_mono l (k + d))
  have := key (l.length - k)
  rwa [show k + (l.length - k) = l.length by omega] at this
section
variable {w : World}
set_option maxHeartbeats 4000000 in
set_option maxRecDepth 100000 in
theorem q_text {v : Value} {l : List Tk} (hv : TkAt w v l) (hl : (textOf l).length ≤ 1000000) (hll : l.length ≤ 100000) :
    Calls Tryd.prog 19 #[v] w fun e w' => e = .returned (.string (bs (textOf l))) ∧ w = w' := by
  have HV := Lib.hid hv
  have HL := Lib.hid hl
  obtain ⟨a, cap, rfl, -⟩ := hv
  clear hl
  go_enter Tryd.func19, Tryd.ntmps19
  go_wp2
  go_loopw [3, 4, 5] (fun o f i wr => ∃ k : Nat, k ≤ l.length ∧ i = .int .i64 k ∧ o = .string (bs (glue (wds l k))) ∧ f = .bool (decide (wds l k = [])) ∧ w = wr) (fun _ _ i _ => l.length - (intOf i).toNat)
  case atStart => exact ⟨0, Nat.zero_le _, rfl, rfl, rfl, rfl⟩
  case round =>
    obtain ⟨k, hk, rfl, rfl, rfl, rfl⟩ := hrel
    by_cases hlt : k < l.length
    · obtain ⟨t, ht⟩ : ∃ t, l[k]? = some t := ⟨_, List.getElem?_eq_getElem hlt⟩
      obtain ⟨b1, off1, cap1, h1, _, hc⟩ := HV.out.form (by omega)
      cases h1
      obtain ⟨c0, c1, -, -⟩ := hc k t ht
      have hn := wds_next ht
      have g1 := glue_le l hk
      have g2 := glue_le l (show k + 1 ≤ l.length by omega)
      have g3 := HL.out
      clear hc ht
      by_cases h3 : t.kind = 3
      · rw [if_pos h3, List.append_nil] at hn
        have HN := Lib.hid hn
        rw [h3] at c0
        clear hn h3
        go_wp2
        go_roundw
        case rel => exact ⟨k + 1, by omega, by go_num, by rw [HN.out], by rw [HN.out], by trivial⟩
        case measure => simp [intOf]; omega
      · rw [if_neg h3] at hn
        have hk3 : (t.kind == 3) = false := beq_eq_false_iff_ne.2 h3
        obtain ⟨W, hW⟩ : ∃ W, wds l k = W := ⟨_, rfl⟩
        rw [hW] at hn g1 ⊢
        have hg := glue_snoc W t.text
        rw [← hn] at hg
        obtain ⟨G2, hG2⟩ : ∃ G2, glue (wds l (k + 1)) = G2 := ⟨_, rfl⟩
        rw [hG2] at hg g2
        have HG2 := Lib.hid hG2
        have hne : wds l (k + 1) ≠ [] := by rw [hn]; simp
        have HNE := Lib.hid hne
        clear h3 hG2 hne hn
        by_cases hw : W = []
        · subst hw
          rw [if_pos rfl] at hg
          have hd : decide (([] : List S) = []) = true := by decide
          have e1 : bs (glue []) ++ bs t.text = bs G2 := by rw [hg]; exact bs_append [] t.text
          have z1 : (bs (glue [])).size = 0 := bs_size []
          have z2 : (bs t.text).size = G2.length := by rw [bs_size, hg]
          clear hg hW
          rw [hd]
          go_wp2
          go_roundw
          case rel => exact ⟨k + 1, by omega, by go_num, by rw [HG2.out], by rw [decide_eq_false HNE.out], by trivial⟩
          case measure => simp [intOf]; omega
        · rw [if_neg hw] at hg
          have hd : decide (W = []) = false := decide_eq_false hw
          rw [hd]
          obtain ⟨G, hG⟩ : ∃ G, glue W = G := ⟨_, rfl⟩
          rw [hG] at hg g1 ⊢
          have e1 : bs G ++ (⟨#[32]⟩ : ByteArray) = bs (G ++ [32]) := bs_append G [32]
          have e2 : bs (G ++ [32]) ++ bs t.text = bs G2 := by rw [hg, show G ++ 32 :: t.text = G ++ [32] ++ t.text by simp]; exact bs_append _ _
          have hlen : G2.length = G.length + 1 + t.text.length := by rw [hg]; simp; omega
          have z1 := bs_size G
          have z2 := bs_size t.text
          have z3 : (bs (G ++ [32])).size = G.length + 1 := by rw [bs_size]; simp
          clear hg hG hW hw hd
          generalize G ++ [32] = G1 at *
          go_wp2
          go_roundw
          case rel => exact ⟨k + 1, by omega, by go_num, by rw [HG2.out], by rw [decide_eq_false HNE.out], by trivial⟩
          case measure => simp [intOf]; omega
    · obtain rfl : k = l.length := by omega
      have HR := Lib.hid (wds_all l)
      go_wp2
      go_ret
      exact ⟨ret_string (by rw [HR.out]), rfl⟩
end
end Go.Proofs.YtenbdnkipkfpkaaDoor
