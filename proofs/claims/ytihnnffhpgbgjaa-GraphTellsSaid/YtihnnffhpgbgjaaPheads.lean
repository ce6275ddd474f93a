/- Heads. -/
import Derived.Test.YtihnnffhpgbgjaaPdown
namespace Go.Proofs.Ytihnnffhpgbgjaa
open Go.RowKit Go.Maps Go.ChangeMaps Go.MapKept
open Gp
attribute [local go_sem ↓] Go.wp_at_zero Go.wp_at_succ

/-- The value of a node, of its parts. -/
def nv (y : Option Addr × Nat × Nat × Int) : Value := .agg #[.slice y.1 y.2.1 y.2.2.1, .int .i64 y.2.2.2]
section
variable {w : World} {b mb : Nat} {G : List Nd} {pv : Int → Value} {S : Nat → Prop}
theorem GIn.some (h : GIn w b mb G pv S) {kl : Lit} {v : Value} (hm : onInt (gm G pv) kl = some v) : ∃ x a c, kl = .int .i64 x ∧ x ∈ ids G ∧ v = nv (a, (par G x).length, c, lev G x) ∧ pv x = .slice a (par G x).length c ∧ NumsAt w (.slice a (par G x).length c) (par G x) := by
  unfold onInt at hm
  split at hm
  · rename_i x
    unfold gm at hm
    split at hm
    · rename_i hx
      obtain ⟨n, hn, rfl⟩ := mem_ids.1 hx
      obtain ⟨a, c, hv, hl⟩ := (h.rows n hn).1
      cases hm
      rw [← par_of h.ok.asc hn] at hv hl
      exact ⟨n.1, a, c, rfl, hx, by rw [hv]; rfl, hv, a, c, rfl, hl⟩
    · cases hm
  · cases hm
/-- What is no parent of a node that came up. -/
def NoPar (G : List Nd) (left : Lit → Bool) (x : Int) : Prop := x ∈ ids G ∧ ∀ y, left (.int .i64 y) = false → x ∉ par G y
theorem noPar_step {G : List Nd} {left : Lit → Bool} {z x : Int} : NoPar G (fun k => left k && !k.sameKey (.int .i64 z)) x ↔ NoPar G left x ∧ x ∉ par G z := by
  unfold NoPar
  constructor
  · rintro ⟨h1, h2⟩
    refine ⟨⟨h1, fun y hy => h2 y (by simp [hy])⟩, h2 z (by
      rw [Bool.and_eq_false_iff]; right; simp [Lit.sameKey])⟩
  · rintro ⟨⟨h1, h2⟩, h3⟩
    refine ⟨h1, fun y hy => ?_⟩
    rcases Bool.and_eq_false_iff.1 hy with q | q
    · exact h2 y q
    · have : y = z := by
        have := WideAt.sameKey_eq (by simpa using q : Lit.sameKey (.int .i64 y) (.int .i64 z) = true)
        cases this; rfl
      rw [this]; exact h3
theorem noPar_end {G : List Nd} {left : Lit → Bool} (ok : Ok G) (hl : ∀ k, left k = false) (x : Int) : x ∈ heads G ↔ NoPar G left x := by
  rw [mem_heads ok]
  unfold NoPar
  refine and_congr_right fun hx => ⟨fun h y _ q => h y (.par q), fun h y q => ?_⟩
  induction q with
  | par hp => exact h _ (hl _) hp
  | step _ _ ih => exact ih
set_option maxHeartbeats 4000000 in
set_option maxRecDepth 100000 in
theorem heads_in (h : GIn w b mb G pv S) (hG : G.length ≤ 100) :
    Calls Try.prog 22 #[.pointer (some ⟨b, 0, none⟩)] w fun e w' => ∃ v, e = .returned v ∧ NumsAt w' v (heads G) ∧ Below w.heap.size w w' := by
  have HG := Lib.hid h
  have c0 := h.c0
  obtain ⟨es, clock, hes⟩ := h.map.entries
  have HC := Lib.hid (AnyW.maps_Clone Try.lcloneM mb es clock w hes)
  have HC : Hid (Calls Try.prog 44 _ _ _) := HC
  have M1 := Lib.hid (h.map.copy hes)
  have hb1 := (Below.refl w.heap.size w).alloc (Nat.le_refl _) (.map es clock)
  have B1 := Lib.hid hb1
  have hd1 := below_cell c0 hb1
  have HF := Lib.hid (h.map.is.block (hb1.block _ h.map.lt))
  have hmb := h.map.lt
  clear h hes hb1
  go_enter Try.func22, Try.ntmps22
  go_wp2_with (go_at_call 44; refine (HC.out).mono ?_; rintro e w2 ⟨rfl, rfl⟩; refine Hid.out ?_)
  refine Lib.hid ?_
  go_wp2_with (first | (at_range; refine wpList_range_is rfl _ 52 rfl _ kI Try.underlying52 rfl HF.out ?_; intro w0 hrg0 hg0 hs0) | go_in)
  try go_frame
  simp only [World.size_alloc] at hrg0 hs0 ⊢
  have B0 := Lib.hid (below_grown B1.out hg0 (fun x hx => by cases hx))
  have M0 := Lib.hid (M1.out.block (hg0.block _ M1.out.lt (by simp)))
  have R0 := Lib.hid hrg0
  clear hrg0 hg0 M1 B1 HC HF hd1
  go_loopw [5] (fun _ wr => ∃ (left : Lit → Bool) (cnt c : Nat) (m : Int → Option Value), Hid (RangeIs Try.prog wr 3 mb (w.heap.size + 1) G.length (onInt (gm G pv)) left cnt) ∧ Hid (∀ kl, left kl = true → (onInt (gm G pv) kl).isSome = true) ∧
    Hid (IMap wr w.heap.size c m) ∧ c ≤ 100 ∧ Hid (∀ x, (m x).isSome = true ↔ NoPar G left x) ∧ Hid (Below w.heap.size w wr)) (fun _ wr => wr.rangeLeft mb (w.heap.size + 1))
  case atStart =>
    refine ⟨_, _, _, _, R0, Lib.hid fun _ h => h, M0, hG, Lib.hid fun x => ?_, B0⟩
    unfold NoPar
    show (gm G pv x).isSome = true ↔ _ ∧ ∀ y, (gm G pv y).isSome = false → _
    have hgm : ∀ y, (gm G pv y).isSome = true ↔ y ∈ ids G := fun y => by
      unfold gm; by_cases q : y ∈ ids G <;> simp [q]
    rw [hgm]
    refine ⟨fun hx => ⟨hx, fun y hy => ?_⟩, fun q => q.1⟩
    rw [par_no (fun q => by rw [(hgm y).2 q] at hy; cases hy)]
    simp
  case round =>
    obtain ⟨left, cnt, c, m, HRG, HLM, HM, hc, HN, HB⟩ := hrel
    have hltm := HM.out.lt
    go_wp2_with (first | (at_next; refine wpList_next_is rfl _ rfl kI (Value.int .i64) nv (fun key kl hk => by obtain ⟨x, hx, _⟩ := Maps.keyOf_i64 Try.underlying3 hk; exact ⟨x, hx⟩) (w.heap.size + 1) cnt left rfl HRG.out (fun kl v hv _ => by obtain ⟨x, a, c, _, _, q, _⟩ := HG.out.some hv; exact ⟨_, q⟩) HLM.out ?_ ?_) | go_in)
    · intro _ hl0
      have HA := Lib.hid (asc_node HM.out (by omega) (heads_asc HG.out.ok) fun x => (noPar_end HG.out.ok hl0 x).trans (HN.out x).symm)
      clear hl0
      go_wp2_with (go_at_call 45; refine (HA.out).mono ?_; rintro e w3 ⟨v3, rfl, h3, b3⟩; refine Hid.out ?_)
      refine Lib.hid ?_
      have O3 := Lib.hid h3
      have B3 := Lib.hid (HB.out.trans (b3.mono HB.out.size))
      clear h3 b3 HA
      go_wp2
      go_ret
      exact ⟨v3, rfl, O3.out, B3.out⟩
    · intro x a nl pc lv kl w1 cnt1 hkey hlk hmk hrg1 hlt1 hg1 hs1 hen
      obtain ⟨x1, a1, pc1, rfl, hx, hy, _, hnums⟩ := HG.out.some hmk
      obtain ⟨x2, hz', hkl, _⟩ := Maps.keyOf_i64 Try.underlying3 hkey
      cases hkl
      cases hz'
      simp only [nv, Value.agg.injEq, Array.mk.injEq, List.cons.injEq, Value.slice.injEq, Value.int.injEq, and_true, true_and] at hy
      obtain ⟨⟨rfl, rfl, rfl⟩, rfl⟩ := hy
      have hB1 := below_grown HB.out hg1 (fun q hq => by have := Option.some.inj hq; omega)
      have hltm1 := HM.out.lt
      have HM1 := Lib.hid (HM.out.block (hg1.block _ HM.out.lt (fun q => by have := Option.some.inj q; omega)))
      have HR1 := Lib.hid hrg1
      have hbA := (Below.refl w1.heap.size w1).alloc (Nat.le_refl _) (.cells #[.slice a (par G x).length pc, .int .i64 (lev G x)] 57)
      have HB2 := Lib.hid (hB1.trans (hbA.mono hB1.size))
      have HM2 := Lib.hid (HM1.out.block (hbA.block _ HM1.out.lt))
      have HR2 := Lib.hid (HR1.out.kept (hbA.block _ HR1.out.map.lt) (hbA.block _ HR1.out.lt))
      have HNU := Lib.hid hnums
      have HLE := Lib.hid HR1.out.left_eq
      have HLE0 := Lib.hid HRG.out.left_eq
      have hpl := par_few HG.out.ok x
      have HPA := Lib.hid (show ∀ p ∈ par G x, (Lit.int .i64 p).wf = true from fun p hp => by
        have := HG.out.ok.range (HG.out.ok.lt hp).2.1
        exact wf_of this.1 this.2)
      have hen2 : (Instr.entry (.pointer (some ⟨w.heap.size + 1, 0, none⟩))).run Try.prog w1 = .ok (.tuple #[.int .i64 x, .agg #[.slice a (par G x).length pc, .int .i64 (lev G x)]]) w1 := hen
      have hcA := cells_new w1 #[.slice a (par G x).length pc, .int .i64 (lev G x)] 57 0 _ rfl
      clear hmk hkey hlk hrg1 hg1 hs1 hen hnums hB1 hbA
      go_wp2
      generalize hwa : w1.alloc (.cells #[.slice a (par G x).length pc, .int .i64 (lev G x)] 57) = wa at HB2 HM2 HR2 hcA ⊢
      clear hwa
      go_loopw [25] (fun i wr => ∃ (j c : Nat) (m : Int → Option Value), j ≤ (par G x).length ∧ i = .int .i64 j ∧ Hid (RangeIs Try.prog wr 3 mb (w.heap.size + 1) G.length (onInt (gm G pv)) (fun z => left z && !z.sameKey (.int .i64 x)) cnt1) ∧
        Hid (IMap wr w.heap.size c m) ∧ c ≤ 100 ∧ Hid (∀ y, (m y).isSome = true ↔ NoPar G left y ∧ y ∉ (par G x).take j) ∧ Hid (Below w.heap.size w wr)) (fun i _ => (par G x).length - (RowKit.intOf i).toNat)
      case atStart => exact ⟨0, c, m, Nat.zero_le _, rfl, HR2, HM2, hc, Lib.hid (fun y => by rw [HN.out y]; simp), HB2⟩
      case round =>
        obtain ⟨j, c3, m3, hj, rfl, HR3, HM3, hc3, HN3, HB3⟩ := hrel
        by_cases hlt : j < (par G x).length
        · obtain ⟨p, hp⟩ : ∃ p, (par G x)[j]? = some p := ⟨_, List.getElem?_eq_getElem hlt⟩
          obtain ⟨b1, off1, cap1, e1, _, hcs⟩ := (HNU.out.keep HB3.out).form (by omega)
          cases e1
          have c1 := hcs j p hp
          obtain ⟨w4, c4, hdel, m4, hc4, g4⟩ := HM3.out.drop (t := 52) (e := 57) Try.underlying52 (HPA.out p (List.mem_of_getElem? hp)) 0
          have hltm3 := HM3.out.lt
          have HM4 := Lib.hid m4
          have HB4 := Lib.hid (below_grown HB3.out g4 (fun q hq => by have := Option.some.inj hq; omega))
          have HR4 := Lib.hid (HR3.out.kept (g4.block _ HR3.out.map.lt (fun q => by have := Option.some.inj q; omega)) (g4.block _ HR3.out.lt (fun q => by have := Option.some.inj q; omega)))
          have HN4 := Lib.hid (show ∀ y, ((if y = p then none else m3 y) : Option Value).isSome = true ↔ NoPar G left y ∧ y ∉ (par G x).take (j + 1) from fun y => by
            rw [List.take_add_one, hp]
            by_cases e : y = p
            · subst e; simp
            · rw [if_neg e, HN3.out y]; simp [e])
          clear hcs hp m4 g4
          go_wp2
          go_roundw
          case rel => exact ⟨j + 1, c4, _, by omega, by go_num, HR4, HM4, by omega, HN4, HB4⟩
          case measure => simp [RowKit.intOf]; omega
        · obtain rfl : j = (par G x).length := by omega
          have HN5 := Lib.hid (show ∀ y, (m3 y).isSome = true ↔ NoPar G (fun z => left z && !z.sameKey (.int .i64 x)) y from fun y => by
            rw [HN3.out y, List.take_length, noPar_step])
          go_wp2
          go_roundw
          case rel => exact ⟨_, cnt1, c3, m3, HR3, Lib.hid (fun kl q => HLM.out kl (by rw [Bool.and_eq_true] at q; exact q.1)), HM3, hc3, HN5, HB3⟩
          case measure => rw [HR3.out.left_eq, HLE0.out]; exact hlt1
end
end Go.Proofs.Ytihnnffhpgbgjaa
