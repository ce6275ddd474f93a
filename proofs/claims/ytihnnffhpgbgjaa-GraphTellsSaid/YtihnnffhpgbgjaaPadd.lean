/- Add. -/
import Derived.Test.YtihnnffhpgbgjaaPheads
import Derived.Test.YtihnnffhpgbgjaaPins
import Derived.Test.YtihnnffhpgbgjaaOrd7
namespace Go.Proofs.Ytihnnffhpgbgjaa
open Go.RowKit Go.Maps Go.ChangeMaps Go.MapKept
open Gp
attribute [local go_sem ↓] Go.wp_at_zero Go.wp_at_succ

/-- What a call may do to a graph: write its map, make new blocks. -/
def Turns (w w' : World) (b mb : Nat) (G' : List Nd) (S : Nat → Prop) : Prop := w.grownBy w' (some mb) ∧ ∃ pv' S', GIn w' b mb G' pv' S' ∧ ∀ x, S' x → S x ∨ w.heap.size ≤ x
theorem grown_below {w w1 w' : World} {row : Option Nat} (hb : Below w.heap.size w w1) (hg : w1.grownBy w' row) : w.grownBy w' row :=
  ⟨hg.os.trans hb.os, hg.tape.trans hb.tape, hg.output.trans hb.output, Nat.le_trans hb.size hg.size, fun k hk hr => (hg.block k (Nat.lt_of_lt_of_le hk hb.size) hr).trans (hb.block k hk)⟩
theorem below_grown2 {w w' : World} {row : Option Nat} (hb : Below w.heap.size w w') : w.grownBy w' row := ⟨hb.os, hb.tape, hb.output, hb.size, fun k hk _ => hb.block k hk⟩
section
variable {w : World} {b mb : Nat} {G : List Nd} {pv : Int → Value} {S : Nat → Prop}
theorem GIn.stays {w' : World} (h : GIn w b mb G pv S) (hb : Below w.heap.size w w') : Turns w w' b mb G S := ⟨below_grown2 hb, pv, S, h.keep hb, fun _ q => .inl q⟩
open Classical in
/-- A node more. -/
theorem GIn.ins {w' : World} {n : Nd} {v' : Value} (h : GIn w b mb G pv S) (hr : right n = true) (hn : n.1 ∉ ids G) (hp : ∀ p ∈ n.2, p ∈ ids G) (hv : NumsAt w v' n.2) {z : Nat} (hz : b < z ∧ mb < z) (hx : ∀ x, v'.ownBlock = Option.some x → z ≤ x ∧ x < w.heap.size)
    (hm : IMap w' mb (G.length + 1) (fun y => if y = n.1 then Option.some (.agg #[v', .int .i64 (top (n.2.map (lev G)))]) else gm G pv y)) (hg : w.grownBy w' (Option.some mb)) : GIn w' b mb (Gp.ins n G) (fun y => if y = n.1 then v' else pv y) (fun x => S x ∨ v'.ownBlock = Option.some x) where
  ok := ins_ok h.ok hr hn hp
  cell := (hg.block b (lt_heap h.cell) (fun q => h.ne (Option.some.inj q))).trans h.cell
  map := by
    refine hm.congr (fun y => ?_) (ins_len n G)
    unfold gm
    by_cases e : y = n.1
    · subst e
      simp only [if_pos, if_pos (mem_ids_ins.2 (.inl rfl) : n.1 ∈ ids (Gp.ins n G)), lev_ins_new h.ok hr hn hp]
    · simp only [if_neg e]
      by_cases hy : y ∈ ids G
      · rw [if_pos hy, if_pos (mem_ids_ins.2 (.inr hy)), lev_ins h.ok hr hn hp y hy]
      · rw [if_neg hy, if_neg (fun q => by rcases mem_ids_ins.1 q with q | q <;> contradiction)]
  rows m hmm := by
    rcases mem_ins.1 hmm with rfl | hmm
    · simp only [if_pos]
      exact ⟨hv.block fun x q => hg.block x (hx x q).2 (fun r => by have := Option.some.inj r; have := (hx x q).1; omega), fun x q => .inr q⟩
    · have e : m.1 ≠ n.1 := fun e => hn (e ▸ ids_of hmm)
      simp only [if_neg e]
      exact ⟨(h.rows m hmm).1.block fun x q => hg.block x (h.sep x ((h.rows m hmm).2 x q)).1 (fun r => (h.sep x ((h.rows m hmm).2 x q)).2.2 (Option.some.inj r)), fun x q => .inl ((h.rows m hmm).2 x q)⟩
  ne := h.ne
  sep x hxx := by
    have hs := hg.size
    rcases hxx with q | q
    · have := h.sep x q; exact ⟨by omega, this.2⟩
    · have := hx x q; exact ⟨by omega, by omega, by omega⟩
set_option maxHeartbeats 4000000 in
set_option maxRecDepth 100000 in
theorem add_in (h : GIn w b mb G pv S) {v : Value} {n : Nd} (hp : NumsAt w v n.2) (hl : n.2.length ≤ 100) (hG : G.length ≤ 100) :
    Calls Try.prog 8 #[.pointer (some ⟨b, 0, none⟩), .agg #[.int .i64 n.1, v]] w fun e w' => e = .returned (.int .i64 (add G n).1) ∧ Turns w w' b mb (add G n).2 S := by
  have HG := Lib.hid h
  have HP := Lib.hid hp
  have hb1 := (Below.refl w.heap.size w).alloc (Nat.le_refl _) (.cells #[.int .i64 n.1, v] 32)
  have HV := Lib.hid (valid_any (hp.keep hb1) (by omega))
  have B1 := Lib.hid hb1
  have k0 := cells_new w #[.int .i64 n.1, v] 32 0 _ rfl
  have k1 := cells_new w #[.int .i64 n.1, v] 32 1 _ rfl
  simp only [List.getElem_toArray, List.getElem_cons_zero, List.getElem_cons_succ] at k0 k1
  have K0 := Lib.hid k0
  have K1 := Lib.hid k1
  obtain ⟨va, vc, rfl⟩ := hp.slice
  clear h hp hb1 k0 k1
  by_cases hr : right n = true
  · rw [hr] at HV
    obtain ⟨oa, oc, ol, hlook, hnums, hlev, hown⟩ := HG.out.look_all n.1
    have HL := Lib.hid hlook
    have HNU := Lib.hid hnums
    clear hlook hnums hlev hown
    go_enter Try.func8, Try.ntmps8
    go_wp2_with (go_at_call 37; refine (HV.out).mono ?_; rintro e w2 ⟨rfl, g2⟩; refine Hid.out ?_)
    refine Lib.hid ?_
    have B2 := Lib.hid (B1.out.trans (g2.1.mono B1.out.size))
    have c0 := below_cell K0.out g2.1
    have c1 := below_cell K1.out g2.1
    have C0 := Lib.hid c0
    have C1 := Lib.hid c1
    have HG2 := Lib.hid (HG.out.keep B2.out)
    have S0 := And.intro (HG2.out.keep (below_drew w2)) (And.intro c0 c1)
    have hba := ((Below.refl w2.heap.size w2).alloc (Nat.le_refl _) (.cells #[.slice none 0 0, .int .i64 0] 57)).drew
    have S1 := And.intro (HG2.out.keep hba) (And.intro (below_cell c0 hba) (below_cell c1 hba))
    clear hba
    clear g2 HV c0 c1
    go_wp2
    refine region_till 11 (fun w' => GIn w' b mb G pv S ∧ w'.cell? ⟨w.heap.size, 0, none⟩ = some (.int .i64 n.1) ∧ w'.cell? ⟨w.heap.size, 1, none⟩ = some (.slice va n.2.length vc)) (by kernel_rfl) ?_
    refine till_take 0 16 false (v := ?v0) (by kernel_rfl) (by kernel_rfl) (by kernel_rfl) (by kernel_rfl) (by kernel_rfl) (fun _ _ _ h => h) ?hw0 S0 ?hy0 ?rest0
    case hw0 => (simp only [List.getElem?_toArray, List.getElem?_cons_zero, Option.elim]; rfl)
    case hy0 => (simp only [List.getElem?_toArray, List.getElem?_cons_zero, Option.elim]; intro wx _; go_simp; with_reducible rfl)
    simp only [dstOf, List.getElem?_toArray, List.getElem?_cons_zero, Option.bind, Act.put, List.setIfInBounds_toArray, List.set_cons_zero, List.set_cons_succ]
    refine till_take 1 16 false (v := ?v1) (by kernel_rfl) (by kernel_rfl) (by kernel_rfl) (by kernel_rfl) (by kernel_rfl) (fun _ _ _ h => h) ?hw1 S0 ?hy1 ?rest1
    case hw1 => (simp only [List.getElem?_toArray, List.getElem?_cons_zero, List.getElem?_cons_succ, Option.elim]; rfl)
    case hy1 => (simp only [List.getElem?_toArray, List.getElem?_cons_zero, List.getElem?_cons_succ, Option.elim]; intro wx _; go_simp; with_reducible rfl)
    simp only [dstOf, List.getElem?_toArray, List.getElem?_cons_zero, List.getElem?_cons_succ, Option.bind, Act.put, List.setIfInBounds_toArray, List.set_cons_zero, List.set_cons_succ]
    refine till_take 2 16 false (v := ?v2) (by kernel_rfl) (by kernel_rfl) (by kernel_rfl) (by kernel_rfl) (by kernel_rfl) (fun _ _ _ h => h) ?hw2 S0 ?hy2 ?rest2
    case hw2 => (simp only [List.getElem?_toArray, List.getElem?_cons_zero, List.getElem?_cons_succ, Option.elim]; rfl)
    case hy2 => (simp only [List.getElem?_toArray, List.getElem?_cons_zero, List.getElem?_cons_succ, Option.elim]; intro wx _; go_simp; with_reducible rfl)
    simp only [dstOf, List.getElem?_toArray, List.getElem?_cons_zero, List.getElem?_cons_succ, Option.bind, Act.put, List.setIfInBounds_toArray, List.set_cons_zero, List.set_cons_succ]
    refine till_take 3 16 true (v := ?v3) (by kernel_rfl) (by kernel_rfl) (by kernel_rfl) (by kernel_rfl) (by kernel_rfl) (fun _ _ _ h => h) ?hw3 S0 ?hy3 ?rest3
    case hw3 => (simp only [List.getElem?_toArray, List.getElem?_cons_zero, List.getElem?_cons_succ, Option.elim]; rfl)
    case hy3 => (simp only [List.getElem?_toArray, List.getElem?_cons_zero, List.getElem?_cons_succ, Option.elim]; intro wx hx; have x0 := (hx trivial).1.c0; have x1 := (hx trivial).2.1; have x2 := (HL.out _ (hx trivial).1).1; go_simp; with_reducible rfl)
    simp only [dstOf, List.getElem?_toArray, List.getElem?_cons_zero, List.getElem?_cons_succ, Option.bind, Act.put, List.setIfInBounds_toArray, List.set_cons_zero, List.set_cons_succ]
    refine till_take 4 16 false (v := ?v4) (by kernel_rfl) (by kernel_rfl) (by kernel_rfl) (by kernel_rfl) (by kernel_rfl) (fun _ _ _ h => h) ?hw4 S0 ?hy4 ?rest4
    case hw4 => (simp only [List.getElem?_toArray, List.getElem?_cons_zero, List.getElem?_cons_succ, Option.elim]; rfl)
    case hy4 => (simp only [List.getElem?_toArray, List.getElem?_cons_zero, List.getElem?_cons_succ, Option.elim]; intro wx _; go_simp; with_reducible rfl)
    simp only [dstOf, List.getElem?_toArray, List.getElem?_cons_zero, List.getElem?_cons_succ, Option.bind, Act.put, List.setIfInBounds_toArray, List.set_cons_zero, List.set_cons_succ]
    refine till_take 5 16 true (v := ?v5) (by kernel_rfl) (by kernel_rfl) (by kernel_rfl) (by kernel_rfl) (by kernel_rfl) (fun _ _ _ h => h) ?hw5 S0 ?hy5 ?rest5
    case hw5 => (simp only [List.getElem?_toArray, List.getElem?_cons_zero, List.getElem?_cons_succ, Option.elim]; rfl)
    case hy5 => (simp only [List.getElem?_toArray, List.getElem?_cons_zero, List.getElem?_cons_succ, Option.elim]; intro wx hx; have x0 := (hx trivial).1.c0; have x1 := (hx trivial).2.1; have x2 := (HL.out _ (hx trivial).1).1; go_simp; with_reducible rfl)
    simp only [dstOf, List.getElem?_toArray, List.getElem?_cons_zero, List.getElem?_cons_succ, Option.bind, Act.put, List.setIfInBounds_toArray, List.set_cons_zero, List.set_cons_succ]
    refine till_take 6 16 true (v := ?v6) (by kernel_rfl) (by kernel_rfl) (by kernel_rfl) (by kernel_rfl) (by kernel_rfl) (fun _ _ _ h => h) ?hw6 S0 ?hy6 ?rest6
    case hw6 => (simp only [List.getElem?_toArray, List.getElem?_cons_zero, List.getElem?_cons_succ, Option.elim]; rfl)
    case hy6 => (simp only [List.getElem?_toArray, List.getElem?_cons_zero, List.getElem?_cons_succ, Option.elim]; intro wx hx; have x0 := (hx trivial).1.c0; have x1 := (hx trivial).2.1; have x2 := (HL.out _ (hx trivial).1).1; go_simp; with_reducible rfl)
    simp only [dstOf, List.getElem?_toArray, List.getElem?_cons_zero, List.getElem?_cons_succ, Option.bind, Act.put, List.setIfInBounds_toArray, List.set_cons_zero, List.set_cons_succ]
    refine till_take 7 16 false (v := ?v7) (by kernel_rfl) (by kernel_rfl) (by kernel_rfl) (by kernel_rfl) (by kernel_rfl) (fun _ _ _ h => h) ?hw7 S0 ?hy7 ?rest7
    case hw7 => (simp only [List.getElem?_toArray, List.getElem?_cons_zero, List.getElem?_cons_succ, Option.elim]; rfl)
    case hy7 => (simp only [List.getElem?_toArray, List.getElem?_cons_zero, List.getElem?_cons_succ, Option.elim]; intro wx _; go_simp; with_reducible rfl)
    simp only [dstOf, List.getElem?_toArray, List.getElem?_cons_zero, List.getElem?_cons_succ, Option.bind, Act.put, List.setIfInBounds_toArray, List.set_cons_zero, List.set_cons_succ]
    refine till_take 8 16 false (v := ?v8) (by kernel_rfl) (by kernel_rfl) (by kernel_rfl) (by kernel_rfl) (by kernel_rfl) (fun _ _ _ h => h) ?hw8 S0 ?hy8 ?rest8
    case hw8 => (simp only [List.getElem?_toArray, List.getElem?_cons_zero, List.getElem?_cons_succ, Option.elim]; rfl)
    case hy8 => (simp only [List.getElem?_toArray, List.getElem?_cons_zero, List.getElem?_cons_succ, Option.elim]; intro wx _; go_simp; with_reducible rfl)
    simp only [dstOf, List.getElem?_toArray, List.getElem?_cons_zero, List.getElem?_cons_succ, Option.bind, Act.put, List.setIfInBounds_toArray, List.set_cons_zero, List.set_cons_succ]
    refine till_take 9 16 false (v := ?v9) (by kernel_rfl) (by kernel_rfl) (by kernel_rfl) (by kernel_rfl) (by kernel_rfl) (fun _ _ _ h => h) ?hw9 S0 ?hy9 ?rest9
    case hw9 => (simp only [List.getElem?_toArray, List.getElem?_cons_zero, List.getElem?_cons_succ, Option.elim]; rfl)
    case hy9 => (simp only [List.getElem?_toArray, List.getElem?_cons_zero, List.getElem?_cons_succ, Option.elim]; intro wx _; go_simp; with_reducible rfl)
    simp only [dstOf, List.getElem?_toArray, List.getElem?_cons_zero, List.getElem?_cons_succ, Option.bind, Act.put, List.setIfInBounds_toArray, List.set_cons_zero, List.set_cons_succ]
    refine till_before 10 (by kernel_rfl) (fun K hK => ?_)
    simp only [List.getElem?_toArray, List.getElem?_cons_zero, List.getElem?_cons_succ, Option.elim]
    rw [if_pos (by rfl)]
    go_simp
    refine hK.out _ _ (S1) ?_
    clear hK K
    try simp only [Act.put, List.setIfInBounds_toArray, List.set_cons_zero, List.set_cons_succ]
    refine till_step 11 (by kernel_rfl) (by kernel_rfl) (fun K hK => ?_)
    simp only [List.getElem?_toArray, List.getElem?_cons_zero, List.getElem?_cons_succ, Option.elim]
    rw [if_pos (by rfl)]
    go_simp
    refine hK.out _ _ ?_
    clear hK K
    try simp only [Act.put, List.setIfInBounds_toArray, List.set_cons_zero, List.set_cons_succ]
    refine till_step 12 (by kernel_rfl) (by kernel_rfl) (fun K hK => ?_)
    simp only [List.getElem?_toArray, List.getElem?_cons_zero, List.getElem?_cons_succ, Option.elim]
    rw [if_pos (by rfl)]
    go_simp
    refine hK.out _ _ ?_
    clear hK K
    try simp only [Act.put, List.setIfInBounds_toArray, List.set_cons_zero, List.set_cons_succ]
    refine till_end (by kernel_rfl) ?_ _
    clear S0 S1 HL
    have hob := cells_new w2 #[.slice oa (par G n.1).length oc, .int .i64 ol] 57 0 _ rfl
    have hba := ((Below.refl w2.heap.size w2).alloc (Nat.le_refl _) (.cells #[.slice oa (par G n.1).length oc, .int .i64 ol] 57)).drew
    have B3 := Lib.hid (B2.out.trans (hba.mono B2.out.size))
    have HG3 := Lib.hid (HG2.out.keep hba)
    have c0 := below_cell C0.out hba
    have c1 := below_cell C1.out hba
    have hob3 : ((w2.alloc (.cells #[.slice oa (par G n.1).length oc, .int .i64 ol] 57)).drew).cell? ⟨w2.heap.size, 0, none⟩ = some (.slice oa (par G n.1).length oc) := hob
    clear hob hba
    have HNU3 := Lib.hid (HNU.out.keep B3.out)
    have HP3 := Lib.hid (HP.out.keep B3.out)
    clear B2 HG2 C0 C1 HNU HP
    generalize hw3 : (w2.alloc (.cells #[.slice oa (par G n.1).length oc, .int .i64 ol] 57)).drew = w3 at B3 HG3 c0 c1 hob3 HNU3 HP3 ⊢
    generalize w2.heap.size = ob at hob3 ⊢
    clear hw3
    have C0 := Lib.hid c0
    have C1 := Lib.hid c1
    by_cases hi : n.1 ∈ ids G
    · have hpl := par_few HG3.out.ok n.1
      have HE := Lib.hid (equal_any HNU3.out HP3.out (by omega) (by omega))
      by_cases he : par G n.1 = n.2
      · have HA := Lib.hid (add_there hr hi he)
        rw [decide_eq_true he] at HE
        clear he
        go_wp2_with (go_at_call 38; refine (HE.out).mono ?_; rintro e w4 ⟨rfl, g4⟩; refine Hid.out ?_)
        refine Lib.hid ?_
        go_wp2
        go_ret
        rw [HA.out]
        exact ⟨rfl, HG.out.stays (B3.out.trans (g4.1.mono B3.out.size))⟩
      · have HA := Lib.hid (add_twice hr hi he)
        rw [decide_eq_false he] at HE
        clear he
        go_wp2_with (go_at_call 38; refine (HE.out).mono ?_; rintro e w4 ⟨rfl, g4⟩; refine Hid.out ?_)
        refine Lib.hid ?_
        go_wp2
        go_ret
        rw [HA.out]
        exact ⟨rfl, HG.out.stays (B3.out.trans (g4.1.mono B3.out.size))⟩
    · have HNI := Lib.hid hi
      go_wp2
      clear hi
      go_loopw [7, 35] (fun lv i wr => ∃ k : Nat, k ≤ n.2.length ∧ i = .int .i64 k ∧ lv = .int .i64 (top ((n.2.take k).map (lev G))) ∧ Hid (∀ p ∈ n.2.take k, p ∈ ids G) ∧ Hid (Below w3.heap.size w3 wr)) (fun _ i _ => n.2.length - (RowKit.intOf i).toNat)
      case atStart => exact ⟨0, Nat.zero_le _, rfl, rfl, Lib.hid (by simp), Lib.hid (Below.refl _ _)⟩
      case round =>
        obtain ⟨k, hk, rfl, rfl, HI, HB⟩ := hrel
        by_cases hlt : k < n.2.length
        · obtain ⟨p, hpk⟩ : ∃ p, n.2[k]? = some p := ⟨_, List.getElem?_eq_getElem hlt⟩
          obtain ⟨b1, off1, cap1, e1, _, hcs⟩ := (HP3.out.keep HB.out).form (by omega)
          cases e1
          have d1 := hcs k p hpk
          have HGr := Lib.hid (HG3.out.keep HB.out)
          have e0 := HGr.out.c0
          obtain ⟨qa, qc, ql, ⟨hlook, _⟩, _, hql⟩ := HGr.out.look p
          by_cases hpi : p ∈ ids G
          · obtain rfl := hql hpi
            rw [show (ids G).contains p = true by simpa using hpi] at hlook
            have hlp := And.intro (lev_nonneg HG.out.ok hpi) (lev_lt HG.out.ok hpi)
            have HT := Lib.hid (top_take (l := n.2.map (lev G)) (k := k) (v := lev G p) (by rw [List.getElem?_map, hpk]; rfl))
            have HI2 := Lib.hid (show ∀ q ∈ n.2.take (k + 1), q ∈ ids G from fun q hq => by
              rw [List.take_add_one, hpk] at hq
              rcases List.mem_append.1 hq with r | r
              · exact HI.out q r
              · simp at r; subst r; exact hpi)
            have HT2 := Lib.hid (show top ((n.2.take (k + 1)).map (lev G)) = max (top ((n.2.take k).map (lev G))) (lev G p + 1) by rw [List.map_take, HT.out, List.map_take])
            have HBn := Lib.hid (HB.out.alloc HB.out.size (.cells #[.slice qa (par G p).length qc, .int .i64 (lev G p)] 57))
            generalize hlvp : lev G p = lp at hlook hlp HT2 HBn
            generalize top ((n.2.take k).map (lev G)) = tp at HT2 ⊢
            clear hcs hpk hql hpi HT hlvp
            by_cases hmx : tp < lp + 1
            · go_wp2
              go_roundw
              case rel => exact ⟨k + 1, by omega, by go_num, by rw [HT2.out, show max tp (lp + 1) = lp + 1 from Int.max_eq_right (by omega)], HI2, HBn⟩
              case measure => simp [RowKit.intOf]; omega
            · go_wp2
              go_roundw
              case rel => exact ⟨k + 1, by omega, by go_num, by rw [HT2.out, show max tp (lp + 1) = tp from Int.max_eq_left (by omega)], HI2, HBn⟩
              case measure => simp [RowKit.intOf]; omega
          · rw [show (ids G).contains p = false by simpa using hpi] at hlook
            have HA := Lib.hid (add_miss hr HNI.out (fun q => hpi (q p (List.mem_of_getElem? hpk))))
            clear hcs hpk hql hpi
            go_wp2
            go_ret
            rw [HA.out]
            exact ⟨rfl, HG.out.stays (B3.out.trans ((HB.out.mono B3.out.size).alloc (Nat.le_trans B3.out.size HB.out.size) _))⟩
        · obtain rfl : k = n.2.length := by omega
          have hall := HI.out
          rw [List.take_length] at hall ⊢
          have HALL := Lib.hid hall
          clear hall HI
          have HA := Lib.hid (add_new hr HNI.out HALL.out)
          have HBr := Lib.hid (HB.out.trans ((below_drew wr).mono HB.out.size))
          have HG4 := Lib.hid (HG3.out.keep HBr.out)
          have HC4 := Lib.hid (clone_any (HP3.out.keep HBr.out) (by omega))
          have S0 := And.intro HG4.out (And.intro (below_cell C0.out HBr.out) (below_cell C1.out HBr.out))
          clear hlt hk
          generalize htp : top (n.2.map (lev G)) = tp
          have HTP := Lib.hid htp
          clear htp
          go_wp2
          refine region_till 11 (fun w' => GIn w' b mb G pv S ∧ w'.cell? ⟨w.heap.size, 0, none⟩ = some (.int .i64 n.1) ∧ w'.cell? ⟨w.heap.size, 1, none⟩ = some (.slice va n.2.length vc)) (by kernel_rfl) ?_
          refine till_take 0 16 false (v := ?v0z) (by kernel_rfl) (by kernel_rfl) (by kernel_rfl) (by kernel_rfl) (by kernel_rfl) (fun _ _ _ h => h) ?hw0z S0 ?hy0z ?rest0z
          case hw0z => (simp only [List.getElem?_toArray, List.getElem?_cons_zero, Option.elim]; rfl)
          case hy0z => (simp only [List.getElem?_toArray, List.getElem?_cons_zero, Option.elim]; intro wx _; go_simp; with_reducible rfl)
          simp only [dstOf, List.getElem?_toArray, List.getElem?_cons_zero, Option.bind, Act.put, List.setIfInBounds_toArray, List.set_cons_zero, List.set_cons_succ]
          refine till_take 1 16 false (v := ?v1z) (by kernel_rfl) (by kernel_rfl) (by kernel_rfl) (by kernel_rfl) (by kernel_rfl) (fun _ _ _ h => h) ?hw1z S0 ?hy1z ?rest1z
          case hw1z => (simp only [List.getElem?_toArray, List.getElem?_cons_zero, List.getElem?_cons_succ, Option.elim]; rfl)
          case hy1z => (simp only [List.getElem?_toArray, List.getElem?_cons_zero, List.getElem?_cons_succ, Option.elim]; intro wx _; go_simp; with_reducible rfl)
          simp only [dstOf, List.getElem?_toArray, List.getElem?_cons_zero, List.getElem?_cons_succ, Option.bind, Act.put, List.setIfInBounds_toArray, List.set_cons_zero, List.set_cons_succ]
          refine till_take 2 16 false (v := ?v2z) (by kernel_rfl) (by kernel_rfl) (by kernel_rfl) (by kernel_rfl) (by kernel_rfl) (fun _ _ _ h => h) ?hw2z S0 ?hy2z ?rest2z
          case hw2z => (simp only [List.getElem?_toArray, List.getElem?_cons_zero, List.getElem?_cons_succ, Option.elim]; rfl)
          case hy2z => (simp only [List.getElem?_toArray, List.getElem?_cons_zero, List.getElem?_cons_succ, Option.elim]; intro wx _; go_simp; with_reducible rfl)
          simp only [dstOf, List.getElem?_toArray, List.getElem?_cons_zero, List.getElem?_cons_succ, Option.bind, Act.put, List.setIfInBounds_toArray, List.set_cons_zero, List.set_cons_succ]
          refine till_take 3 16 true (v := ?v3z) (by kernel_rfl) (by kernel_rfl) (by kernel_rfl) (by kernel_rfl) (by kernel_rfl) (fun _ _ _ h => h) ?hw3z S0 ?hy3z ?rest3z
          case hw3z => (simp only [List.getElem?_toArray, List.getElem?_cons_zero, List.getElem?_cons_succ, Option.elim]; rfl)
          case hy3z => (simp only [List.getElem?_toArray, List.getElem?_cons_zero, List.getElem?_cons_succ, Option.elim]; intro wx hx; have x0 := (hx trivial).1.c0; have x1 := (hx trivial).2.1; have x2 := (hx trivial).2.2; go_simp; with_reducible rfl)
          simp only [dstOf, List.getElem?_toArray, List.getElem?_cons_zero, List.getElem?_cons_succ, Option.bind, Act.put, List.setIfInBounds_toArray, List.set_cons_zero, List.set_cons_succ]
          refine till_take 4 16 false (v := ?v4z) (by kernel_rfl) (by kernel_rfl) (by kernel_rfl) (by kernel_rfl) (by kernel_rfl) (fun _ _ _ h => h) ?hw4z S0 ?hy4z ?rest4z
          case hw4z => (simp only [List.getElem?_toArray, List.getElem?_cons_zero, List.getElem?_cons_succ, Option.elim]; rfl)
          case hy4z => (simp only [List.getElem?_toArray, List.getElem?_cons_zero, List.getElem?_cons_succ, Option.elim]; intro wx _; go_simp; with_reducible rfl)
          simp only [dstOf, List.getElem?_toArray, List.getElem?_cons_zero, List.getElem?_cons_succ, Option.bind, Act.put, List.setIfInBounds_toArray, List.set_cons_zero, List.set_cons_succ]
          refine till_take 5 16 true (v := ?v5z) (by kernel_rfl) (by kernel_rfl) (by kernel_rfl) (by kernel_rfl) (by kernel_rfl) (fun _ _ _ h => h) ?hw5z S0 ?hy5z ?rest5z
          case hw5z => (simp only [List.getElem?_toArray, List.getElem?_cons_zero, List.getElem?_cons_succ, Option.elim]; rfl)
          case hy5z => (simp only [List.getElem?_toArray, List.getElem?_cons_zero, List.getElem?_cons_succ, Option.elim]; intro wx hx; have x0 := (hx trivial).1.c0; have x1 := (hx trivial).2.1; have x2 := (hx trivial).2.2; go_simp; with_reducible rfl)
          simp only [dstOf, List.getElem?_toArray, List.getElem?_cons_zero, List.getElem?_cons_succ, Option.bind, Act.put, List.setIfInBounds_toArray, List.set_cons_zero, List.set_cons_succ]
          refine till_take 6 16 false (v := ?v6z) (by kernel_rfl) (by kernel_rfl) (by kernel_rfl) (by kernel_rfl) (by kernel_rfl) (fun _ _ _ h => h) ?hw6z S0 ?hy6z ?rest6z
          case hw6z => (simp only [List.getElem?_toArray, List.getElem?_cons_zero, List.getElem?_cons_succ, Option.elim]; rfl)
          case hy6z => (simp only [List.getElem?_toArray, List.getElem?_cons_zero, List.getElem?_cons_succ, Option.elim]; intro wx _; go_simp; with_reducible rfl)
          simp only [dstOf, List.getElem?_toArray, List.getElem?_cons_zero, List.getElem?_cons_succ, Option.bind, Act.put, List.setIfInBounds_toArray, List.set_cons_zero, List.set_cons_succ]
          refine till_take 7 16 true (v := ?v7z) (by kernel_rfl) (by kernel_rfl) (by kernel_rfl) (by kernel_rfl) (by kernel_rfl) (fun _ _ _ h => h) ?hw7z S0 ?hy7z ?rest7z
          case hw7z => (simp only [List.getElem?_toArray, List.getElem?_cons_zero, List.getElem?_cons_succ, Option.elim]; rfl)
          case hy7z => (simp only [List.getElem?_toArray, List.getElem?_cons_zero, List.getElem?_cons_succ, Option.elim]; intro wx hx; have x0 := (hx trivial).1.c0; have x1 := (hx trivial).2.1; have x2 := (hx trivial).2.2; go_simp; with_reducible rfl)
          simp only [dstOf, List.getElem?_toArray, List.getElem?_cons_zero, List.getElem?_cons_succ, Option.bind, Act.put, List.setIfInBounds_toArray, List.set_cons_zero, List.set_cons_succ]
          refine till_take 9 16 false (v := ?v9z) (by kernel_rfl) (by kernel_rfl) (by kernel_rfl) (by kernel_rfl) (by kernel_rfl) (fun _ _ _ h => h) ?hw9z S0 ?hy9z ?rest9z
          case hw9z => (simp only [List.getElem?_toArray, List.getElem?_cons_zero, List.getElem?_cons_succ, Option.elim]; rfl)
          case hy9z => (simp only [List.getElem?_toArray, List.getElem?_cons_zero, List.getElem?_cons_succ, Option.elim]; intro wx _; go_simp; with_reducible rfl)
          simp only [dstOf, List.getElem?_toArray, List.getElem?_cons_zero, List.getElem?_cons_succ, Option.bind, Act.put, List.setIfInBounds_toArray, List.set_cons_zero, List.set_cons_succ]
          refine till_before 8 (by kernel_rfl) (fun K hK => ?_)
          simp only [List.getElem?_toArray, List.getElem?_cons_zero, List.getElem?_cons_succ, Option.elim]
          rw [if_pos (by rfl)]
          go_simp
          go_at_call 39
          refine (HC4.out).mono ?_
          rintro e w5 ⟨v5, rfl, o5, n5, b5⟩
          refine hK.out _ _ (⟨S0.1.keep b5, below_cell S0.2.1 b5, below_cell S0.2.2 b5⟩) ?_
          clear hK K
          try simp only [Act.put, List.setIfInBounds_toArray, List.set_cons_zero, List.set_cons_succ]
          obtain ⟨a5, cp5, hv5⟩ := own_form o5
          subst hv5
          have S1 := And.intro (S0.1.keep b5) (And.intro (below_cell S0.2.1 b5) (below_cell S0.2.2 b5))
          clear S0
          have S0 := S1
          clear S1
          refine till_take 10 16 false (v := ?v10z) (by kernel_rfl) (by kernel_rfl) (by kernel_rfl) (by kernel_rfl) (by kernel_rfl) (fun _ _ _ h => h) ?hw10z S0 ?hy10z ?rest10z
          case hw10z => (simp only [List.getElem?_toArray, List.getElem?_cons_zero, List.getElem?_cons_succ, Option.elim]; rfl)
          case hy10z => (simp only [List.getElem?_toArray, List.getElem?_cons_zero, List.getElem?_cons_succ, Option.elim]; intro wx _; go_simp; with_reducible rfl)
          simp only [dstOf, List.getElem?_toArray, List.getElem?_cons_zero, List.getElem?_cons_succ, Option.bind, Act.put, List.setIfInBounds_toArray, List.set_cons_zero, List.set_cons_succ]
          have BW5 := HBr.out.trans (b5.mono HBr.out.size)
          have HB5 := Lib.hid (B3.out.trans (BW5.mono B3.out.size))
          have HG5 := Lib.hid S0.1
          have hzz := And.intro (HG.out.lt b (.inl (.inl rfl))) (HG.out.lt mb (.inl (.inr rfl)))
          obtain ⟨w6, hup, m6, g6⟩ := HG5.out.map.store (t := 52) (e := 57) Try.underlying52 (by unfold maxLen; omega) (wf_of (right_iff.1 hr).1.1 (right_iff.1 hr).1.2) (.agg #[.slice a5 n.2.length cp5, .int .i64 tp]) (by unfold gm; rw [if_neg HNI.out])
          have HSZ := Lib.hid (Nat.le_trans B3.out.size HBr.out.size)
          have HFIN := Lib.hid (HG5.out.ins hr HNI.out HALL.out (NumsAt.of_own o5) hzz (fun x hx => ⟨Nat.le_trans HSZ.out (n5 x hx), (o5.lt x hx).2⟩) (m6.congr (fun y => by rw [HTP.out]) rfl) g6)
          have HGR := Lib.hid (grown_below HB5.out g6)
          have HN5 := Lib.hid (fun x hx => Nat.le_trans HSZ.out (n5 x hx))
          clear m6 g6 o5 n5 b5 BW5 hzz
          refine till_step 11 (by kernel_rfl) (by kernel_rfl) (fun K hK => ?_)
          simp only [List.getElem?_toArray, List.getElem?_cons_zero, List.getElem?_cons_succ, Option.elim]
          rw [if_pos (by rfl)]
          go_simp
          refine hK.out _ _ ?_
          clear hK K
          try simp only [Act.put, List.setIfInBounds_toArray, List.set_cons_zero, List.set_cons_succ]
          refine till_end (by kernel_rfl) ?_ _
          go_wp2
          go_ret
          rw [HA.out]
          exact ⟨rfl, HGR.out, _, _, HFIN.out, fun x hx => hx.imp_right (HN5.out x)⟩
  · have HA := Lib.hid (add_right (G := G) hr)
    rw [show right n = false by simpa using hr] at HV
    clear hr
    go_enter Try.func8, Try.ntmps8
    go_wp2_with (go_at_call 37; refine (HV.out).mono ?_; rintro e w2 ⟨rfl, g2⟩; refine Hid.out ?_)
    refine Lib.hid ?_
    go_wp2
    go_ret
    rw [HA.out]
    exact ⟨rfl, HG.out.stays (B1.out.trans (g2.1.mono B1.out.size))⟩
end
end Go.Proofs.Ytihnnffhpgbgjaa
