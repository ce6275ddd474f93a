/- Same. -/
import Derived.Test.YtihnnffhpgbgjaaPadd
namespace Go.Proofs.Ytihnnffhpgbgjaa
open Go.RowKit Go.Maps Go.ChangeMaps Go.MapKept
open Gp
attribute [local go_sem ↓] Go.wp_at_zero Go.wp_at_succ

theorem same_of {G H : List Nd} (okG : Ok G) (okH : Ok H) (hl : G.length = H.length) (h : ∀ x ∈ ids G, x ∈ ids H ∧ par G x = par H x) : G = H := by
  have nd : ∀ {K : List Nd}, Ok K → K.Nodup := fun {K} ok => by
    have := ok.asc
    unfold ids at this
    exact (List.pairwise_map.1 this).imp fun {a b} hab e => by rw [e] at hab; omega
  have sub : ∀ n ∈ G, n ∈ H := fun n hn => by
    obtain ⟨h1, h2⟩ := h n.1 (ids_of hn)
    obtain ⟨m, hm, e⟩ := mem_ids.1 h1
    rw [par_of okG.asc hn, ← e, par_of okH.asc hm] at h2
    have : m = n := Prod.ext e h2.symm
    exact this ▸ hm
  refine graph_ext okG.asc okH.asc fun n => ⟨sub n, fun hn => ?_⟩
  by_cases hG : n ∈ G
  · exact hG
  · exfalso
    have := (List.nodup_cons.2 ⟨hG, nd okG⟩).length_le_of_subset (l₂ := H) fun m hm => by
      rcases List.mem_cons.1 hm with rfl | hm
      · exact hn
      · exact sub m hm
    rw [List.length_cons] at this
    omega
section
variable {w : World} {b mb b2 mb2 : Nat} {G H : List Nd} {pv pv2 : Int → Value} {S S2 : Nat → Prop}
set_option maxHeartbeats 1000000 in
theorem eq1_any {a a2 : Option Addr} {n c n2 c2 : Nat} {x y : Int} {l l2 : List Int} (h : NumsAt w (.slice a n c) l) (h2 : NumsAt w (.slice a2 n2 c2) l2) (hl : l.length ≤ 1000) (hl2 : l2.length ≤ 1000) :
    Calls Try.prog 56 #[.agg #[.slice a n c, .int .i64 x], .agg #[.slice a2 n2 c2, .int .i64 y]] w fun e w' => e = .returned (.bool (decide (l = l2))) ∧ Grw w w' := by
  have hb1 := (Grw.refl w).alloc (.cells #[.slice a n c, .int .i64 x] 57)
  have hb2 := hb1.alloc (.cells #[.slice a2 n2 c2, .int .i64 y] 57)
  have HB := Lib.hid hb2
  have HE := Lib.hid (equal_any (h.keep hb2.1) (h2.keep hb2.1) hl hl2)
  clear h h2 hb1 hb2
  go_enter Try.func56, Try.ntmps56
  go_wp2_with (go_at_call 38; refine (HE.out).mono ?_; rintro e w2 ⟨rfl, g2⟩; refine Hid.out ?_)
  refine Lib.hid ?_
  go_wp2
  go_ret
  exact ⟨rfl, HB.out.trans g2⟩
set_option maxHeartbeats 4000000 in
set_option maxRecDepth 100000 in
theorem eqmaps_in (h : GIn w b mb G pv S) (k : GIn w b2 mb2 H pv2 S2) (hG : G.length ≤ 100) :
    Calls Try.prog 55 #[.map (some mb), .map (some mb2), .func (.func 56) #[] #[]] w fun e w' => e = .returned (.bool (decide (G = H))) ∧ Below w.heap.size w w' := by
  have HG := Lib.hid h
  have HK := Lib.hid k
  have l1 := fun ty => h.map.len Try.underlying52 ty
  have l2 := fun ty => k.map.len Try.underlying52 ty
  have HF := Lib.hid h.map.is
  clear h k
  go_enter Try.func55, Try.ntmps55
  by_cases hl : G.length = H.length
  · have hl' : ((G.length : Nat) : Int) = ((H.length : Nat) : Int) := by rw [hl]
    have HLL := Lib.hid hl
    clear hl
    go_wp2_with (first | (at_range; refine wpList_range_is rfl _ 52 rfl _ kI Try.underlying52 rfl HF.out ?_; intro w0 hrg0 hg0 hs0) | go_in)
    try go_frame
    have B0 := Lib.hid (below_grown (Below.refl w.heap.size w) hg0 (fun x hx => by cases hx))
    have R0 := Lib.hid hrg0
    clear hrg0 hg0 HF l1 l2
    go_loopw [7] (fun _ wr => ∃ (left : Lit → Bool) (cnt : Nat), Hid (RangeIs Try.prog wr 3 mb w.heap.size G.length (onInt (gm G pv)) left cnt) ∧ Hid (∀ kl, left kl = true → (onInt (gm G pv) kl).isSome = true) ∧
      Hid (∀ x ∈ ids G, left (.int .i64 x) = false → x ∈ ids H ∧ par G x = par H x) ∧ Hid (Below w.heap.size w wr)) (fun _ wr => wr.rangeLeft mb w.heap.size)
    case atStart =>
      refine ⟨_, _, R0, Lib.hid fun _ h => h, Lib.hid fun x hx hf => ?_, B0⟩
      exfalso
      have : (gm G pv x).isSome = true := by unfold gm; rw [if_pos hx]; rfl
      have e : (onInt (gm G pv) (.int .i64 x)).isSome = false := hf
      rw [show onInt (gm G pv) (.int .i64 x) = gm G pv x from rfl, this] at e
      cases e
    case round =>
      obtain ⟨left, cnt, HRG, HLM, HN, HB⟩ := hrel
      go_wp2_with (first | (at_next; refine wpList_next_is rfl _ rfl kI (Value.int .i64) nv (fun key kl hk => by obtain ⟨x, hx, _⟩ := Maps.keyOf_i64 Try.underlying3 hk; exact ⟨x, hx⟩) w.heap.size cnt left rfl HRG.out (fun kl v hv _ => by obtain ⟨x, a, c, _, _, q, _⟩ := HG.out.some hv; exact ⟨_, q⟩) HLM.out ?_ ?_) | go_in)
      · intro _ hl0
        have HE := Lib.hid (same_of HG.out.ok HK.out.ok HLL.out fun x hx => HN.out x hx (hl0 _))
        clear hl0
        go_wp2
        go_ret
        exact ⟨ret_bool (decide_eq_true HE.out).symm, HB.out⟩
      · intro x a nl pc lv kl w1 cnt1 hkey hlk hmk hrg1 hlt1 hg1 hs1 hen
        obtain ⟨x1, a1, pc1, rfl, hx, hy, _, hnums⟩ := HG.out.some hmk
        obtain ⟨x2, hz', hkl, _⟩ := Maps.keyOf_i64 Try.underlying3 hkey
        cases hkl
        cases hz'
        simp only [nv, Value.agg.injEq, Array.mk.injEq, List.cons.injEq, Value.slice.injEq, Value.int.injEq, and_true, true_and] at hy
        obtain ⟨⟨rfl, rfl, rfl⟩, rfl⟩ := hy
        have HB1 := Lib.hid (below_grown HB.out hg1 (fun q hq => by have := Option.some.inj hq; omega))
        have HR1 := Lib.hid hrg1
        have HLE0 := Lib.hid HRG.out.left_eq
        obtain ⟨qa, qc, ql, hlook, hnums2, _, _⟩ := HK.out.look_all x
        have hbA := (Below.refl w1.heap.size w1).alloc (Nat.le_refl _) (.cells #[.slice a (par G x).length pc, .int .i64 (lev G x)] 57)
        have hbB := hbA.alloc hbA.size (.cells #[.slice qa (par H x).length qc, .int .i64 ql] 57)
        have hlk2 := (hlook _ (HK.out.keep (HB1.out.trans (hbA.mono HB1.out.size)))).1
        have HBB := Lib.hid hbB
        have HB2 := Lib.hid (HB1.out.trans (hbB.mono HB1.out.size))
        have hpl := par_few HG.out.ok x
        have hpl2 := par_few HK.out.ok x
        have HE := Lib.hid (eq1_any (x := lev G x) (y := ql) (hnums.keep HB2.out) (hnums2.keep HB2.out) (by omega) (by omega))
        have HX := Lib.hid hx
        have hen2 : (Instr.entry (.pointer (some ⟨w.heap.size, 0, none⟩))).run Try.prog w1 = .ok (.tuple #[.int .i64 x, .agg #[.slice a (par G x).length pc, .int .i64 (lev G x)]]) w1 := hen
        clear hmk hkey hlk hrg1 hg1 hen hnums hnums2 hlook hx hbA hbB
        by_cases hi : x ∈ ids H
        · rw [show (ids H).contains x = true by simpa using hi] at hlk2
          have HI := Lib.hid hi
          clear hi
          by_cases he : par G x = par H x
          · have HP := Lib.hid he
            rw [decide_eq_true he] at HE
            clear he
            go_wp2_with (go_at_call 56; refine (HE.out).mono ?_; rintro e w4 ⟨rfl, g4⟩; refine Hid.out ?_)
            refine Lib.hid ?_
            have HB4 := Lib.hid (HBB.out.trans (g4.1.mono HBB.out.size))
            have HB5 := Lib.hid (HB1.out.trans (HB4.out.mono HB1.out.size))
            have HR4 := Lib.hid (HR1.out.kept (HB4.out.block _ HR1.out.map.lt) (HB4.out.block _ HR1.out.lt))
            clear g4
            go_wp2
            go_roundw
            case rel =>
              refine ⟨_, cnt1, HR4, Lib.hid (fun kl q => HLM.out kl (by rw [Bool.and_eq_true] at q; exact q.1)), Lib.hid (fun y hy hf => ?_), HB5⟩
              rcases Bool.and_eq_false_iff.1 hf with q | q
              · exact HN.out y hy q
              · have := WideAt.sameKey_eq (by simpa using q : Lit.sameKey (.int .i64 y) (.int .i64 x) = true)
                cases this; exact ⟨HI.out, HP.out⟩
            case measure => rw [HR4.out.left_eq, HLE0.out]; exact hlt1
          · have HD := Lib.hid (show decide (G = H) = false from decide_eq_false fun q => he (by rw [q]))
            rw [decide_eq_false he] at HE
            clear he
            go_wp2_with (go_at_call 56; refine (HE.out).mono ?_; rintro e w4 ⟨rfl, g4⟩; refine Hid.out ?_)
            refine Lib.hid ?_
            have HB5 := Lib.hid (HB2.out.trans (g4.1.mono HB2.out.size))
            clear g4
            go_wp2
            go_ret
            exact ⟨ret_bool HD.out.symm, HB5.out⟩
        · have HD := Lib.hid (show decide (G = H) = false from decide_eq_false fun q => hi (by rw [← q]; exact HX.out))
          rw [show (ids H).contains x = false by simpa using hi] at hlk2
          clear hi
          go_wp2
          go_ret
          exact ⟨ret_bool HD.out.symm, HB2.out⟩
  · have HD := Lib.hid (show decide (G = H) = false from decide_eq_false fun q => hl (by rw [q]))
    have hl' : ¬ ((G.length : Nat) : Int) = ((H.length : Nat) : Int) := by omega
    clear hl
    go_wp2
    go_ret
    exact ⟨ret_bool HD.out.symm, Below.refl _ _⟩
set_option maxHeartbeats 2000000 in
set_option maxRecDepth 100000 in
theorem same_in (h : GIn w b mb G pv S) (k : GIn w b2 mb2 H pv2 S2) (hG : G.length ≤ 100) :
    Calls Try.prog 30 #[.pointer (some ⟨b, 0, none⟩), .pointer (some ⟨b2, 0, none⟩)] w fun e w' => e = .returned (.bool (decide (G = H))) ∧ Below w.heap.size w w' := by
  have HE := Lib.hid (eqmaps_in (h.keep (below_drew w)) (k.keep (below_drew w)) hG)
  have c0 := h.c0
  have c1 := k.c0
  have S0 := And.intro c0 c1
  clear h k
  generalize hr : decide (G = H) = r at HE ⊢
  clear hr
  go_enter Try.func30, Try.ntmps30
  go_wp2
  refine region_till 11 (fun w' => w'.cell? ⟨b, 0, none⟩ = some (.map (some mb)) ∧ w'.cell? ⟨b2, 0, none⟩ = some (.map (some mb2))) (by kernel_rfl) ?_
  refine till_take 0 16 false (v := ?v0) (by kernel_rfl) (by kernel_rfl) (by kernel_rfl) (by kernel_rfl) (by kernel_rfl) (fun _ _ _ h => h) ?hw0 S0 ?hy0 ?rest0
  case hw0 => (simp only [List.getElem?_toArray, List.getElem?_cons_zero, Option.elim]; rfl)
  case hy0 => (simp only [List.getElem?_toArray, List.getElem?_cons_zero, Option.elim]; intro wx _; go_simp; with_reducible rfl)
  simp only [dstOf, List.getElem?_toArray, List.getElem?_cons_zero, Option.bind, Act.put, List.setIfInBounds_toArray, List.set_cons_zero, List.set_cons_succ]
  refine till_take 1 16 false (v := ?v1) (by kernel_rfl) (by kernel_rfl) (by kernel_rfl) (by kernel_rfl) (by kernel_rfl) (fun _ _ _ h => h) ?hw1 S0 ?hy1 ?rest1
  case hw1 => (simp only [List.getElem?_toArray, List.getElem?_cons_zero, List.getElem?_cons_succ, Option.elim]; rfl)
  case hy1 => (simp only [List.getElem?_toArray, List.getElem?_cons_zero, List.getElem?_cons_succ, Option.elim]; intro wx _; go_simp; with_reducible rfl)
  simp only [dstOf, List.getElem?_toArray, List.getElem?_cons_zero, List.getElem?_cons_succ, Option.bind, Act.put, List.setIfInBounds_toArray, List.set_cons_zero, List.set_cons_succ]
  refine till_take 2 16 false (v := ?v2) (by kernel_rfl) (by kernel_rfl) (by kernel_rfl) (by kernel_rfl) (by kernel_rfl) (fun _ _ _ h => h) ?hw2 S0 ?hy2 ?rest2
  case hw2 => (simp only [List.getElem?_toArray, List.getElem?_cons_zero, List.getElem?_cons_succ, Option.elim]; rfl)
  case hy2 => (simp only [List.getElem?_toArray, List.getElem?_cons_zero, List.getElem?_cons_succ, Option.elim]; intro wx _; go_simp; with_reducible rfl)
  simp only [dstOf, List.getElem?_toArray, List.getElem?_cons_zero, List.getElem?_cons_succ, Option.bind, Act.put, List.setIfInBounds_toArray, List.set_cons_zero, List.set_cons_succ]
  refine till_take 3 16 false (v := ?v3) (by kernel_rfl) (by kernel_rfl) (by kernel_rfl) (by kernel_rfl) (by kernel_rfl) (fun _ _ _ h => h) ?hw3 S0 ?hy3 ?rest3
  case hw3 => (simp only [List.getElem?_toArray, List.getElem?_cons_zero, List.getElem?_cons_succ, Option.elim]; rfl)
  case hy3 => (simp only [List.getElem?_toArray, List.getElem?_cons_zero, List.getElem?_cons_succ, Option.elim]; intro wx _; go_simp; with_reducible rfl)
  simp only [dstOf, List.getElem?_toArray, List.getElem?_cons_zero, List.getElem?_cons_succ, Option.bind, Act.put, List.setIfInBounds_toArray, List.set_cons_zero, List.set_cons_succ]
  refine till_take 4 16 false (v := ?v4) (by kernel_rfl) (by kernel_rfl) (by kernel_rfl) (by kernel_rfl) (by kernel_rfl) (fun _ _ _ h => h) ?hw4 S0 ?hy4 ?rest4
  case hw4 => (simp only [List.getElem?_toArray, List.getElem?_cons_zero, List.getElem?_cons_succ, Option.elim]; rfl)
  case hy4 => (simp only [List.getElem?_toArray, List.getElem?_cons_zero, List.getElem?_cons_succ, Option.elim]; intro wx _; go_simp; with_reducible rfl)
  simp only [dstOf, List.getElem?_toArray, List.getElem?_cons_zero, List.getElem?_cons_succ, Option.bind, Act.put, List.setIfInBounds_toArray, List.set_cons_zero, List.set_cons_succ]
  refine till_take 5 16 false (v := ?v5) (by kernel_rfl) (by kernel_rfl) (by kernel_rfl) (by kernel_rfl) (by kernel_rfl) (fun _ _ _ h => h) ?hw5 S0 ?hy5 ?rest5
  case hw5 => (simp only [List.getElem?_toArray, List.getElem?_cons_zero, List.getElem?_cons_succ, Option.elim]; rfl)
  case hy5 => (simp only [List.getElem?_toArray, List.getElem?_cons_zero, List.getElem?_cons_succ, Option.elim]; intro wx _; go_simp; with_reducible rfl)
  simp only [dstOf, List.getElem?_toArray, List.getElem?_cons_zero, List.getElem?_cons_succ, Option.bind, Act.put, List.setIfInBounds_toArray, List.set_cons_zero, List.set_cons_succ]
  refine till_take 6 16 true (v := ?v6) (by kernel_rfl) (by kernel_rfl) (by kernel_rfl) (by kernel_rfl) (by kernel_rfl) (fun _ _ _ h => h) ?hw6 S0 ?hy6 ?rest6
  case hw6 => (simp only [List.getElem?_toArray, List.getElem?_cons_zero, List.getElem?_cons_succ, Option.elim]; rfl)
  case hy6 => (simp only [List.getElem?_toArray, List.getElem?_cons_zero, List.getElem?_cons_succ, Option.elim]; intro wx hx; have x0 := (hx trivial).1; have x1 := (hx trivial).2; go_simp; with_reducible rfl)
  simp only [dstOf, List.getElem?_toArray, List.getElem?_cons_zero, List.getElem?_cons_succ, Option.bind, Act.put, List.setIfInBounds_toArray, List.set_cons_zero, List.set_cons_succ]
  refine till_take 7 16 false (v := ?v7) (by kernel_rfl) (by kernel_rfl) (by kernel_rfl) (by kernel_rfl) (by kernel_rfl) (fun _ _ _ h => h) ?hw7 S0 ?hy7 ?rest7
  case hw7 => (simp only [List.getElem?_toArray, List.getElem?_cons_zero, List.getElem?_cons_succ, Option.elim]; rfl)
  case hy7 => (simp only [List.getElem?_toArray, List.getElem?_cons_zero, List.getElem?_cons_succ, Option.elim]; intro wx _; go_simp; with_reducible rfl)
  simp only [dstOf, List.getElem?_toArray, List.getElem?_cons_zero, List.getElem?_cons_succ, Option.bind, Act.put, List.setIfInBounds_toArray, List.set_cons_zero, List.set_cons_succ]
  refine till_take 8 16 false (v := ?v8) (by kernel_rfl) (by kernel_rfl) (by kernel_rfl) (by kernel_rfl) (by kernel_rfl) (fun _ _ _ h => h) ?hw8 S0 ?hy8 ?rest8
  case hw8 => (simp only [List.getElem?_toArray, List.getElem?_cons_zero, List.getElem?_cons_succ, Option.elim]; rfl)
  case hy8 => (simp only [List.getElem?_toArray, List.getElem?_cons_zero, List.getElem?_cons_succ, Option.elim]; intro wx _; go_simp; with_reducible rfl)
  simp only [dstOf, List.getElem?_toArray, List.getElem?_cons_zero, List.getElem?_cons_succ, Option.bind, Act.put, List.setIfInBounds_toArray, List.set_cons_zero, List.set_cons_succ]
  refine till_take 9 16 false (v := ?v9) (by kernel_rfl) (by kernel_rfl) (by kernel_rfl) (by kernel_rfl) (by kernel_rfl) (fun _ _ _ h => h) ?hw9 S0 ?hy9 ?rest9
  case hw9 => (simp only [List.getElem?_toArray, List.getElem?_cons_zero, List.getElem?_cons_succ, Option.elim]; rfl)
  case hy9 => (simp only [List.getElem?_toArray, List.getElem?_cons_zero, List.getElem?_cons_succ, Option.elim]; intro wx _; go_simp; with_reducible rfl)
  simp only [dstOf, List.getElem?_toArray, List.getElem?_cons_zero, List.getElem?_cons_succ, Option.bind, Act.put, List.setIfInBounds_toArray, List.set_cons_zero, List.set_cons_succ]
  refine till_take 10 16 true (v := ?v10) (by kernel_rfl) (by kernel_rfl) (by kernel_rfl) (by kernel_rfl) (by kernel_rfl) (fun _ _ _ h => h) ?hw10 S0 ?hy10 ?rest10
  case hw10 => (simp only [List.getElem?_toArray, List.getElem?_cons_zero, List.getElem?_cons_succ, Option.elim]; rfl)
  case hy10 => (simp only [List.getElem?_toArray, List.getElem?_cons_zero, List.getElem?_cons_succ, Option.elim]; intro wx hx; have x0 := (hx trivial).1; have x1 := (hx trivial).2; go_simp; with_reducible rfl)
  simp only [dstOf, List.getElem?_toArray, List.getElem?_cons_zero, List.getElem?_cons_succ, Option.bind, Act.put, List.setIfInBounds_toArray, List.set_cons_zero, List.set_cons_succ]
  refine till_step 11 (by kernel_rfl) (by kernel_rfl) (fun K hK => ?_)
  simp only [List.getElem?_toArray, List.getElem?_cons_zero, List.getElem?_cons_succ, Option.elim]
  rw [if_pos (by rfl)]
  go_simp
  go_at_call 55
  refine (HE.out).mono ?_
  rintro e w2 ⟨rfl, b2⟩
  refine hK.out _ _ ?_
  clear hK K
  try simp only [Act.put, List.setIfInBounds_toArray, List.set_cons_zero, List.set_cons_succ]
  refine till_late 12 (v := ?v12) (by kernel_rfl) (by kernel_rfl) (by kernel_rfl) (by kernel_rfl) (fun _ _ _ h => h) (by kernel_rfl) ?hw12 ?hy12 ?rest12
  case hw12 => (simp only [List.getElem?_toArray, List.getElem?_cons_zero, List.getElem?_cons_succ, Option.elim]; rfl)
  case hy12 => (simp only [List.getElem?_toArray, List.getElem?_cons_zero, List.getElem?_cons_succ, Option.elim]; intro wx; go_simp; with_reducible rfl)
  simp only [dstOf, List.getElem?_toArray, List.getElem?_cons_zero, List.getElem?_cons_succ, Option.bind, Act.put, List.setIfInBounds_toArray, List.set_cons_zero, List.set_cons_succ]
  refine till_late 13 (v := ?v13) (by kernel_rfl) (by kernel_rfl) (by kernel_rfl) (by kernel_rfl) (fun _ _ _ h => h) (by kernel_rfl) ?hw13 ?hy13 ?rest13
  case hw13 => (simp only [List.getElem?_toArray, List.getElem?_cons_zero, List.getElem?_cons_succ, Option.elim]; rfl)
  case hy13 => (simp only [List.getElem?_toArray, List.getElem?_cons_zero, List.getElem?_cons_succ, Option.elim]; intro wx; go_simp; with_reducible rfl)
  simp only [dstOf, List.getElem?_toArray, List.getElem?_cons_zero, List.getElem?_cons_succ, Option.bind, Act.put, List.setIfInBounds_toArray, List.set_cons_zero, List.set_cons_succ]
  refine till_end (by kernel_rfl) ?_ _
  go_wp2
  go_ret
  exact ⟨rfl, (below_drew w).trans b2⟩
set_option maxHeartbeats 2000000 in
set_option maxRecDepth 100000 in
theorem sameNil_in (b : Nat) (w : World) :
    Calls Try.prog 30 #[.pointer (some ⟨b, 0, none⟩), .pointer none] w fun e w' => e = .returned (.bool false) ∧ Below w.heap.size w w' := by
  go_enter Try.func30, Try.ntmps30
  go_wp2
  go_quiet (fail)
  go_wp2
  go_ret
  exact ⟨rfl, drewN_below _ _⟩
end
end Go.Proofs.Ytihnnffhpgbgjaa
