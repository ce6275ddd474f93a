/- Package vault: Destroy, Lock. -/
import Derived.Test.YtkicdfoncopklaaVStep
namespace Go.Proofs.Ytkicdfoncopklaa
open Go.RowKit Go.Maps Go.ChangeMaps Go.MapKept
open Vp
attribute [local go_sem ↓] Go.wp_at_zero Go.wp_at_succ

section
variable {w0 w w1 : World} {os : List Ob} {i b g n c k : Nat} {V : Vt} {u : Value} {ks : List Bun} {ps : List (Nat × Nat)} {p : Bun}
/-- A key is destroyed. -/
theorem MC.wipe (h : MC w b (.slice (some ⟨g, 0, none⟩) n c) u ks ps) (hn : n = ks.length) (hk : ks[k]? = some p) :
    MC ((w.setCell ⟨g, k * 2, none⟩ (.bool true)).setCell ⟨g, k * 2 + 1, none⟩ (.slice none 0 0)) b (.slice (some ⟨g, 0, none⟩) n c) u (ks.set k ⟨true, .slice none 0 0, []⟩) ps ∧
    Moved w ((w.setCell ⟨g, k * 2, none⟩ (.bool true)).setCell ⟨g, k * 2 + 1, none⟩ (.slice none 0 0)) b (.slice (some ⟨g, 0, none⟩) n c) u ks (.slice (some ⟨g, 0, none⟩) n c) u (ks.set k ⟨true, .slice none 0 0, []⟩) := by
  subst hn
  have hgv : (Value.slice (some ⟨g, 0, none⟩) ks.length c).ownBlock = some g := rfl
  have old : ∀ x, x ≠ g → ((w.setCell ⟨g, k * 2, none⟩ (.bool true)).setCell ⟨g, k * 2 + 1, none⟩ (.slice none 0 0)).heap[x]? = w.heap[x]? := fun x h1 => by rw [set_other h1, set_other h1]
  have hap := h.ap.texts (q := ⟨true, .slice none 0 0, []⟩) h.lt hk (.inr fun x e => by cases e)
  refine ⟨⟨(old b fun e => h.ap.bv (by rw [hgv, e])).trans h.blk, ?_, ?_, fun r hr => ?_, hap⟩, ⟨rfl, rfl, rfl, by rw [set_size, set_size]; exact Nat.le_refl _, fun x _ hn => old x fun e => hn (.v (by rw [hgv, e])), ?_⟩⟩
  · rw [List.length_set, bun_set]; exact own_set (own_set h.krow _ _) _ _
  · exact ownsRow_block h.prow fun x hx => old x fun e => h.ap.vu x (by rw [hgv, e]) hx
  · rcases List.mem_or_eq_of_mem_set hr with z | z
    · exact ownsRow_block (h.trow r z) fun x hx => old x fun e => h.ap.vt r z x hx (by rw [hgv, e])
    · subst z; exact World.ownsRow_nil _ _ _ _
  · rintro x (rfl | hx | hx | ⟨r, hr, hx⟩)
    · exact .inl (.inl rfl)
    · exact .inl (.v hx)
    · exact .inl (.u hx)
    · rcases List.mem_or_eq_of_mem_set hr with z | z
      · exact .inl (.t z hx)
      · subst z; cases hx
theorem key_no {k : Int} (h : ¬ (0 ≤ k ∧ k < (V.good.length : Int))) : st V k = 0 := st_none (by omega)
set_option maxHeartbeats 1000000 in
set_option maxRecDepth 100000 in
theorem v_destroy (h : OMem w0 w os) (hi : os[i]? = some (.vault b V)) (k : Int) :
    Calls Try.prog 19 #[.pointer (some ⟨b, 0, none⟩), .int .i64 k] w fun e w' => e = .returned (.int .i64 (destroy V k).1) ∧ OMem w0 w' (os.set i (.vault b (destroy V k).2)) := by
  obtain ⟨v, u, ks, ps, hc, hch⟩ := h.vault hi
  have c0 := hc.c0
  by_cases h0 : 0 ≤ k ∧ k < (V.good.length : Int)
  case neg =>
    obtain ⟨va, vc, rfl⟩ := hc.vform
    have HI := v_isKey c0 k
    rw [decide_eq_false h0] at HI
    have HI := Lib.hid HI
    have hd : destroy V k = (4, V) := by unfold destroy; rw [if_pos (key_no h0)]
    rw [hd, set_noop hi]
    clear hc hch hd h0
    go_enter Try.func19, Try.ntmps19
    go_wp2_with (go_at_call 28; refine (HI.out).mono ?_; rintro e w1 ⟨rfl, rfl⟩; refine Hid.out ?_)
    refine Lib.hid ?_
    go_wp2
    go_ret
    exact ⟨rfl, h⟩
  obtain ⟨k, rfl⟩ : ∃ m : Nat, k = (m : Int) := ⟨k.toNat, by omega⟩
  have hk : k < V.good.length := by omega
  obtain ⟨g, c, p, rfl, hp, hst, p0, p1, hz⟩ := hc.key hk
  have HI := v_isKey c0 k
  rw [decide_eq_true h0] at HI
  have HI := Lib.hid HI
  clear h0
  cases hg : p.gone with
  | true =>
    rw [hg] at p0 hst
    have hd : destroy V k = (5, V) := by unfold destroy; rw [hst]; rfl
    rw [hd, set_noop hi]
    clear hc hch hd hst hp
    go_enter Try.func19, Try.ntmps19
    go_wp2_with (go_at_call 28; refine (HI.out).mono ?_; rintro e w1 ⟨rfl, rfl⟩; refine Hid.out ?_)
    refine Lib.hid ?_
    go_wp2
    go_ret
    exact ⟨rfl, h⟩
  | false =>
    rw [hg] at p0 hst
    have hr := hc.rep.destroy hp hg
    obtain ⟨hm, hmv⟩ := hc.mc.wipe (hc.rep.keys).symm hp
    have HD := Lib.hid (hmv.done hch hm hr)
    have hd : (destroy V k).1 = 0 := by unfold destroy; rw [hst]; rfl
    rw [hd]
    have z0 := hz (k * 2)
    have z1 := hz (k * 2 + 1)
    clear hc hch hd hst hp hr hm hmv h hz
    go_enter Try.func19, Try.ntmps19
    go_wp2_with (go_at_call 28; refine (HI.out).mono ?_; rintro e w1 ⟨rfl, rfl⟩; refine Hid.out ?_)
    refine Lib.hid ?_
    go_wp2
    go_ret
    exact ⟨rfl, HD.out⟩

set_option maxHeartbeats 4000000 in
set_option maxRecDepth 100000 in
theorem v_lock (h : OMem w0 w os) (hi : os[i]? = some (.vault b V)) (k : Int) (s : ByteArray) (hs : s.size ≤ 281474976710656) (hn : V.boxes.length ≤ 100000) :
    Calls Try.prog 18 #[.pointer (some ⟨b, 0, none⟩), .int .i64 k, .string s] w fun e w' => e = .returned (.tuple #[.int .i64 (lock V k s).1.1, .int .i64 (lock V k s).1.2]) ∧ OMem w0 w' (os.set i (.vault b (lock V k s).2)) := by
  obtain ⟨v, u, ks, ps, hc, hch⟩ := h.vault hi
  have c0 := hc.c0
  by_cases h0 : 0 ≤ k ∧ k < (V.good.length : Int)
  case neg =>
    obtain ⟨va, vc, rfl⟩ := hc.vform
    have HI := v_isKey c0 k
    rw [decide_eq_false h0] at HI
    have HI := Lib.hid HI
    have hd : lock V k s = ((0, 4), V) := by unfold lock; rw [if_pos (key_no h0)]
    rw [hd, set_noop hi]
    clear hc hch hd h0
    go_enter Try.func18, Try.ntmps18
    go_wp2_with (go_at_call 28; refine (HI.out).mono ?_; rintro e w1 ⟨rfl, rfl⟩; refine Hid.out ?_)
    refine Lib.hid ?_
    go_wp2
    go_ret2
    exact ⟨rfl, h⟩
  obtain ⟨k, rfl⟩ : ∃ m : Nat, k = (m : Int) := ⟨k.toNat, by omega⟩
  have hk : k < V.good.length := by omega
  obtain ⟨g, c, p, rfl, hp, hst, p0, p1, hz⟩ := hc.key hk
  have HI := v_isKey c0 k
  rw [decide_eq_true h0] at HI
  have HI := Lib.hid HI
  clear h0
  cases hg : p.gone with
  | true =>
    rw [hg] at p0 hst
    have hd : lock V k s = ((0, 13), V) := by unfold lock; rw [hst]; rfl
    rw [hd, set_noop hi]
    clear hc hch hd hst hp
    go_enter Try.func18, Try.ntmps18
    go_wp2_with (go_at_call 28; refine (HI.out).mono ?_; rintro e w1 ⟨rfl, rfl⟩; refine Hid.out ?_)
    refine Lib.hid ?_
    go_wp2
    go_ret2
    exact ⟨rfl, h⟩
  | false =>
    rw [hg] at p0 hst
    have hpm := List.mem_of_getElem? hp
    have hkl := hc.rep.keys
    have hpl := hc.rep.places
    have hfew := hc.rep.few p hpm
    have hd : (lock V k s).1 = ((V.boxes.length : Int), 0) := by unfold lock; rw [hst]; rfl
    rw [hd]
    have hm0 := hc.mc.fresh (below_drew w)
    have hmv0 := Moved.fresh (b := b) (v := .slice (some ⟨g, 0, none⟩) V.good.length c) (u := u) (ks := ks) (below_drew w)
    have hba : Below w.drew.heap.size w.drew (w.drew.alloc (.cells #[.int .i64 (k : Int), .int .i64 (p.ts.length : Int)] 56)) := (Below.refl _ _).alloc (Nat.le_refl _) _
    have hq := (MapKept.heap_alloc w.drew (.cells #[.int .i64 (k : Int), .int .i64 (p.ts.length : Int)] 56)).1
    obtain ⟨u', w3, r1, ho1, hg1, hat1, ua', uc', hu'⟩ := run_push_pl _ u ps (k, p.ts.length) w.drew.heap.size (hm0.fresh hba).prow (by rw [Lib.cell_of_heap hq]; rfl) (by rw [Lib.cell_of_heap hq]; rfl) (by omega)
    obtain ⟨hm1, hmv1, e1, f1⟩ := hm0.place hba hg1 ho1 hat1
    obtain ⟨ta, tc, hpv⟩ := own_form (hc.trow p hpm)
    obtain ⟨ua, uc, hu⟩ := hc.uform
    rw [hpl] at hu'
    subst hu hu'
    have S0 : w.drew.cell? ⟨b, 1, none⟩ = some (.slice ua V.boxes.length uc) ∧ w.drew.cell? ⟨g, k * 2 + 1, none⟩ = some (.slice ta p.ts.length tc) := ⟨hm0.c1, p1.trans (by rw [hpv])⟩
    have S1 : (w.drew.alloc (.cells #[.int .i64 (k : Int), .int .i64 (p.ts.length : Int)] 56)).cell? ⟨b, 1, none⟩ = some (.slice ua V.boxes.length uc) ∧ (w.drew.alloc (.cells #[.int .i64 (k : Int), .int .i64 (p.ts.length : Int)] 56)).cell? ⟨g, k * 2 + 1, none⟩ = some (.slice ta p.ts.length tc) := ⟨below_cell S0.1 hba, below_cell S0.2 hba⟩
    have hk1 := bun_at hp
    have S2 : (w3.setCell ⟨b, 1, none⟩ (.slice ua' (V.boxes.length + 1) uc')).drew.cell? ⟨g, k * 2 + 1, none⟩ = some (.slice ta p.ts.length tc) := by
      have h1 := hm1.krow
      rw [hkl] at h1
      have := own_at h1 hk1.2
      rw [hpv] at this
      exact this
    have HP := Lib.hid r1
    have HM1 := Lib.hid (hm1.fresh (below_drew _))
    have HV1 := Lib.hid (((hmv0.trans hmv1).trans (Moved.fresh (below_drew _))))
    have HCH := Lib.hid hch
    have HPV := Lib.hid hpv
    have HKP := Lib.hid hp
    have HR := Lib.hid (fun t' => hc.rep.lock hp hg s t')
    clear hc hch hd hst hp hm0 hmv0 hba hq ho1 hg1 hat1 hm1 hmv1 hpv hk1 h hz r1
    go_enter Try.func18, Try.ntmps18
    go_wp2_with (go_at_call 28; refine (HI.out).mono ?_; rintro e w1 ⟨rfl, rfl⟩; refine Hid.out ?_)
    refine Lib.hid ?_
    go_wp2
    refine region_till 13 (fun w' => w'.cell? ⟨b, 1, none⟩ = some (.slice ua V.boxes.length uc) ∧ w'.cell? ⟨g, k * 2 + 1, none⟩ = some (.slice ta p.ts.length tc)) (by kernel_rfl) ?_
    refine till_take 0 16 false (v := ?v0) (by kernel_rfl) (by kernel_rfl) (by kernel_rfl) (by kernel_rfl) (by kernel_rfl) (fun _ _ _ h => h) ?hw0 S0 ?hy0 ?rest0
    case hw0 => (simp only [List.getElem?_toArray, List.getElem?_cons_zero, Option.elim]; rfl)
    case hy0 => (simp only [List.getElem?_toArray, List.getElem?_cons_zero, Option.elim]; intro wx _; go_simp; with_reducible rfl)
    simp only [dstOf, List.getElem?_toArray, List.getElem?_cons_zero, Option.bind, Act.put, List.setIfInBounds_toArray, List.set_cons_zero, List.set_cons_succ]
    refine till_take 1 16 false (v := ?v1) (by kernel_rfl) (by kernel_rfl) (by kernel_rfl) (by kernel_rfl) (by kernel_rfl) (fun _ _ _ h => h) ?hw1 S0 ?hy1 ?rest1
    case hw1 => (simp only [List.getElem?_toArray, List.getElem?_cons_zero, List.getElem?_cons_succ, Option.elim]; rfl)
    case hy1 => (simp only [List.getElem?_toArray, List.getElem?_cons_zero, List.getElem?_cons_succ, Option.elim]; intro wx _; go_simp; with_reducible rfl)
    simp only [dstOf, List.getElem?_toArray, List.getElem?_cons_zero, List.getElem?_cons_succ, Option.bind, Act.put, List.setIfInBounds_toArray, List.set_cons_zero, List.set_cons_succ]
    refine till_take 2 16 false (v := ?v2) (by kernel_rfl) (by kernel_rfl) (by kernel_rfl) (by kernel_rfl) (by kernel_rfl) (fun _ _ _ h => h) ?hw2 S0 ?hy2 ?rest2
    case hw2 => (simp only [List.getElem?_toArray, List.getElem?_cons_zero, List.getElem?_cons_succ, Option.elim]; rfl)
    case hy2 => (simp only [List.getElem?_toArray, List.getElem?_cons_zero, List.getElem?_cons_succ, Option.elim]; intro wx _; go_simp; with_reducible rfl)
    simp only [dstOf, List.getElem?_toArray, List.getElem?_cons_zero, List.getElem?_cons_succ, Option.bind, Act.put, List.setIfInBounds_toArray, List.set_cons_zero, List.set_cons_succ]
    refine till_take 3 16 false (v := ?v3) (by kernel_rfl) (by kernel_rfl) (by kernel_rfl) (by kernel_rfl) (by kernel_rfl) (fun _ _ _ h => h) ?hw3 S0 ?hy3 ?rest3
    case hw3 => (simp only [List.getElem?_toArray, List.getElem?_cons_zero, List.getElem?_cons_succ, Option.elim]; rfl)
    case hy3 => (simp only [List.getElem?_toArray, List.getElem?_cons_zero, List.getElem?_cons_succ, Option.elim]; intro wx _; go_simp; with_reducible rfl)
    simp only [dstOf, List.getElem?_toArray, List.getElem?_cons_zero, List.getElem?_cons_succ, Option.bind, Act.put, List.setIfInBounds_toArray, List.set_cons_zero, List.set_cons_succ]
    refine till_take 4 16 true (v := ?v4) (by kernel_rfl) (by kernel_rfl) (by kernel_rfl) (by kernel_rfl) (by kernel_rfl) (fun _ _ _ h => h) ?hw4 S0 ?hy4 ?rest4
    case hw4 => (simp only [List.getElem?_toArray, List.getElem?_cons_zero, List.getElem?_cons_succ, Option.elim]; rfl)
    case hy4 => (simp only [List.getElem?_toArray, List.getElem?_cons_zero, List.getElem?_cons_succ, Option.elim]; intro wx hx; have x0 := (hx trivial).1; have x1 := (hx trivial).2; go_simp; with_reducible rfl)
    simp only [dstOf, List.getElem?_toArray, List.getElem?_cons_zero, List.getElem?_cons_succ, Option.bind, Act.put, List.setIfInBounds_toArray, List.set_cons_zero, List.set_cons_succ]
    refine till_take 5 16 false (v := ?v5) (by kernel_rfl) (by kernel_rfl) (by kernel_rfl) (by kernel_rfl) (by kernel_rfl) (fun _ _ _ h => h) ?hw5 S0 ?hy5 ?rest5
    case hw5 => (simp only [List.getElem?_toArray, List.getElem?_cons_zero, List.getElem?_cons_succ, Option.elim]; rfl)
    case hy5 => (simp only [List.getElem?_toArray, List.getElem?_cons_zero, List.getElem?_cons_succ, Option.elim]; intro wx _; go_simp; with_reducible rfl)
    simp only [dstOf, List.getElem?_toArray, List.getElem?_cons_zero, List.getElem?_cons_succ, Option.bind, Act.put, List.setIfInBounds_toArray, List.set_cons_zero, List.set_cons_succ]
    refine till_take 6 16 false (v := ?v6) (by kernel_rfl) (by kernel_rfl) (by kernel_rfl) (by kernel_rfl) (by kernel_rfl) (fun _ _ _ h => h) ?hw6 S0 ?hy6 ?rest6
    case hw6 => (simp only [List.getElem?_toArray, List.getElem?_cons_zero, List.getElem?_cons_succ, Option.elim]; rfl)
    case hy6 => (simp only [List.getElem?_toArray, List.getElem?_cons_zero, List.getElem?_cons_succ, Option.elim]; intro wx _; go_simp; with_reducible rfl)
    simp only [dstOf, List.getElem?_toArray, List.getElem?_cons_zero, List.getElem?_cons_succ, Option.bind, Act.put, List.setIfInBounds_toArray, List.set_cons_zero, List.set_cons_succ]
    refine till_take 7 16 false (v := ?v7) (by kernel_rfl) (by kernel_rfl) (by kernel_rfl) (by kernel_rfl) (by kernel_rfl) (fun _ _ _ h => h) ?hw7 S0 ?hy7 ?rest7
    case hw7 => (simp only [List.getElem?_toArray, List.getElem?_cons_zero, List.getElem?_cons_succ, Option.elim]; rfl)
    case hy7 => (simp only [List.getElem?_toArray, List.getElem?_cons_zero, List.getElem?_cons_succ, Option.elim]; intro wx _; go_simp; with_reducible rfl)
    simp only [dstOf, List.getElem?_toArray, List.getElem?_cons_zero, List.getElem?_cons_succ, Option.bind, Act.put, List.setIfInBounds_toArray, List.set_cons_zero, List.set_cons_succ]
    refine till_take 8 16 false (v := ?v8) (by kernel_rfl) (by kernel_rfl) (by kernel_rfl) (by kernel_rfl) (by kernel_rfl) (fun _ _ _ h => h) ?hw8 S0 ?hy8 ?rest8
    case hw8 => (simp only [List.getElem?_toArray, List.getElem?_cons_zero, List.getElem?_cons_succ, Option.elim]; rfl)
    case hy8 => (simp only [List.getElem?_toArray, List.getElem?_cons_zero, List.getElem?_cons_succ, Option.elim]; intro wx _; go_simp; with_reducible rfl)
    simp only [dstOf, List.getElem?_toArray, List.getElem?_cons_zero, List.getElem?_cons_succ, Option.bind, Act.put, List.setIfInBounds_toArray, List.set_cons_zero, List.set_cons_succ]
    refine till_take 9 16 true (v := ?v9) (by kernel_rfl) (by kernel_rfl) (by kernel_rfl) (by kernel_rfl) (by kernel_rfl) (fun _ _ _ h => h) ?hw9 S0 ?hy9 ?rest9
    case hw9 => (simp only [List.getElem?_toArray, List.getElem?_cons_zero, List.getElem?_cons_succ, Option.elim]; rfl)
    case hy9 => (simp only [List.getElem?_toArray, List.getElem?_cons_zero, List.getElem?_cons_succ, Option.elim]; intro wx hx; have x0 := (hx trivial).1; have x1 := (hx trivial).2; go_simp; with_reducible rfl)
    simp only [dstOf, List.getElem?_toArray, List.getElem?_cons_zero, List.getElem?_cons_succ, Option.bind, Act.put, List.setIfInBounds_toArray, List.set_cons_zero, List.set_cons_succ]
    refine till_take 10 16 false (v := ?v10) (by kernel_rfl) (by kernel_rfl) (by kernel_rfl) (by kernel_rfl) (by kernel_rfl) (fun _ _ _ h => h) ?hw10 S0 ?hy10 ?rest10
    case hw10 => (simp only [List.getElem?_toArray, List.getElem?_cons_zero, List.getElem?_cons_succ, Option.elim]; rfl)
    case hy10 => (simp only [List.getElem?_toArray, List.getElem?_cons_zero, List.getElem?_cons_succ, Option.elim]; intro wx _; go_simp; with_reducible rfl)
    simp only [dstOf, List.getElem?_toArray, List.getElem?_cons_zero, List.getElem?_cons_succ, Option.bind, Act.put, List.setIfInBounds_toArray, List.set_cons_zero, List.set_cons_succ]
    refine till_take 11 16 false (v := ?v11) (by kernel_rfl) (by kernel_rfl) (by kernel_rfl) (by kernel_rfl) (by kernel_rfl) (fun _ _ _ h => h) ?hw11 S0 ?hy11 ?rest11
    case hw11 => (simp only [List.getElem?_toArray, List.getElem?_cons_zero, List.getElem?_cons_succ, Option.elim]; rfl)
    case hy11 => (simp only [List.getElem?_toArray, List.getElem?_cons_zero, List.getElem?_cons_succ, Option.elim]; intro wx _; go_simp; with_reducible rfl)
    simp only [dstOf, List.getElem?_toArray, List.getElem?_cons_zero, List.getElem?_cons_succ, Option.bind, Act.put, List.setIfInBounds_toArray, List.set_cons_zero, List.set_cons_succ]
    refine till_before 12 (by kernel_rfl) (fun K hK => ?_)
    simp only [List.getElem?_toArray, List.getElem?_cons_zero, List.getElem?_cons_succ, Option.elim]
    rw [if_pos (by rfl)]
    go_simp
    refine hK.out _ _ (S1) ?_
    clear hK K
    try simp only [Act.put, List.setIfInBounds_toArray, List.set_cons_zero, List.set_cons_succ]
    refine till_step 13 (by kernel_rfl) (by kernel_rfl) (fun K hK => ?_)
    simp only [List.getElem?_toArray, List.getElem?_cons_zero, List.getElem?_cons_succ, Option.elim]
    rw [if_pos (by rfl)]
    refine Lib.wp_append_run _ (.tmp 27) (.tmp 35) 52 52 rfl _ _ rfl rfl _ _ HP.out ?_
    refine hK.out _ _ ?_
    clear hK K
    try simp only [Act.put, List.setIfInBounds_toArray, List.set_cons_zero, List.set_cons_succ]
    refine till_late 14 (v := ?v14) (by kernel_rfl) (by kernel_rfl) (by kernel_rfl) (by kernel_rfl) (fun _ _ _ h => h) (by kernel_rfl) ?hw14 ?hy14 ?rest14
    case hw14 => (simp only [List.getElem?_toArray, List.getElem?_cons_zero, List.getElem?_cons_succ, Option.elim]; rfl)
    case hy14 => (simp only [List.getElem?_toArray, List.getElem?_cons_zero, List.getElem?_cons_succ, Option.elim]; intro wx; go_simp; with_reducible rfl)
    simp only [dstOf, List.getElem?_toArray, List.getElem?_cons_zero, List.getElem?_cons_succ, Option.bind, Act.put, List.setIfInBounds_toArray, List.set_cons_zero, List.set_cons_succ]
    refine till_late 15 (v := ?v15) (by kernel_rfl) (by kernel_rfl) (by kernel_rfl) (by kernel_rfl) (fun _ _ _ h => h) (by kernel_rfl) ?hw15 ?hy15 ?rest15
    case hw15 => (simp only [List.getElem?_toArray, List.getElem?_cons_zero, List.getElem?_cons_succ, Option.elim]; rfl)
    case hy15 => (simp only [List.getElem?_toArray, List.getElem?_cons_zero, List.getElem?_cons_succ, Option.elim]; intro wx; go_simp; with_reducible rfl)
    simp only [dstOf, List.getElem?_toArray, List.getElem?_cons_zero, List.getElem?_cons_succ, Option.bind, Act.put, List.setIfInBounds_toArray, List.set_cons_zero, List.set_cons_succ]
    refine till_step 16 (by kernel_rfl) (by kernel_rfl) (fun K hK => ?_)
    simp only [List.getElem?_toArray, List.getElem?_cons_zero, List.getElem?_cons_succ, Option.elim]
    rw [if_pos (by rfl)]
    go_simp
    refine hK.out _ _ ?_
    clear hK K
    try simp only [Act.put, List.setIfInBounds_toArray, List.set_cons_zero, List.set_cons_succ]
    refine till_end (by kernel_rfl) ?_ _
    clear S0 S1 HP
    have S0 := S2
    go_wp2
    refine region_till 8 (fun w' => w'.cell? ⟨g, k * 2 + 1, none⟩ = some (.slice ta p.ts.length tc)) (by kernel_rfl) ?_
    refine till_take 0 16 false (v := ?v0z) (by kernel_rfl) (by kernel_rfl) (by kernel_rfl) (by kernel_rfl) (by kernel_rfl) (fun _ _ _ h => h) ?hw0z S0 ?hy0z ?rest0z
    case hw0z => (simp only [List.getElem?_toArray, List.getElem?_cons_zero, Option.elim]; rfl)
    case hy0z => (simp only [List.getElem?_toArray, List.getElem?_cons_zero, Option.elim]; intro wx _; go_simp; with_reducible rfl)
    simp only [dstOf, List.getElem?_toArray, List.getElem?_cons_zero, Option.bind, Act.put, List.setIfInBounds_toArray, List.set_cons_zero, List.set_cons_succ]
    refine till_take 1 16 false (v := ?v1z) (by kernel_rfl) (by kernel_rfl) (by kernel_rfl) (by kernel_rfl) (by kernel_rfl) (fun _ _ _ h => h) ?hw1z S0 ?hy1z ?rest1z
    case hw1z => (simp only [List.getElem?_toArray, List.getElem?_cons_zero, List.getElem?_cons_succ, Option.elim]; rfl)
    case hy1z => (simp only [List.getElem?_toArray, List.getElem?_cons_zero, List.getElem?_cons_succ, Option.elim]; intro wx _; go_simp; with_reducible rfl)
    simp only [dstOf, List.getElem?_toArray, List.getElem?_cons_zero, List.getElem?_cons_succ, Option.bind, Act.put, List.setIfInBounds_toArray, List.set_cons_zero, List.set_cons_succ]
    refine till_take 2 16 false (v := ?v2z) (by kernel_rfl) (by kernel_rfl) (by kernel_rfl) (by kernel_rfl) (by kernel_rfl) (fun _ _ _ h => h) ?hw2z S0 ?hy2z ?rest2z
    case hw2z => (simp only [List.getElem?_toArray, List.getElem?_cons_zero, List.getElem?_cons_succ, Option.elim]; rfl)
    case hy2z => (simp only [List.getElem?_toArray, List.getElem?_cons_zero, List.getElem?_cons_succ, Option.elim]; intro wx _; go_simp; with_reducible rfl)
    simp only [dstOf, List.getElem?_toArray, List.getElem?_cons_zero, List.getElem?_cons_succ, Option.bind, Act.put, List.setIfInBounds_toArray, List.set_cons_zero, List.set_cons_succ]
    refine till_take 3 16 false (v := ?v3z) (by kernel_rfl) (by kernel_rfl) (by kernel_rfl) (by kernel_rfl) (by kernel_rfl) (fun _ _ _ h => h) ?hw3z S0 ?hy3z ?rest3z
    case hw3z => (simp only [List.getElem?_toArray, List.getElem?_cons_zero, List.getElem?_cons_succ, Option.elim]; rfl)
    case hy3z => (simp only [List.getElem?_toArray, List.getElem?_cons_zero, List.getElem?_cons_succ, Option.elim]; intro wx _; go_simp; with_reducible rfl)
    simp only [dstOf, List.getElem?_toArray, List.getElem?_cons_zero, List.getElem?_cons_succ, Option.bind, Act.put, List.setIfInBounds_toArray, List.set_cons_zero, List.set_cons_succ]
    refine till_take 4 16 true (v := ?v4z) (by kernel_rfl) (by kernel_rfl) (by kernel_rfl) (by kernel_rfl) (by kernel_rfl) (fun _ _ _ h => h) ?hw4z S0 ?hy4z ?rest4z
    case hw4z => (simp only [List.getElem?_toArray, List.getElem?_cons_zero, List.getElem?_cons_succ, Option.elim]; rfl)
    case hy4z => (simp only [List.getElem?_toArray, List.getElem?_cons_zero, List.getElem?_cons_succ, Option.elim]; intro wx hx; have x0 := hx trivial; go_simp; with_reducible rfl)
    simp only [dstOf, List.getElem?_toArray, List.getElem?_cons_zero, List.getElem?_cons_succ, Option.bind, Act.put, List.setIfInBounds_toArray, List.set_cons_zero, List.set_cons_succ]
    refine till_take 5 16 false (v := ?v5z) (by kernel_rfl) (by kernel_rfl) (by kernel_rfl) (by kernel_rfl) (by kernel_rfl) (fun _ _ _ h => h) ?hw5z S0 ?hy5z ?rest5z
    case hw5z => (simp only [List.getElem?_toArray, List.getElem?_cons_zero, List.getElem?_cons_succ, Option.elim]; rfl)
    case hy5z => (simp only [List.getElem?_toArray, List.getElem?_cons_zero, List.getElem?_cons_succ, Option.elim]; intro wx _; go_simp; with_reducible rfl)
    simp only [dstOf, List.getElem?_toArray, List.getElem?_cons_zero, List.getElem?_cons_succ, Option.bind, Act.put, List.setIfInBounds_toArray, List.set_cons_zero, List.set_cons_succ]
    refine till_before 6 (by kernel_rfl) (fun K hK => ?_)
    simp only [List.getElem?_toArray, List.getElem?_cons_zero, List.getElem?_cons_succ, Option.elim]
    rw [if_pos (by rfl)]
    go_simp
    go_at_call 24
    refine (clone_any _ hs _).mono ?_
    rintro e w5 ⟨rfl, hb5⟩
    refine hK.out _ _ (below_cell S2 hb5) ?_
    clear hK K
    try simp only [Act.put, List.setIfInBounds_toArray, List.set_cons_zero, List.set_cons_succ]
    have hm5 := HM1.out.fresh hb5
    have HV5 := Lib.hid (HV1.out.trans (Moved.fresh hb5))
    have hba : Below w5.heap.size w5 (w5.alloc (.cells #[.string s] 9)) := (Below.refl _ _).alloc (Nat.le_refl _) _
    have hq := (MapKept.heap_alloc w5 (.cells #[.string s] 9)).1
    obtain ⟨t', w7, r2, ho2, hg2, hat2, ta', tc', ht'⟩ := run_push_str p.v p.ts s _ w5.heap.size ((hm5.fresh hba).trow p hpm) (by rw [Lib.cell_of_heap hq]; rfl) (by omega)
    obtain ⟨hm7, hmv7, e7, f7⟩ := hm5.text hkl.symm HKP.out hba hg2 ho2 (hat2.imp_right fun e x hx => by have := e.symm.trans hx; simp at this; omega)
    rw [HPV.out] at r2 e7
    subst ht'
    have e8 := hm7.c1
    have HP := Lib.hid r2
    have HD := Lib.hid ((HV5.out.trans hmv7).done HCH.out hm7 (HR.out _))
    have S1 := below_cell S2 (hb5.trans (hba.mono hb5.size))
    clear hm5 hba hq ho2 hg2 hat2 hm7 hmv7 r2 hb5 S0
    refine till_before 7 (by kernel_rfl) (fun K hK => ?_)
    simp only [List.getElem?_toArray, List.getElem?_cons_zero, List.getElem?_cons_succ, Option.elim]
    rw [if_pos (by rfl)]
    go_simp
    refine hK.out _ _ (S1) ?_
    clear hK K
    try simp only [Act.put, List.setIfInBounds_toArray, List.set_cons_zero, List.set_cons_succ]
    refine till_step 8 (by kernel_rfl) (by kernel_rfl) (fun K hK => ?_)
    simp only [List.getElem?_toArray, List.getElem?_cons_zero, List.getElem?_cons_succ, Option.elim]
    rw [if_pos (by rfl)]
    refine Lib.wp_append_run _ (.tmp 43) (.tmp 46) 39 39 rfl _ _ rfl rfl _ _ HP.out ?_
    refine hK.out _ _ ?_
    clear hK K
    try simp only [Act.put, List.setIfInBounds_toArray, List.set_cons_zero, List.set_cons_succ]
    refine till_late 9 (v := ?v9z) (by kernel_rfl) (by kernel_rfl) (by kernel_rfl) (by kernel_rfl) (fun _ _ _ h => h) (by kernel_rfl) ?hw9z ?hy9z ?rest9z
    case hw9z => (simp only [List.getElem?_toArray, List.getElem?_cons_zero, List.getElem?_cons_succ, Option.elim]; rfl)
    case hy9z => (simp only [List.getElem?_toArray, List.getElem?_cons_zero, List.getElem?_cons_succ, Option.elim]; intro wx; go_simp; with_reducible rfl)
    simp only [dstOf, List.getElem?_toArray, List.getElem?_cons_zero, List.getElem?_cons_succ, Option.bind, Act.put, List.setIfInBounds_toArray, List.set_cons_zero, List.set_cons_succ]
    refine till_late 10 (v := ?v10z) (by kernel_rfl) (by kernel_rfl) (by kernel_rfl) (by kernel_rfl) (fun _ _ _ h => h) (by kernel_rfl) ?hw10z ?hy10z ?rest10z
    case hw10z => (simp only [List.getElem?_toArray, List.getElem?_cons_zero, List.getElem?_cons_succ, Option.elim]; rfl)
    case hy10z => (simp only [List.getElem?_toArray, List.getElem?_cons_zero, List.getElem?_cons_succ, Option.elim]; intro wx; go_simp; with_reducible rfl)
    simp only [dstOf, List.getElem?_toArray, List.getElem?_cons_zero, List.getElem?_cons_succ, Option.bind, Act.put, List.setIfInBounds_toArray, List.set_cons_zero, List.set_cons_succ]
    refine till_step 11 (by kernel_rfl) (by kernel_rfl) (fun K hK => ?_)
    simp only [List.getElem?_toArray, List.getElem?_cons_zero, List.getElem?_cons_succ, Option.elim]
    rw [if_pos (by rfl)]
    go_simp
    refine hK.out _ _ ?_
    clear hK K
    try simp only [Act.put, List.setIfInBounds_toArray, List.set_cons_zero, List.set_cons_succ]
    refine till_end (by kernel_rfl) ?_ _
    go_wp2
    go_ret2
    exact ⟨rfl, HD.out⟩
end
end Go.Proofs.Ytkicdfoncopklaa
