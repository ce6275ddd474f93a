/- Package vault: Copy. -/
import Derived.Test.YtkicdfoncopklaaVCopy
namespace Go.Proofs.Ytkicdfoncopklaa
open Go.RowKit Go.Maps Go.ChangeMaps Go.MapKept
open Vp
attribute [local go_sem ↓] Go.wp_at_zero Go.wp_at_succ

theorem Apart.add {b n : Nat} {v u : Value} {ks : List Bun} {q : Bun} (h : Apart b v u ks) (hlt : ∀ x, Its b v u ks x → x < n) (hq : ∀ x, q.v.ownBlock = some x → n ≤ x) : Apart b v u (ks ++ [q]) := by
  have h1 := h.push (q := ⟨false, .slice none 0 0, []⟩) (fun x e => by cases e)
  have h2 := h1.texts (n := n) (k := ks.length) (q := q) (fun x hx => by
    rcases hx with rfl | hx | hx | ⟨r, hr, hx⟩
    · exact hlt _ (.inl rfl)
    · exact hlt _ (.v hx)
    · exact hlt _ (.u hx)
    · rcases List.mem_append.1 hr with z | z
      · exact hlt _ (.t z hx)
      · simp at z; subst z; cases hx) (by rw [List.getElem?_append_right (Nat.le_refl _)]; simp; rfl) (.inr hq)
  simpa using h2
/-- A copy that is being made: the first keys have texts of their own. -/
structure Half (w wr : World) (b : Nat) (v u : Value) (cs rest : List Bun) (ps : List (Nat × Nat)) : Prop where
  blk : wr.heap[b]? = some (.cells #[v, u] 54 (0, 0))
  krow : wr.ownsRow 0 58 2 v (cs.length + rest.length) (bunVs (cs ++ rest))
  prow : wr.ownsRow 0 56 2 u ps.length (plVs ps)
  trow : ∀ p ∈ cs, wr.ownsRow 0 9 1 p.v p.ts.length (strVs p.ts)
  ap : Apart b v u cs
  new : ∀ x, Its b v u cs x → w.heap.size ≤ x
  below : Below w.heap.size w wr
section
variable {w0 w wr w1 : World} {os : List Ob} {i b g n c : Nat} {V : Vt} {v u t' : Value} {ks cs rest : List Bun} {ps : List (Nat × Nat)} {r : Bun}
theorem Half.lt (h : Half w wr b v u cs rest ps) (x : Nat) (hx : Its b v u cs x) : x < wr.heap.size := by
  rcases hx with rfl | hx | hx | ⟨p, hp, hx⟩
  · exact lt_heap h.blk
  · exact (h.krow.lt x hx).2
  · exact (h.prow.lt x hx).2
  · exact ((h.trow p hp).lt x hx).2
theorem Half.fresh (h : Half w wr b v u cs rest ps) (hb : Below wr.heap.size wr w1) : Half w w1 b v u cs rest ps :=
  ⟨(hb.block b (h.lt b (.inl rfl))).trans h.blk, ownsRow_block h.krow fun x hx => hb.block x (h.lt x (.v hx)), ownsRow_block h.prow fun x hx => hb.block x (h.lt x (.u hx)),
    fun p hp => ownsRow_block (h.trow p hp) fun x hx => hb.block x (h.lt x (.t hp hx)), h.ap, h.new, h.below.trans (hb.mono h.below.size)⟩
theorem Half.c0 (h : Half w wr b v u cs rest ps) : wr.cell? ⟨b, 0, none⟩ = some v := by rw [Lib.cell_of_heap h.blk]; rfl
/-- The next key gets texts of its own, in the world behind their making. -/
theorem Half.next (h : Half w wr b (.slice (some ⟨g, 0, none⟩) n c) u cs (r :: rest) ps) (hn : n = cs.length + (r :: rest).length) (hb : Below wr.heap.size wr w1) (ht : w1.ownsRow 0 9 1 t' r.ts.length (strVs r.ts)) (hf : ∀ x, t'.ownBlock = some x → wr.heap.size ≤ x) :
    Half w (w1.setCell ⟨g, cs.length * 2 + 1, none⟩ t') b (.slice (some ⟨g, 0, none⟩) n c) u (cs ++ [⟨r.gone, t', r.ts⟩]) rest ps := by
  subst hn
  have hz := h.below.size
  have hl := h.lt
  have h1 := h.fresh hb
  have hgv : (Value.slice (some ⟨g, 0, none⟩) (cs.length + (r :: rest).length) c).ownBlock = some g := rfl
  have hgl := hl g (.v hgv)
  have hgn := h.new g (.v hgv)
  have hap := h.ap.add (q := ⟨r.gone, t', r.ts⟩) hl hf
  have old : ∀ x, x ≠ g → (w1.setCell ⟨g, cs.length * 2 + 1, none⟩ t').heap[x]? = w1.heap[x]? := fun x hx => set_other hx
  refine ⟨(old b fun e => h.ap.bv (by rw [hgv, e])).trans h1.blk, ?_, ?_, ?_, hap, ?_, ?_⟩
  · have hr : (cs ++ r :: rest)[cs.length]? = some r := by simp
    have := own_set h1.krow (cs.length * 2 + 1) t'
    rw [← bun_set_v hr t' r.ts] at this
    simpa [Nat.add_assoc, Nat.add_comm 1] using this
  · exact ownsRow_block h1.prow fun x hx => old x fun e => h.ap.vu x (by rw [hgv, e]) hx
  · intro p hp
    rcases List.mem_append.1 hp with q | q
    · exact ownsRow_block (h1.trow p q) fun x hx => old x fun e => h.ap.vt p q x hx (by rw [hgv, e])
    · simp at q; subst q
      exact ownsRow_block ht fun x hx => old x fun e => by have := hf x hx; omega
  · rintro x (rfl | hx | hx | ⟨p, hp, hx⟩)
    · exact h.new _ (.inl rfl)
    · exact h.new _ (.v hx)
    · exact h.new _ (.u hx)
    · rcases List.mem_append.1 hp with q | q
      · exact h.new _ (.t q hx)
      · simp at q; subst q; have := hf x hx; omega
  · exact h1.below.setCell hgn _
theorem Half.done (h : Half w wr b v u cs [] ps) (ho : OMem w0 w os) (he : cs.map (fun p => (p.gone, p.ts)) = ks.map (fun p => (p.gone, p.ts))) (hr : Rep ks ps V) : OMem w0 wr (os ++ [.vault b V]) := by
  refine ho.vaultNew h.below ⟨h.blk, ?_, h.prow, h.trow, h.ap, hr.same he⟩ h.new
  simpa using h.krow
set_option maxHeartbeats 4000000 in
set_option maxRecDepth 100000 in
theorem v_copy (h : OMem w0 w os) (hi : os[i]? = some (.vault b V)) (hn : V.good.length ≤ 100000) (hm : V.boxes.length ≤ 100000) : Calls Try.prog 16 #[.pointer (some ⟨b, 0, none⟩)] w fun e w' => ∃ b', e = .returned (.pointer (some ⟨b', 0, none⟩)) ∧ OMem w0 w' (os ++ [.vault b' V]) := by
  obtain ⟨v, u, ks, ps, hc, _⟩ := h.vault hi
  have hkb : ks.length ≤ 100000 := by rw [hc.rep.keys]; exact hn
  have hpb : ps.length ≤ 100000 := by rw [hc.rep.places]; exact hm
  have hcd := hc.fresh (below_drew w)
  have S0 : w.drew.cell? ⟨b, 0, none⟩ = some v ∧ w.drew.cell? ⟨b, 1, none⟩ = some u := ⟨hcd.c0, hcd.c1⟩
  have HC1 := Lib.hid (cloneB v ks.length (bunVs ks) w.drew hcd.krow (oneCell_buns fun p hp => oneCell_own (hcd.trow p hp)) (by omega))
  have HC := Lib.hid hcd
  have H := Lib.hid h.drew
  clear h hc hcd
  go_enter Try.func16, Try.ntmps16
  go_wp2
  refine region_till 10 (fun w' => w'.cell? ⟨b, 0, none⟩ = some v ∧ w'.cell? ⟨b, 1, none⟩ = some u) (by kernel_rfl) ?_
  refine till_take 0 16 false (v := ?v0) (by kernel_rfl) (by kernel_rfl) (by kernel_rfl) (by kernel_rfl) (by kernel_rfl) (fun _ _ _ h => h) ?hw0 S0 ?hy0 ?rest0
  case hw0 => (simp only [List.getElem?_toArray, List.getElem?_cons_zero, Option.elim]; rfl)
  case hy0 => (simp only [List.getElem?_toArray, List.getElem?_cons_zero, Option.elim]; intro wx _; go_simp; with_reducible rfl)
  simp only [dstOf, List.getElem?_toArray, List.getElem?_cons_zero, Option.bind, Act.put, List.setIfInBounds_toArray, List.set_cons_zero, List.set_cons_succ]
  refine till_take 1 16 false (v := ?v1) (by kernel_rfl) (by kernel_rfl) (by kernel_rfl) (by kernel_rfl) (by kernel_rfl) (fun _ _ _ h => h) ?hw1 S0 ?hy1 ?rest1
  case hw1 => (simp only [List.getElem?_toArray, List.getElem?_cons_zero, List.getElem?_cons_succ, Option.elim]; rfl)
  case hy1 => (simp only [List.getElem?_toArray, List.getElem?_cons_zero, List.getElem?_cons_succ, Option.elim]; intro wx _; go_simp; with_reducible rfl)
  simp only [dstOf, List.getElem?_toArray, List.getElem?_cons_zero, List.getElem?_cons_succ, Option.bind, Act.put, List.setIfInBounds_toArray, List.set_cons_zero, List.set_cons_succ]
  refine till_take 2 16 false (v := ?v2) (by kernel_rfl) (by kernel_rfl) (by kernel_rfl) (by kernel_rfl) (by kernel_rfl) (fun _ _ _ h => h) ?hw2 S0 ?hy2 ?rest2
  case hw2 => (simp only [List.getElem?_toArray, List.getElem?_cons_zero, List.getElem?_cons_succ, Option.elim]; rfl)
  case hy2 => (simp only [List.getElem?_toArray, List.getElem?_cons_zero, List.getElem?_cons_succ, Option.elim]; intro wx _; go_simp; with_reducible rfl)
  simp only [dstOf, List.getElem?_toArray, List.getElem?_cons_zero, List.getElem?_cons_succ, Option.bind, Act.put, List.setIfInBounds_toArray, List.set_cons_zero, List.set_cons_succ]
  refine till_take 3 16 true (v := ?v3) (by kernel_rfl) (by kernel_rfl) (by kernel_rfl) (by kernel_rfl) (by kernel_rfl) (fun _ _ _ h => h) ?hw3 S0 ?hy3 ?rest3
  case hw3 => (simp only [List.getElem?_toArray, List.getElem?_cons_zero, List.getElem?_cons_succ, Option.elim]; rfl)
  case hy3 => (simp only [List.getElem?_toArray, List.getElem?_cons_zero, List.getElem?_cons_succ, Option.elim]; intro wx hx; have x0 := (hx trivial).1; have x1 := (hx trivial).2; go_simp; with_reducible rfl)
  simp only [dstOf, List.getElem?_toArray, List.getElem?_cons_zero, List.getElem?_cons_succ, Option.bind, Act.put, List.setIfInBounds_toArray, List.set_cons_zero, List.set_cons_succ]
  refine till_take 5 16 false (v := ?v5) (by kernel_rfl) (by kernel_rfl) (by kernel_rfl) (by kernel_rfl) (by kernel_rfl) (fun _ _ _ h => h) ?hw5 S0 ?hy5 ?rest5
  case hw5 => (simp only [List.getElem?_toArray, List.getElem?_cons_zero, List.getElem?_cons_succ, Option.elim]; rfl)
  case hy5 => (simp only [List.getElem?_toArray, List.getElem?_cons_zero, List.getElem?_cons_succ, Option.elim]; intro wx _; go_simp; with_reducible rfl)
  simp only [dstOf, List.getElem?_toArray, List.getElem?_cons_zero, List.getElem?_cons_succ, Option.bind, Act.put, List.setIfInBounds_toArray, List.set_cons_zero, List.set_cons_succ]
  refine till_take 6 16 false (v := ?v6) (by kernel_rfl) (by kernel_rfl) (by kernel_rfl) (by kernel_rfl) (by kernel_rfl) (fun _ _ _ h => h) ?hw6 S0 ?hy6 ?rest6
  case hw6 => (simp only [List.getElem?_toArray, List.getElem?_cons_zero, List.getElem?_cons_succ, Option.elim]; rfl)
  case hy6 => (simp only [List.getElem?_toArray, List.getElem?_cons_zero, List.getElem?_cons_succ, Option.elim]; intro wx _; go_simp; with_reducible rfl)
  simp only [dstOf, List.getElem?_toArray, List.getElem?_cons_zero, List.getElem?_cons_succ, Option.bind, Act.put, List.setIfInBounds_toArray, List.set_cons_zero, List.set_cons_succ]
  refine till_take 7 16 false (v := ?v7) (by kernel_rfl) (by kernel_rfl) (by kernel_rfl) (by kernel_rfl) (by kernel_rfl) (fun _ _ _ h => h) ?hw7 S0 ?hy7 ?rest7
  case hw7 => (simp only [List.getElem?_toArray, List.getElem?_cons_zero, List.getElem?_cons_succ, Option.elim]; rfl)
  case hy7 => (simp only [List.getElem?_toArray, List.getElem?_cons_zero, List.getElem?_cons_succ, Option.elim]; intro wx _; go_simp; with_reducible rfl)
  simp only [dstOf, List.getElem?_toArray, List.getElem?_cons_zero, List.getElem?_cons_succ, Option.bind, Act.put, List.setIfInBounds_toArray, List.set_cons_zero, List.set_cons_succ]
  refine till_take 8 16 true (v := ?v8) (by kernel_rfl) (by kernel_rfl) (by kernel_rfl) (by kernel_rfl) (by kernel_rfl) (fun _ _ _ h => h) ?hw8 S0 ?hy8 ?rest8
  case hw8 => (simp only [List.getElem?_toArray, List.getElem?_cons_zero, List.getElem?_cons_succ, Option.elim]; rfl)
  case hy8 => (simp only [List.getElem?_toArray, List.getElem?_cons_zero, List.getElem?_cons_succ, Option.elim]; intro wx hx; have x0 := (hx trivial).1; have x1 := (hx trivial).2; go_simp; with_reducible rfl)
  simp only [dstOf, List.getElem?_toArray, List.getElem?_cons_zero, List.getElem?_cons_succ, Option.bind, Act.put, List.setIfInBounds_toArray, List.set_cons_zero, List.set_cons_succ]
  refine till_before 4 (by kernel_rfl) (fun K hK => ?_)
  simp only [List.getElem?_toArray, List.getElem?_cons_zero, List.getElem?_cons_succ, Option.elim]
  rw [if_pos (by rfl)]
  go_simp
  go_at_call 25
  refine (HC1.out).mono ?_
  rintro e w1 ⟨kv, rfl, hk1, hb1⟩
  refine hK.out _ _ (And.intro (below_cell S0.1 hb1) (below_cell S0.2 hb1)) ?_
  clear hK K
  try simp only [Act.put, List.setIfInBounds_toArray, List.set_cons_zero, List.set_cons_succ]
  obtain ⟨ka, kc, hkv⟩ := own_form hk1.1
  subst hkv
  have T0 := And.intro (below_cell S0.1 hb1) (below_cell S0.2 hb1)
  have HC2 := Lib.hid (cloneP u ps.length (plVs ps) w1 (HC.out.fresh hb1).prow (oneCell_pls ps) (by omega))
  have HK := Lib.hid hk1
  have HB1 := Lib.hid hb1
  clear hk1 hb1 HC1 S0
  refine till_before 9 (by kernel_rfl) (fun K hK => ?_)
  simp only [List.getElem?_toArray, List.getElem?_cons_zero, List.getElem?_cons_succ, Option.elim]
  rw [if_pos (by rfl)]
  go_simp
  go_at_call 26
  refine (HC2.out).mono ?_
  rintro e w2 ⟨uv, rfl, hk2, hb2⟩
  refine hK.out _ _ (And.intro (below_cell T0.1 hb2) (below_cell T0.2 hb2)) ?_
  clear hK K
  try simp only [Act.put, List.setIfInBounds_toArray, List.set_cons_zero, List.set_cons_succ]
  obtain ⟨ua, uc, huv⟩ := own_form hk2.1
  subst huv
  have HP := Lib.hid hk2
  have HB2 := Lib.hid hb2
  clear hk2 hb2 HC2 T0
  refine till_step 10 (by kernel_rfl) (by kernel_rfl) (fun K hK => ?_)
  simp only [List.getElem?_toArray, List.getElem?_cons_zero, List.getElem?_cons_succ, Option.elim]
  rw [if_pos (by rfl)]
  go_simp
  refine hK.out _ _ ?_
  clear hK K
  try simp only [Act.put, List.setIfInBounds_toArray, List.set_cons_zero, List.set_cons_succ]
  refine till_step 11 (by kernel_rfl) (by kernel_rfl) (fun K hK => ?_)
  simp only [List.getElem?_toArray, List.getElem?_cons_zero, List.getElem?_cons_succ, Option.elim]
  rw [if_pos (by rfl)]
  go_simp
  refine hK.out _ _ ?_
  clear hK K
  try simp only [Act.put, List.setIfInBounds_toArray, List.set_cons_zero, List.set_cons_succ]
  refine till_step 12 (by kernel_rfl) (by kernel_rfl) (fun K hK => ?_)
  simp only [List.getElem?_toArray, List.getElem?_cons_zero, List.getElem?_cons_succ, Option.elim]
  rw [if_pos (by rfl)]
  go_simp
  refine hK.out _ _ ?_
  clear hK K
  try simp only [Act.put, List.setIfInBounds_toArray, List.set_cons_zero, List.set_cons_succ]
  refine till_end (by kernel_rfl) ?_ _
  have hh : Half w.drew (w2.alloc (.cells #[.slice ka ks.length kc, .slice ua ps.length uc] 54)) w2.heap.size (.slice ka ks.length kc) (.slice ua ps.length uc) [] ks ps := by
    have hb1 := HB1.out
    have hb2 := HB2.out
    have hs1 := hb1.size
    have hs2 := hb2.size
    have hba : Below w2.heap.size w2 (w2.alloc (.cells #[.slice ka ks.length kc, .slice ua ps.length uc] 54)) := (Below.refl _ _).alloc (Nat.le_refl _) _
    have hk := (HK.out.1.lt)
    have hk2 := ownsRow_block (w' := w2) HK.out.1 fun x hx => hb2.block x (hk x hx).2
    have hp2 := HP.out.1
    refine ⟨(MapKept.heap_alloc w2 _).1, ?_, ?_, fun p hp => (by cases hp), ⟨fun e => ?_, fun e => ?_, fun x e q => ?_, fun p hp => (by cases hp), fun p hp => (by cases hp), fun p hp => (by cases hp), fun i j p q hi => (by simp at hi)⟩, ?_, (hb1.trans (hb2.mono hs1)).trans (hba.mono (by omega))⟩
    · have := ownsRow_block (w' := w2.alloc (.cells #[.slice ka ks.length kc, .slice ua ps.length uc] 54)) hk2 fun x hx => hba.block x (hk2.lt x hx).2
      simpa using this
    · exact ownsRow_block hp2 fun x hx => hba.block x (hp2.lt x hx).2
    · have := (hk2.lt _ e).2; omega
    · have := (hp2.lt _ e).2; omega
    · have h1 := HP.out.2 x q; have h2 := (hk x e).2; omega
    · rintro x (rfl | hx | hx | ⟨p, hp, _⟩)
      · omega
      · exact HK.out.2 x hx
      · have := HP.out.2 x hx; omega
      · cases hp
  clear HK HP HB1 HB2
  generalize w2.heap.size = bc at hh ⊢
  have HH := Lib.hid hh
  have c0 := hh.c0
  clear hh
  go_wp2
  go_loopw [22] (fun i wr => ∃ (k : Nat) (cs : List Bun), k ≤ ks.length ∧ i = .int .i64 k ∧ cs.map (fun p => (p.gone, p.ts)) = (ks.take k).map (fun p => (p.gone, p.ts)) ∧ Half w.drew wr bc (.slice ka ks.length kc) (.slice ua ps.length uc) cs (ks.drop k) ps) (fun i _ => ks.length - (intOf i).toNat)
  case atStart => exact ⟨0, [], Nat.zero_le _, rfl, rfl, HH.out⟩
  case round =>
    obtain ⟨k, cs, hk, rfl, he, hh⟩ := hrel
    clear HH c0
    have hcl : cs.length = k := by have := congrArg List.length he; simp at this; omega
    have HE := Lib.hid he
    by_cases hlt : k < ks.length
    · have hdr : ks.drop k = ks[k] :: ks.drop (k + 1) := (List.getElem_cons_drop hlt).symm
      have hkk : ks[k]? = some ks[k] := List.getElem?_eq_getElem hlt
      have HTK := Lib.hid (List.take_succ_eq_append_getElem hlt)
      have hmem := List.getElem_mem hlt
      generalize ks[k] = r at hdr hkk hmem HTK
      rw [hdr] at hh
      have hnn : ks.length = cs.length + (r :: ks.drop (k + 1)).length := by rw [hcl, List.length_cons, List.length_drop]; omega
      have hkr := hh.krow
      rw [← hnn] at hkr
      obtain ⟨g, c, hv⟩ := own_some hkr (by omega)
      simp only [Value.slice.injEq] at hv
      obtain ⟨hv, -, -⟩ := hv
      subst hv
      have hfew := HC.out.rep.few r hmem
      have htr := HC.out.trow r hmem
      obtain ⟨ta, tc, hrv⟩ := own_form htr
      have hgot : (bunVs (cs ++ r :: ks.drop (k + 1)))[k * 2 + 1]? = some (.slice ta r.ts.length tc) := by rw [(bun_at (p := r) (by rw [List.getElem?_append_right (by omega), hcl]; simp)).2, hrv]
      have hcell := own_at hkr hgot
      have S0 : wr.drew.cell? ⟨bc, 0, none⟩ = some (.slice (some ⟨g, 0, none⟩) ks.length kc) ∧ wr.drew.cell? ⟨g, k * 2 + 1, none⟩ = some (.slice ta r.ts.length tc) := ⟨hh.c0, hcell⟩
      have HT := Lib.hid (cloneT (.slice ta r.ts.length tc) r.ts.length (strVs r.ts) wr.drew (by rw [← hrv]; exact ownsRow_block htr fun x hx => hh.below.block x (htr.lt x hx).2) (oneCell_strs _) (by omega))
      have HH := Lib.hid (hh.fresh (below_drew wr))
      have HN := Lib.hid hnn
      have HGOT := Lib.hid hgot
      have HCL := Lib.hid hcl
      clear he hh hdr hkk hkr htr hrv hgot hcell hnn hcl
      go_wp2
      refine region_till 16 (fun w' => w'.cell? ⟨bc, 0, none⟩ = some (.slice (some ⟨g, 0, none⟩) ks.length kc) ∧ w'.cell? ⟨g, k * 2 + 1, none⟩ = some (.slice ta r.ts.length tc)) (by kernel_rfl) ?_
      refine till_take 0 24 false (v := ?v0y) (by kernel_rfl) (by kernel_rfl) (by kernel_rfl) (by kernel_rfl) (by kernel_rfl) (fun _ _ _ h => h) ?hw0y S0 ?hy0y ?rest0y
      case hw0y => (simp only [List.getElem?_toArray, List.getElem?_cons_zero, Option.elim]; rfl)
      case hy0y => (simp only [List.getElem?_toArray, List.getElem?_cons_zero, Option.elim]; intro wx _; go_simp; with_reducible rfl)
      simp only [dstOf, List.getElem?_toArray, List.getElem?_cons_zero, Option.bind, Act.put, List.setIfInBounds_toArray, List.set_cons_zero, List.set_cons_succ]
      refine till_take 1 24 false (v := ?v1y) (by kernel_rfl) (by kernel_rfl) (by kernel_rfl) (by kernel_rfl) (by kernel_rfl) (fun _ _ _ h => h) ?hw1y S0 ?hy1y ?rest1y
      case hw1y => (simp only [List.getElem?_toArray, List.getElem?_cons_zero, List.getElem?_cons_succ, Option.elim]; rfl)
      case hy1y => (simp only [List.getElem?_toArray, List.getElem?_cons_zero, List.getElem?_cons_succ, Option.elim]; intro wx _; go_simp; with_reducible rfl)
      simp only [dstOf, List.getElem?_toArray, List.getElem?_cons_zero, List.getElem?_cons_succ, Option.bind, Act.put, List.setIfInBounds_toArray, List.set_cons_zero, List.set_cons_succ]
      refine till_take 2 24 false (v := ?v2y) (by kernel_rfl) (by kernel_rfl) (by kernel_rfl) (by kernel_rfl) (by kernel_rfl) (fun _ _ _ h => h) ?hw2y S0 ?hy2y ?rest2y
      case hw2y => (simp only [List.getElem?_toArray, List.getElem?_cons_zero, List.getElem?_cons_succ, Option.elim]; rfl)
      case hy2y => (simp only [List.getElem?_toArray, List.getElem?_cons_zero, List.getElem?_cons_succ, Option.elim]; intro wx _; go_simp; with_reducible rfl)
      simp only [dstOf, List.getElem?_toArray, List.getElem?_cons_zero, List.getElem?_cons_succ, Option.bind, Act.put, List.setIfInBounds_toArray, List.set_cons_zero, List.set_cons_succ]
      refine till_take 3 24 true (v := ?v3y) (by kernel_rfl) (by kernel_rfl) (by kernel_rfl) (by kernel_rfl) (by kernel_rfl) (fun _ _ _ h => h) ?hw3y S0 ?hy3y ?rest3y
      case hw3y => (simp only [List.getElem?_toArray, List.getElem?_cons_zero, List.getElem?_cons_succ, Option.elim]; rfl)
      case hy3y => (simp only [List.getElem?_toArray, List.getElem?_cons_zero, List.getElem?_cons_succ, Option.elim]; intro wx hx; have x0 := (hx trivial).1; have x1 := (hx trivial).2; go_simp; with_reducible rfl)
      simp only [dstOf, List.getElem?_toArray, List.getElem?_cons_zero, List.getElem?_cons_succ, Option.bind, Act.put, List.setIfInBounds_toArray, List.set_cons_zero, List.set_cons_succ]
      refine till_take 4 24 false (v := ?v4y) (by kernel_rfl) (by kernel_rfl) (by kernel_rfl) (by kernel_rfl) (by kernel_rfl) (fun _ _ _ h => h) ?hw4y S0 ?hy4y ?rest4y
      case hw4y => (simp only [List.getElem?_toArray, List.getElem?_cons_zero, List.getElem?_cons_succ, Option.elim]; rfl)
      case hy4y => (simp only [List.getElem?_toArray, List.getElem?_cons_zero, List.getElem?_cons_succ, Option.elim]; intro wx _; go_simp; with_reducible rfl)
      simp only [dstOf, List.getElem?_toArray, List.getElem?_cons_zero, List.getElem?_cons_succ, Option.bind, Act.put, List.setIfInBounds_toArray, List.set_cons_zero, List.set_cons_succ]
      refine till_take 5 24 false (v := ?v5y) (by kernel_rfl) (by kernel_rfl) (by kernel_rfl) (by kernel_rfl) (by kernel_rfl) (fun _ _ _ h => h) ?hw5y S0 ?hy5y ?rest5y
      case hw5y => (simp only [List.getElem?_toArray, List.getElem?_cons_zero, List.getElem?_cons_succ, Option.elim]; rfl)
      case hy5y => (simp only [List.getElem?_toArray, List.getElem?_cons_zero, List.getElem?_cons_succ, Option.elim]; intro wx _; go_simp; with_reducible rfl)
      simp only [dstOf, List.getElem?_toArray, List.getElem?_cons_zero, List.getElem?_cons_succ, Option.bind, Act.put, List.setIfInBounds_toArray, List.set_cons_zero, List.set_cons_succ]
      refine till_take 6 24 false (v := ?v6y) (by kernel_rfl) (by kernel_rfl) (by kernel_rfl) (by kernel_rfl) (by kernel_rfl) (fun _ _ _ h => h) ?hw6y S0 ?hy6y ?rest6y
      case hw6y => (simp only [List.getElem?_toArray, List.getElem?_cons_zero, List.getElem?_cons_succ, Option.elim]; rfl)
      case hy6y => (simp only [List.getElem?_toArray, List.getElem?_cons_zero, List.getElem?_cons_succ, Option.elim]; intro wx _; go_simp; with_reducible rfl)
      simp only [dstOf, List.getElem?_toArray, List.getElem?_cons_zero, List.getElem?_cons_succ, Option.bind, Act.put, List.setIfInBounds_toArray, List.set_cons_zero, List.set_cons_succ]
      refine till_take 7 24 false (v := ?v7y) (by kernel_rfl) (by kernel_rfl) (by kernel_rfl) (by kernel_rfl) (by kernel_rfl) (fun _ _ _ h => h) ?hw7y S0 ?hy7y ?rest7y
      case hw7y => (simp only [List.getElem?_toArray, List.getElem?_cons_zero, List.getElem?_cons_succ, Option.elim]; rfl)
      case hy7y => (simp only [List.getElem?_toArray, List.getElem?_cons_zero, List.getElem?_cons_succ, Option.elim]; intro wx _; go_simp; with_reducible rfl)
      simp only [dstOf, List.getElem?_toArray, List.getElem?_cons_zero, List.getElem?_cons_succ, Option.bind, Act.put, List.setIfInBounds_toArray, List.set_cons_zero, List.set_cons_succ]
      refine till_take 8 24 true (v := ?v8y) (by kernel_rfl) (by kernel_rfl) (by kernel_rfl) (by kernel_rfl) (by kernel_rfl) (fun _ _ _ h => h) ?hw8y S0 ?hy8y ?rest8y
      case hw8y => (simp only [List.getElem?_toArray, List.getElem?_cons_zero, List.getElem?_cons_succ, Option.elim]; rfl)
      case hy8y => (simp only [List.getElem?_toArray, List.getElem?_cons_zero, List.getElem?_cons_succ, Option.elim]; intro wx hx; have x0 := (hx trivial).1; have x1 := (hx trivial).2; go_simp; with_reducible rfl)
      simp only [dstOf, List.getElem?_toArray, List.getElem?_cons_zero, List.getElem?_cons_succ, Option.bind, Act.put, List.setIfInBounds_toArray, List.set_cons_zero, List.set_cons_succ]
      refine till_take 9 24 false (v := ?v9y) (by kernel_rfl) (by kernel_rfl) (by kernel_rfl) (by kernel_rfl) (by kernel_rfl) (fun _ _ _ h => h) ?hw9y S0 ?hy9y ?rest9y
      case hw9y => (simp only [List.getElem?_toArray, List.getElem?_cons_zero, List.getElem?_cons_succ, Option.elim]; rfl)
      case hy9y => (simp only [List.getElem?_toArray, List.getElem?_cons_zero, List.getElem?_cons_succ, Option.elim]; intro wx _; go_simp; with_reducible rfl)
      simp only [dstOf, List.getElem?_toArray, List.getElem?_cons_zero, List.getElem?_cons_succ, Option.bind, Act.put, List.setIfInBounds_toArray, List.set_cons_zero, List.set_cons_succ]
      refine till_take 10 24 false (v := ?v10y) (by kernel_rfl) (by kernel_rfl) (by kernel_rfl) (by kernel_rfl) (by kernel_rfl) (fun _ _ _ h => h) ?hw10y S0 ?hy10y ?rest10y
      case hw10y => (simp only [List.getElem?_toArray, List.getElem?_cons_zero, List.getElem?_cons_succ, Option.elim]; rfl)
      case hy10y => (simp only [List.getElem?_toArray, List.getElem?_cons_zero, List.getElem?_cons_succ, Option.elim]; intro wx _; go_simp; with_reducible rfl)
      simp only [dstOf, List.getElem?_toArray, List.getElem?_cons_zero, List.getElem?_cons_succ, Option.bind, Act.put, List.setIfInBounds_toArray, List.set_cons_zero, List.set_cons_succ]
      refine till_take 11 24 false (v := ?v11y) (by kernel_rfl) (by kernel_rfl) (by kernel_rfl) (by kernel_rfl) (by kernel_rfl) (fun _ _ _ h => h) ?hw11y S0 ?hy11y ?rest11y
      case hw11y => (simp only [List.getElem?_toArray, List.getElem?_cons_zero, List.getElem?_cons_succ, Option.elim]; rfl)
      case hy11y => (simp only [List.getElem?_toArray, List.getElem?_cons_zero, List.getElem?_cons_succ, Option.elim]; intro wx _; go_simp; with_reducible rfl)
      simp only [dstOf, List.getElem?_toArray, List.getElem?_cons_zero, List.getElem?_cons_succ, Option.bind, Act.put, List.setIfInBounds_toArray, List.set_cons_zero, List.set_cons_succ]
      refine till_take 12 24 true (v := ?v12y) (by kernel_rfl) (by kernel_rfl) (by kernel_rfl) (by kernel_rfl) (by kernel_rfl) (fun _ _ _ h => h) ?hw12y S0 ?hy12y ?rest12y
      case hw12y => (simp only [List.getElem?_toArray, List.getElem?_cons_zero, List.getElem?_cons_succ, Option.elim]; rfl)
      case hy12y => (simp only [List.getElem?_toArray, List.getElem?_cons_zero, List.getElem?_cons_succ, Option.elim]; intro wx hx; have x0 := (hx trivial).1; have x1 := (hx trivial).2; go_simp; with_reducible rfl)
      simp only [dstOf, List.getElem?_toArray, List.getElem?_cons_zero, List.getElem?_cons_succ, Option.bind, Act.put, List.setIfInBounds_toArray, List.set_cons_zero, List.set_cons_succ]
      refine till_before 13 (by kernel_rfl) (fun K hK => ?_)
      simp only [List.getElem?_toArray, List.getElem?_cons_zero, List.getElem?_cons_succ, Option.elim]
      rw [if_pos (by rfl)]
      go_simp
      go_at_call 27
      refine (HT.out).mono ?_
      rintro e w5 ⟨t', rfl, ht, hb5⟩
      refine hK.out _ _ (And.intro (below_cell S0.1 hb5) (below_cell S0.2 hb5)) ?_
      clear hK K
      try simp only [Act.put, List.setIfInBounds_toArray, List.set_cons_zero, List.set_cons_succ]
      obtain ⟨tb, td, htv⟩ := own_form ht.1
      subst htv
      have T0 := And.intro (below_cell S0.1 hb5) (below_cell S0.2 hb5)
      have e5 := T0.2
      have f5 := own_fz (by have := (HH.out.fresh hb5).krow; rw [← HN.out] at this; exact this) (k * 2 + 1)
      have hnx := HH.out.next HN.out hb5 ht.1 ht.2
      rw [HCL.out] at hnx
      have HX := Lib.hid hnx
      clear hnx ht hb5 HT S0
      have S0 := T0
      refine till_take 14 24 false (v := ?v14y) (by kernel_rfl) (by kernel_rfl) (by kernel_rfl) (by kernel_rfl) (by kernel_rfl) (fun _ _ _ h => h) ?hw14y S0 ?hy14y ?rest14y
      case hw14y => (simp only [List.getElem?_toArray, List.getElem?_cons_zero, List.getElem?_cons_succ, Option.elim]; rfl)
      case hy14y => (simp only [List.getElem?_toArray, List.getElem?_cons_zero, List.getElem?_cons_succ, Option.elim]; intro wx _; go_simp; with_reducible rfl)
      simp only [dstOf, List.getElem?_toArray, List.getElem?_cons_zero, List.getElem?_cons_succ, Option.bind, Act.put, List.setIfInBounds_toArray, List.set_cons_zero, List.set_cons_succ]
      refine till_take 15 24 false (v := ?v15y) (by kernel_rfl) (by kernel_rfl) (by kernel_rfl) (by kernel_rfl) (by kernel_rfl) (fun _ _ _ h => h) ?hw15y S0 ?hy15y ?rest15y
      case hw15y => (simp only [List.getElem?_toArray, List.getElem?_cons_zero, List.getElem?_cons_succ, Option.elim]; rfl)
      case hy15y => (simp only [List.getElem?_toArray, List.getElem?_cons_zero, List.getElem?_cons_succ, Option.elim]; intro wx _; go_simp; with_reducible rfl)
      simp only [dstOf, List.getElem?_toArray, List.getElem?_cons_zero, List.getElem?_cons_succ, Option.bind, Act.put, List.setIfInBounds_toArray, List.set_cons_zero, List.set_cons_succ]
      refine till_step 16 (by kernel_rfl) (by kernel_rfl) (fun K hK => ?_)
      simp only [List.getElem?_toArray, List.getElem?_cons_zero, List.getElem?_cons_succ, Option.elim]
      rw [if_pos (by rfl)]
      go_simp
      refine hK.out _ _ ?_
      clear hK K
      try simp only [Act.put, List.setIfInBounds_toArray, List.set_cons_zero, List.set_cons_succ]
      refine till_end (by kernel_rfl) ?_ _
      go_wp2
      go_roundw
      case rel => exact ⟨k + 1, cs ++ [⟨r.gone, _, r.ts⟩], by omega, by go_num, by rw [HTK.out, List.map_append, List.map_append, HE.out]; rfl, HX.out⟩
      case measure => simp [intOf]; omega
    · obtain rfl : k = ks.length := by omega
      rw [List.drop_length] at hh
      rw [List.take_length] at he
      have HD := Lib.hid (hh.done H.out he HC.out.rep)
      clear hh he HE
      go_wp2
      go_ret
      exact ⟨_, rfl, HD.out⟩
end
end Go.Proofs.Ytkicdfoncopklaa
