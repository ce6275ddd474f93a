/- A vault's memory, step by step. -/
import Derived.Test.YtkicdfoncopklaaVOps2
namespace Go.Proofs.Ytkicdfoncopklaa
open Go.RowKit Go.Maps Go.ChangeMaps Go.MapKept
open Vp

/-- A vault's memory, without what it stands for. -/
structure MC (w : World) (b : Nat) (v u : Value) (ks : List Bun) (ps : List (Nat × Nat)) : Prop where
  blk : w.heap[b]? = some (.cells #[v, u] 54 (0, 0))
  krow : w.ownsRow 0 58 2 v ks.length (bunVs ks)
  prow : w.ownsRow 0 56 2 u ps.length (plVs ps)
  trow : ∀ p ∈ ks, w.ownsRow 0 9 1 p.v p.ts.length (strVs p.ts)
  ap : Apart b v u ks
/-- A step changes only the vault's blocks, and makes new ones. -/
structure Moved (w w' : World) (b : Nat) (v u : Value) (ks : List Bun) (v' u' : Value) (ks' : List Bun) : Prop where
  os : w'.os = w.os
  tape : w'.tape = w.tape
  output : w'.output = w.output
  size : w.heap.size ≤ w'.heap.size
  block : ∀ x, x < w.heap.size → ¬ Its b v u ks x → w'.heap[x]? = w.heap[x]?
  its : ∀ x, Its b v' u' ks' x → Its b v u ks x ∨ w.heap.size ≤ x
section
variable {w0 w w1 w2 w3 : World} {os : List Ob} {i b g n c k : Nat} {V V' : Vt} {v u v' u' v'' u'' t' : Value} {ks ks' ks'' : List Bun} {ps ps' : List (Nat × Nat)} {p : Bun} {q : Nat × Nat} {ts' : List ByteArray}
theorem VC.mc (h : VC w b V v u ks ps) : MC w b v u ks ps := ⟨h.blk, h.krow, h.prow, h.trow, h.ap⟩
theorem MC.vc (h : MC w b v u ks ps) (r : Rep ks ps V) : VC w b V v u ks ps := ⟨h.blk, h.krow, h.prow, h.trow, h.ap, r⟩
theorem MC.lt (h : MC w b v u ks ps) (x : Nat) (hx : Its b v u ks x) : x < w.heap.size := by
  rcases hx with rfl | hx | hx | ⟨p, hp, hx⟩
  · exact lt_heap h.blk
  · exact (h.krow.lt x hx).2
  · exact (h.prow.lt x hx).2
  · exact ((h.trow p hp).lt x hx).2
theorem MC.fresh (h : MC w b v u ks ps) (hb : Below w.heap.size w w1) : MC w1 b v u ks ps :=
  ⟨(hb.block b (h.lt b (.inl rfl))).trans h.blk, ownsRow_block h.krow fun x hx => hb.block x (h.lt x (.v hx)), ownsRow_block h.prow fun x hx => hb.block x (h.lt x (.u hx)),
    fun p hp => ownsRow_block (h.trow p hp) fun x hx => hb.block x (h.lt x (.t hp hx)), h.ap⟩
theorem MC.c0 (h : MC w b v u ks ps) : w.cell? ⟨b, 0, none⟩ = some v := by rw [Lib.cell_of_heap h.blk]; rfl
theorem MC.c1 (h : MC w b v u ks ps) : w.cell? ⟨b, 1, none⟩ = some u := by rw [Lib.cell_of_heap h.blk]; rfl
theorem Moved.fresh (hb : Below w.heap.size w w1) : Moved w w1 b v u ks v u ks := ⟨hb.os, hb.tape, hb.output, hb.size, fun x hx _ => hb.block x hx, fun _ hx => .inl hx⟩
theorem Moved.trans (h : Moved w w1 b v u ks v' u' ks') (h' : Moved w1 w2 b v' u' ks' v'' u'' ks'') : Moved w w2 b v u ks v'' u'' ks'' := by
  refine ⟨h'.os.trans h.os, h'.tape.trans h.tape, h'.output.trans h.output, Nat.le_trans h.size h'.size, fun x hx hn => ?_, fun x hx => ?_⟩
  · have := h.size
    refine (h'.block x (by omega) fun q => ?_).trans (h.block x hx hn)
    rcases h.its x q with z | z
    · exact hn z
    · omega
  · rcases h'.its x hx with z | z
    · exact h.its x z
    · exact .inr (Nat.le_trans h.size z)
theorem Moved.done (h : Moved w w1 b v u ks v' u' ks') (hch : Changes w0 w os i b v u ks) (hm : MC w1 b v' u' ks' ps') (r : Rep ks' ps' V') : OMem w0 w1 (os.set i (.vault b V')) :=
  hch w1 V' v' u' ks' ps' h.os h.tape h.output h.size h.block (hm.vc r) h.its
/-- A place goes onto its row. -/
theorem MC.place (h : MC w b v u ks ps) (hb : Below w.heap.size w w2) (hg : w2.grownBy w3 u.ownBlock) (ho : w3.ownsRow 0 56 2 u' (ps ++ [q]).length (plVs (ps ++ [q]))) (hat : u'.ownBlock = u.ownBlock ∨ u'.ownBlock = some w2.heap.size) :
    MC (w3.setCell ⟨b, 1, none⟩ u') b v u' ks (ps ++ [q]) ∧ Moved w (w3.setCell ⟨b, 1, none⟩ u') b v u ks v u' ks ∧ w3.cell? ⟨b, 1, none⟩ = some u ∧ w3.frozen? ⟨b, 1, none⟩ = false := by
  have hs := hb.size
  have hz : w.heap.size ≤ w3.heap.size := by have := hg.size; omega
  have hl := h.lt
  have hnew : u'.ownBlock = u.ownBlock ∨ ∀ x, u'.ownBlock = some x → w.heap.size ≤ x := hat.imp_right fun e x hx => by
    have := e.symm.trans hx; simp at this; omega
  have hap := h.ap.places hl hnew
  have old : ∀ x, x < w.heap.size → u.ownBlock ≠ some x → w3.heap[x]? = w.heap[x]? := fun x hx h2 => by
    rw [hg.block x (by omega) (fun e => h2 e.symm), hb.block x hx]
  have hbb := (old b (hl b (.inl rfl)) h.ap.bu).trans h.blk
  have old' : ∀ x, x < w.heap.size → x ≠ b → u.ownBlock ≠ some x → (w3.setCell ⟨b, 1, none⟩ u').heap[x]? = w.heap[x]? := fun x hx h1 h2 => by
    rw [set_other h1]; exact old x hx h2
  refine ⟨⟨set_heap hbb u', ?_, ?_, ?_, hap⟩, ⟨hg.os.trans hb.os, hg.tape.trans hb.tape, hg.output.trans hb.output, by rw [set_size]; exact hz, fun x hx hn => old' x hx (fun e => hn (.inl e)) (fun e => hn (.u e)), ?_⟩, by rw [Lib.cell_of_heap hbb]; rfl, Lib.frozen_of_heap hbb 1⟩
  · exact ownsRow_block h.krow fun x hx => old' x (hl x (.v hx)) (fun e => h.ap.bv (e ▸ hx)) (h.ap.vu x hx)
  · exact ownsRow_block ho fun x hx => set_other (fun e => hap.bu (by rw [hx]; exact congrArg some e))
  · exact fun p hp => ownsRow_block (h.trow p hp) fun x hx => old' x (hl x (.t hp hx)) (fun e => h.ap.bt p hp (e ▸ hx)) (h.ap.ut p hp x hx)
  · rintro x (rfl | hx | hx | ⟨p, hp, hx⟩)
    · exact .inl (.inl rfl)
    · exact .inl (.v hx)
    · exact hnew.imp (fun e => .u (e.symm.trans hx)) fun e => e x hx
    · exact .inl (.t hp hx)
/-- A key's texts grow. -/
theorem MC.text (h : MC w b (.slice (some ⟨g, 0, none⟩) n c) u ks ps) (hn : n = ks.length) (hk : ks[k]? = some p) (hb : Below w.heap.size w w2) (hg : w2.grownBy w3 p.v.ownBlock) (ho : w3.ownsRow 0 9 1 t' ts'.length (strVs ts')) (hat : t'.ownBlock = p.v.ownBlock ∨ ∀ x, t'.ownBlock = some x → w.heap.size ≤ x) :
    MC (w3.setCell ⟨g, k * 2 + 1, none⟩ t') b (.slice (some ⟨g, 0, none⟩) n c) u (ks.set k ⟨p.gone, t', ts'⟩) ps ∧ Moved w (w3.setCell ⟨g, k * 2 + 1, none⟩ t') b (.slice (some ⟨g, 0, none⟩) n c) u ks (.slice (some ⟨g, 0, none⟩) n c) u (ks.set k ⟨p.gone, t', ts'⟩) ∧
    w3.cell? ⟨g, k * 2 + 1, none⟩ = some p.v ∧ w3.frozen? ⟨g, k * 2 + 1, none⟩ = false := by
  subst hn
  have hs := hb.size
  have hz : w.heap.size ≤ w3.heap.size := by have := hg.size; omega
  have hl := h.lt
  have hm := List.mem_of_getElem? hk
  have hap := h.ap.texts (q := ⟨p.gone, t', ts'⟩) hl hk hat
  have hgv : (Value.slice (some ⟨g, 0, none⟩) ks.length c).ownBlock = some g := rfl
  have old : ∀ x, x < w.heap.size → p.v.ownBlock ≠ some x → w3.heap[x]? = w.heap[x]? := fun x hx h2 => by
    rw [hg.block x (by omega) (fun e => h2 e.symm), hb.block x hx]
  have hrow := ownsRow_block (w' := w3) h.krow fun x hx => old x (hl x (.v hx)) (fun e => h.ap.vt p hm x e hx)
  have old' : ∀ x, x < w.heap.size → x ≠ g → p.v.ownBlock ≠ some x → (w3.setCell ⟨g, k * 2 + 1, none⟩ t').heap[x]? = w.heap[x]? := fun x hx h1 h2 => by
    rw [set_other h1]; exact old x hx h2
  refine ⟨⟨?_, ?_, ?_, ?_, hap⟩, ⟨hg.os.trans hb.os, hg.tape.trans hb.tape, hg.output.trans hb.output, by rw [set_size]; exact hz, fun x hx hn => old' x hx (fun e => hn (.v (by rw [hgv, e]))) (fun e => hn (.t hm e)), ?_⟩, own_at hrow (bun_at hk).2, own_fz hrow _⟩
  · exact (old' b (hl b (.inl rfl)) (fun e => h.ap.bv (by rw [hgv, e])) (h.ap.bt p hm)).trans h.blk
  · rw [List.length_set, bun_set_v hk]; exact own_set hrow _ _
  · exact ownsRow_block h.prow fun x hx => old' x (hl x (.u hx)) (fun e => h.ap.vu x (by rw [hgv, e]) hx) (fun e => h.ap.ut p hm x e hx)
  · intro r hr
    obtain ⟨j, hj⟩ := List.mem_iff_getElem?.1 hr
    rw [List.getElem?_set] at hj
    split at hj
    · rw [if_pos (List.getElem?_eq_some_iff.1 hk).1] at hj
      cases hj
      exact ownsRow_block ho fun x hx => set_other (fun e => hap.vt _ (List.mem_set (List.getElem?_eq_some_iff.1 hk).1 _) x hx (by rw [hgv]; exact congrArg some e.symm))
    · rename_i hne
      have hr' := List.mem_of_getElem? hj
      exact ownsRow_block (h.trow r hr') fun x hx => old' x (hl x (.t hr' hx)) (fun e => h.ap.vt r hr' x hx (by rw [hgv, e])) (h.ap.tt j k r p hj hk (Ne.symm hne) x hx · )
  · rintro x (rfl | hx | hx | ⟨r, hr, hx⟩)
    · exact .inl (.inl rfl)
    · exact .inl (.v hx)
    · exact .inl (.u hx)
    · rcases List.mem_or_eq_of_mem_set hr with z | z
      · exact .inl (.t z hx)
      · subst z; exact hat.imp (fun e => .t hm (e.symm.trans hx)) fun e => e x hx
end
end Go.Proofs.Ytkicdfoncopklaa
