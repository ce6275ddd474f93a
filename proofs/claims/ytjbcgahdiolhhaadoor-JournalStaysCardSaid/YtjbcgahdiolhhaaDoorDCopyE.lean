/- Copy: the end. -/
import Derived.Test.YtjbcgahdiolhhaaDoorDCopyI
namespace Go.Proofs.YtjbcgahdiolhhaaDoor.D2
open Go.RowKit Go.Maps Go.ChangeMaps Go.MapKept
open Dp

theorem copy_end {w : World} {lab : Nat → Nat} {id b id' : Nat} {D : Dk} {L : Loc} (h : DiskIn w lab id b D D.pend L) (h64 : 64 ≤ id') {left : Lit → Bool} {cnt : Nat} {wr : World} {lab2 g2 : Nat → Nat} {nv2 dv2 : Nat → Value} {cc : Nat}
    (hi : CopyIn w lab id' D L left cnt wr lab2 g2 nv2 dv2 cc) (hl0 : ∀ kl, left kl = false) {wA wC : World} {vp vk : Value} {es : Array MapEntry} {clock : Nat}
    (bA : Below wr.heap.size wr wA) (fA : FreshRow wr wA 78 2 D.pend.length (secVs D.pend) vp) (hes : w.heap[L.mm]? = some (.map es clock))
    (bC : Below (((wA.setCell ⟨w.heap.size, 1, none⟩ vp).alloc (.map es clock)).setCell ⟨w.heap.size, 2, none⟩ (.map (some wA.heap.size))).heap.size (((wA.setCell ⟨w.heap.size, 1, none⟩ vp).alloc (.map es clock)).setCell ⟨w.heap.size, 2, none⟩ (.map (some wA.heap.size))) wC)
    (fC : FreshRow (((wA.setCell ⟨w.heap.size, 1, none⟩ vp).alloc (.map es clock)).setCell ⟨w.heap.size, 2, none⟩ (.map (some wA.heap.size))) wC 3 1 D.keep.length (intVs D.keep) vk) :
    ∃ lab' L', DiskIn (wC.setCell ⟨w.heap.size, 6, none⟩ vk) lab' id' w.heap.size D D.pend L' ∧ Chg id' lab lab' w (wC.setCell ⟨w.heap.size, 6, none⟩ vk) := by
  have hz := hi.size
  have qA := bA.size
  have hsB : (((wA.setCell ⟨w.heap.size, 1, none⟩ vp).alloc (.map es clock)).setCell ⟨w.heap.size, 2, none⟩ (.map (some wA.heap.size))).heap.size = wA.heap.size + 1 := by rw [set_size]; simp
  have qC := bC.size
  rw [hsB] at qC bC
  have vplt : ∀ k, vp.ownBlock = some k → wr.heap.size ≤ k ∧ k < wA.heap.size := fun k hk => ⟨fA.2 k hk, (fA.1.lt k hk).2⟩
  have vklt : ∀ k, vk.ownBlock = some k → wA.heap.size + 1 ≤ k ∧ k < wC.heap.size := fun k hk => ⟨by have := fC.2 k hk; omega, (fC.1.lt k hk).2⟩
  -- what stands
  have hAC : ∀ x, x < wA.heap.size → x ≠ w.heap.size → (wC.setCell ⟨w.heap.size, 6, none⟩ vk).heap[x]? = wA.heap[x]? := fun x hx hne => by
    rw [set_other hne, bC.block x (by omega), set_other hne, (below_alloc (wA.setCell ⟨w.heap.size, 1, none⟩ vp) _).block x (by rw [set_size]; omega), set_other hne]
  have hRC : ∀ x, x < wr.heap.size → x ≠ w.heap.size → (wC.setCell ⟨w.heap.size, 6, none⟩ vk).heap[x]? = wr.heap[x]? := fun x hx hne => (hAC x (by omega) hne).trans (bA.block x hx)
  have hCC : ∀ x, x < wC.heap.size → x ≠ w.heap.size → (wC.setCell ⟨w.heap.size, 6, none⟩ vk).heap[x]? = wC.heap[x]? := fun x _ hne => set_other hne
  have hmm : (wC.setCell ⟨w.heap.size, 6, none⟩ vk).heap[wA.heap.size]? = some (.map es clock) := by
    rw [set_other (by show wA.heap.size ≠ w.heap.size; omega), bC.block _ (by omega), set_other (by show wA.heap.size ≠ w.heap.size; omega)]
    have := (MapKept.heap_alloc (wA.setCell ⟨w.heap.size, 1, none⟩ vp) (.map es clock)).1
    rwa [set_size] at this
  have hblk : (wC.setCell ⟨w.heap.size, 6, none⟩ vk).heap[w.heap.size]? = some (.cells #[.map (some (w.heap.size + 1)), vp, .map (some wA.heap.size), .bool D.down, .int .i64 (D.lost : Int), .int .i64 (D.calls : Int), vk] 64 (0, 0)) := by
    have e1 : wA.heap[w.heap.size]? = _ := (bA.block _ (by omega)).trans hi.blk
    have e2 := set_heap (o := 1) e1 vp
    have e3 : ((wA.setCell ⟨w.heap.size, 1, none⟩ vp).alloc (.map es clock)).heap[w.heap.size]? = _ := ((below_alloc (wA.setCell ⟨w.heap.size, 1, none⟩ vp) (.map es clock)).block _ (by rw [set_size]; omega)).trans e2
    have e4 := set_heap (o := 2) e3 (.map (some wA.heap.size))
    have e5 : wC.heap[w.heap.size]? = _ := (bC.block _ (by omega)).trans e4
    rw [set_heap (o := 6) e5 vk]
    rfl
  refine ⟨fun x => if x < wr.heap.size then lab2 x else if vp.ownBlock = some x then id' + 3 else if x = wA.heap.size then id' + 2 else if vk.ownBlock = some x then id' + 4 else 0, { fm := w.heap.size + 1, fc := cc, mm := wA.heap.size, g := g2, pv := vp, kv := vk, nv := nv2, dv := dv2 }, ?_, ?_⟩
  · have hF := fun f hf => hi.done f hf (hl0 _)
    refine ⟨h.ok, fun x hx => ?_, h64, hblk, by have := hi.cle; show cc ≤ 16; omega, ?_, ?_, ?_, ?_, fun f hf => ?_, fun f hf => ?_, fun f hf => ?_, ?_, ?_, ?_, fun k hk => ?_, fun k hk => ?_, fun f hf => ?_, fun f hf k hk => ?_, fun f hf k hk => ?_⟩
    · rw [set_size] at hx
      rw [if_neg (by omega), if_neg (fun e => by have := vplt x e; omega), if_neg (by omega), if_neg (fun e => by have := vklt x e; omega)]
    · refine (hi.files.block (hRC _ (by omega) (by omega))).congr (fun kl => ?_) rfl
      unfold copyMap; rw [hl0]; simp
    · obtain ⟨Dm, ⟨es', clock', e1, F, e2, e3⟩, r⟩ := h.marks
      obtain ⟨rfl, rfl⟩ : es' = es ∧ clock' = clock := by rw [hes] at e1; cases e1; exact ⟨rfl, rfl⟩
      exact ⟨Dm, ⟨es', clock', hmm, F, e2, e3⟩, r⟩
    · exact ownsRow_block fA.1 fun k hk => by have := vplt k hk; exact hAC k (by omega) (by omega)
    · exact ownsRow_block fC.1 fun k hk => by have := vklt k hk; exact hCC k (by omega) (by omega)
    · have := hF f hf
      exact (hRC _ (lt_heap this.blk) (fun e => by have q := this.lg; rw [e, hi.lb] at q; omega)).trans this.blk
    · have q := (hF f hf).now
      exact ownsRow_block q fun k hk => hRC k (q.lt k hk).2 (fun e => by have q2 := (hF f hf).ln k hk; rw [e, hi.lb] at q2; omega)
    · have q := (hF f hf).dur
      exact ownsRow_block q fun k hk => hRC k (q.lt k hk).2 (fun e => by have q2 := (hF f hf).ld k hk; rw [e, hi.lb] at q2; omega)
    · rw [if_pos (by omega)]; exact hi.lb
    · show (if w.heap.size + 1 < wr.heap.size then _ else _) = _
      rw [if_pos (by omega)]; exact hi.lf
    · show (if wA.heap.size < wr.heap.size then lab2 wA.heap.size else if vp.ownBlock = some wA.heap.size then id' + 3 else if wA.heap.size = wA.heap.size then id' + 2 else _) = _
      rw [if_neg (by omega), if_neg (fun e => by have := vplt _ e; omega), if_pos rfl]
    · have := vplt k hk
      rw [if_neg (by omega), if_pos hk]
    · have := vklt k hk
      rw [if_neg (by omega), if_neg (fun e => by have := vplt _ e; omega), if_neg (by omega), if_pos hk]
    · have := hF f hf
      show (if g2 f < wr.heap.size then _ else _) = _
      rw [if_pos (lt_heap this.blk)]; exact this.lg
    · have q := hF f hf
      rw [if_pos (q.now.lt k hk).2]; exact q.ln k hk
    · have q := hF f hf
      rw [if_pos (q.dur.lt k hk).2]; exact q.ld k hk
  · have qB := below_alloc (wA.setCell ⟨w.heap.size, 1, none⟩ vp) (.map es clock)
    refine ⟨bC.os.trans (qB.os.trans (bA.os.trans hi.below.os)), bC.tape.trans (qB.tape.trans (bA.tape.trans hi.below.tape)), bC.output.trans (qB.output.trans (bA.output.trans hi.below.output)), by rw [set_size]; omega, fun x hx => ?_, fun x hx _ => (hRC x (by omega) (by omega)).trans (hi.below.block x hx), fun x hx => ?_⟩
    · rw [if_pos (by omega)]; exact hi.labs x hx
    · split
      · exact hi.fresh x hx
      · split
        · exact .inr (by omega)
        · split
          · exact .inr (by omega)
          · split
            · exact .inr (by omega)
            · exact .inl rfl
end Go.Proofs.YtjbcgahdiolhhaaDoor.D2
