/- Copy: what holds while the files are copied. -/
import Derived.Test.YtjbcgahdiolhhaaDoorDNew
namespace Go.Proofs.YtjbcgahdiolhhaaDoor.D2
open Go.RowKit Go.Maps Go.ChangeMaps Go.MapKept
open Dp

def copyMap (left : Lit → Bool) (g : Nat → Nat) (kl : Lit) : Option Value := if left kl = true then none else fileMap g kl

/-- One file of the copy. -/
structure FileAt (wr : World) (lab' : Nat → Nat) (id' : Nat) (D : Dk) (g : Nat → Nat) (nv dv : Nat → Value) (f : Nat) : Prop where
  blk : wr.heap[g f]? = some (.cells #[nv f, dv f] 67 (0, 0))
  now : wr.ownsRow 0 5 1 (nv f) (D.now f).length (byteVs (D.now f))
  dur : wr.ownsRow 0 5 1 (dv f) (D.dur f).length (byteVs (D.dur f))
  lg : lab' (g f) = id' + 5 + f
  ln : ∀ k, (nv f).ownBlock = some k → lab' k = id' + 21 + f
  ld : ∀ k, (dv f).ownBlock = some k → lab' k = id' + 37 + f

/-- The copy under way: the blocks from w's end on are the copy's struct, its map, the range's iterator, and what has been copied. -/
structure CopyIn (w : World) (lab : Nat → Nat) (id' : Nat) (D : Dk) (L : Loc) (left : Lit → Bool) (cnt : Nat) (wr : World) (lab' g : Nat → Nat) (nv dv : Nat → Value) (c : Nat) : Prop where
  lo : LabOk lab' wr
  labs : ∀ x, x < w.heap.size → lab' x = lab x
  fresh : ∀ x, w.heap.size ≤ x → lab' x = 0 ∨ (id' ≤ lab' x ∧ lab' x < id' + 64)
  below : Below w.heap.size w wr
  size : w.heap.size + 3 ≤ wr.heap.size
  lb : lab' w.heap.size = id'
  lf : lab' (w.heap.size + 1) = id' + 1
  lr : lab' (w.heap.size + 2) = 0
  blk : wr.heap[w.heap.size]? = some (.cells #[.map (some (w.heap.size + 1)), L.pv, .map (some L.mm), .bool D.down, .int .i64 (D.lost : Int), .int .i64 (D.calls : Int), L.kv] 64 (0, 0))
  files : MapIs Tryd.prog wr 3 (w.heap.size + 1) c (copyMap left g)
  cle : c + cnt ≤ 16
  rng : RangeIs Tryd.prog wr 3 L.fm (w.heap.size + 2) L.fc (fileMap L.g) left cnt
  hlm : ∀ kl, left kl = true → (fileMap L.g kl).isSome = true
  done : ∀ f : Nat, f < 16 → left (.int .i64 (f : Int)) = false → FileAt wr lab' id' D g nv dv f

def CopyInv (w : World) (lab : Nat → Nat) (id' : Nat) (D : Dk) (L : Loc) (left : Lit → Bool) (cnt : Nat) (wr : World) : Prop :=
  ∃ lab' g nv dv c, CopyIn w lab id' D L left cnt wr lab' g nv dv c

theorem FileAt.kept {wr w' : World} {lab' lab2 : Nat → Nat} {id' : Nat} {D : Dk} {g g2 : Nat → Nat} {nv dv nv2 dv2 : Nat → Value} {f : Nat} (h : FileAt wr lab' id' D g nv dv f) (hb : ∀ x, x < wr.heap.size → lab' x ≠ 0 → lab' x ≠ id' + 1 → w'.heap[x]? = wr.heap[x]?) (h64 : 64 ≤ id')
    (hl : ∀ x, x < wr.heap.size → lab2 x = lab' x) (hg : g2 f = g f) (hn : nv2 f = nv f) (hd : dv2 f = dv f) : FileAt w' lab2 id' D g2 nv2 dv2 f where
  blk := by rw [hg, hn, hd, hb _ (lt_heap h.blk) (by rw [h.lg]; omega) (by rw [h.lg]; omega)]; exact h.blk
  now := by rw [hn]; exact ownsRow_block h.now fun k hk => hb k (h.now.lt k hk).2 (by rw [h.ln k hk]; omega) (by rw [h.ln k hk]; omega)
  dur := by rw [hd]; exact ownsRow_block h.dur fun k hk => hb k (h.dur.lt k hk).2 (by rw [h.ld k hk]; omega) (by rw [h.ld k hk]; omega)
  lg := by rw [hg, hl _ (lt_heap h.blk)]; exact h.lg
  ln k hk := by rw [hn] at hk; rw [hl k (h.now.lt k hk).2]; exact h.ln k hk
  ld k hk := by rw [hd] at hk; rw [hl k (h.dur.lt k hk).2]; exact h.ld k hk

/-- The iterator has moved. -/
theorem CopyIn.step {w : World} {lab : Nat → Nat} {id' : Nat} {D : Dk} {L : Loc} {left : Lit → Bool} {cnt : Nat} {wr w1 : World} {lab' g : Nat → Nat} {nv dv : Nat → Value} {c : Nat} (h : CopyIn w lab id' D L left cnt wr lab' g nv dv c) (h64 : 64 ≤ id')
    (g1 : wr.grownBy w1 (some (w.heap.size + 2))) (hs : w1.heap.size = wr.heap.size) :
    Below w.heap.size w w1 ∧ MapIs Tryd.prog w1 3 (w.heap.size + 1) c (copyMap left g) ∧ w1.heap[w.heap.size]? = wr.heap[w.heap.size]? ∧ ∀ f : Nat, f < 16 → left (.int .i64 (f : Int)) = false → FileAt w1 lab' id' D g nv dv f := by
  have := h.size
  refine ⟨⟨g1.os.trans h.below.os, g1.tape.trans h.below.tape, g1.output.trans h.below.output, Nat.le_trans h.below.size (by omega), fun x hx => (g1.block x (by omega) (by simp; omega)).trans (h.below.block x hx)⟩, h.files.kept g1 (by simp), g1.block _ (by omega) (by simp), fun f hf hl => (h.done f hf hl).kept (fun x hx h0 _ => g1.block x hx (fun e => by cases e; exact h0 h.lr)) h64 (fun _ _ => rfl) rfl rfl rfl⟩

set_option maxRecDepth 100000 in
theorem copy_next {w : World} {lab : Nat → Nat} {id' : Nat} {D : Dk} {L : Loc} {left : Lit → Bool} {cnt cnt1 : Nat} {wr w1 w2 w3 : World} {lab' g : Nat → Nat} {nv dv : Nat → Value} {c : Nat} (h : CopyIn w lab id' D L left cnt wr lab' g nv dv c) (h64 : 64 ≤ id') {f : Nat} (hf : f < 16)
    (hlf : left (.int .i64 (f : Int)) = true) (g1 : wr.grownBy w1 (some (w.heap.size + 2))) (hs1 : w1.heap.size = wr.heap.size) (rg1 : RangeIs Tryd.prog w1 3 L.fm (w.heap.size + 2) L.fc (fileMap L.g) (fun z => left z && !z.sameKey (.int .i64 (f : Int))) cnt1) (hc : cnt1 < cnt) (hfmlt : L.fm < w.heap.size)
    {v1 v2 : Value} (f1 : FreshRow w1.drew w2 5 1 (D.now f).length (byteVs (D.now f)) v1) (b1 : Below w1.heap.size w1 w2) (f2 : FreshRow w2 w3 5 1 (D.dur f).length (byteVs (D.dur f)) v2) (b2 : Below w2.heap.size w2 w3) :
    ∃ w5, (Instr.mapUpdate 60 (.map (some (w.heap.size + 1))) (.int .i64 (f : Int)) (.pointer (some ⟨w3.heap.size, 0, none⟩))).run Tryd.prog (w3.alloc (.cells #[v1, v2] 67)) = .ok () w5 ∧ CopyInv w lab id' D L (fun z => left z && !z.sameKey (.int .i64 (f : Int))) cnt1 w5 ∧ (∀ x, x < w1.heap.size → x ≠ w.heap.size + 1 → w5.heap[x]? = w1.heap[x]?) := by
  obtain ⟨hb1, hm1, hblk1, hd1⟩ := h.step h64 g1 hs1
  have hz := h.size
  have q1 := b1.size
  have q2 := b2.size
  have hA : ∀ x, x < w1.heap.size → (w3.alloc (.cells #[v1, v2] 67)).heap[x]? = w1.heap[x]? := fun x hx => ((below_alloc w3 _).block x (by omega)).trans ((b2.block x (by omega)).trans (b1.block x hx))
  have hmA : MapIs Tryd.prog (w3.alloc (.cells #[v1, v2] 67)) 3 (w.heap.size + 1) c (copyMap left g) := hm1.block (hA _ (by omega))
  have hnone : copyMap left g (.int .i64 (f : Int)) = none := by unfold copyMap; rw [if_pos hlf]
  have hkey := keyI (x := (f : Int)) ⟨by omega, by omega⟩
  have hcl := h.cle
  obtain ⟨w5, hup, m5, g5⟩ := hmA.store (val := .pointer (some ⟨w3.heap.size, 0, none⟩)) lawI Tryd.underlying60 (by unfold maxLen; omega) hkey hnone
  have hs5 := update_size hmA lawI Tryd.underlying60 (by unfold maxLen; omega) hkey hup
  simp only [World.size_alloc] at hs5
  have h5 : ∀ x, x < w1.heap.size → x ≠ w.heap.size + 1 → w5.heap[x]? = w1.heap[x]? := fun x hx hne => (g5.block x (by simp; omega) (by simp; exact hne)).trans (hA x hx)
  have h53 : ∀ x, x < w3.heap.size → x ≠ w.heap.size + 1 → w5.heap[x]? = w3.heap[x]? := fun x hx hne => (g5.block x (by simp; omega) (by simp; exact hne)).trans ((below_alloc w3 _).block x hx)
  have h52 : ∀ x, x < w2.heap.size → x ≠ w.heap.size + 1 → w5.heap[x]? = w2.heap[x]? := fun x hx hne => (h53 x (by omega) hne).trans (b2.block x hx)
  refine ⟨w5, hup, ⟨fun x => if x < wr.heap.size then lab' x else if v1.ownBlock = some x then id' + 21 + f else if v2.ownBlock = some x then id' + 37 + f else if x = w3.heap.size then id' + 5 + f else 0, upd g f w3.heap.size, upd nv f v1, upd dv f v2, c + 1, ?_⟩, h5⟩
  have v1lt : ∀ k, v1.ownBlock = some k → w1.heap.size ≤ k ∧ k < w2.heap.size := fun k hk => ⟨f1.2 k hk, (f1.1.lt k hk).2⟩
  have v2lt : ∀ k, v2.ownBlock = some k → w2.heap.size ≤ k ∧ k < w3.heap.size := fun k hk => ⟨f2.2 k hk, (f2.1.lt k hk).2⟩
  refine ⟨fun x hx => ?_, fun x hx => ?_, fun x hx => ?_, ?_, by omega, ?_, ?_, ?_, ?_, m5.congr (fun kl => ?_) rfl, by omega, ?_, fun kl hkl => h.hlm kl (by simp at hkl; exact hkl.1), fun i hi hli => ?_⟩
  · rw [if_neg (by omega), if_neg (fun e => by have := v1lt x e; omega), if_neg (fun e => by have := v2lt x e; omega), if_neg (by omega)]
  · rw [if_pos (by omega)]; exact h.labs x hx
  · by_cases h1 : x < wr.heap.size
    · rw [if_pos h1]; exact h.fresh x hx
    · rw [if_neg h1]
      split
      · exact .inr (by omega)
      · split
        · exact .inr (by omega)
        · split
          · exact .inr (by omega)
          · exact .inl rfl
  · exact ⟨(g5.os.trans (below_alloc w3 _).os).trans (b2.os.trans (b1.os.trans hb1.os)), (g5.tape.trans (below_alloc w3 _).tape).trans (b2.tape.trans (b1.tape.trans hb1.tape)), (g5.output.trans (below_alloc w3 _).output).trans (b2.output.trans (b1.output.trans hb1.output)), by omega, fun x hx => (h5 x (by omega) (by omega)).trans (hb1.block x hx)⟩
  · rw [if_pos (by omega)]; exact h.lb
  · rw [if_pos (by omega)]; exact h.lf
  · rw [if_pos (by omega)]; exact h.lr
  · rw [h5 _ (by omega) (by omega), hblk1]; exact h.blk
  · unfold copyMap
    by_cases hk : kl = .int .i64 (f : Int)
    · subst hk
      rw [if_pos rfl, if_neg (by simp [sameKey_int])]
      show (if 0 ≤ (f : Int) ∧ (f : Int) < 16 then _ else none) = _
      rw [if_pos (by omega)]
      simp [upd_same]
    · rw [if_neg hk]
      have hsk : kl.sameKey (.int .i64 (f : Int)) = false := Maps.sameKey_ne hk
      simp only [hsk, Bool.not_false, Bool.and_true]
      split
      · rfl
      · unfold fileMap
        split
        · rename_i x
          split
          · rename_i hx
            rw [upd_other _ _ (fun e => hk (by congr 1; omega))]
          · rfl
        · rfl
  · refine rg1.kept ?_ ?_
    · exact h5 _ (by omega) (by omega)
    · exact h5 _ (by omega) (by omega)
  · by_cases hif : i = f
    · subst hif
      refine ⟨?_, ?_, ?_, ?_, fun k hk => ?_, fun k hk => ?_⟩
      · simp only [upd_same]
        rw [g5.block _ (by simp) (by simp; omega)]
        exact (MapKept.heap_alloc w3 _).1
      · simp only [upd_same]
        exact ownsRow_block f1.1 fun k hk => by have := v1lt k hk; exact h52 k (by omega) (by omega)
      · simp only [upd_same]
        exact ownsRow_block f2.1 fun k hk => by have := v2lt k hk; exact h53 k (by omega) (by omega)
      · simp only [upd_same]
        rw [if_neg (by omega), if_neg (fun e => by have := v1lt _ e; omega), if_neg (fun e => by have := v2lt _ e; omega), if_pos trivial]
      · simp only [upd_same] at hk
        have := v1lt k hk
        rw [if_neg (by omega), if_pos hk]
      · simp only [upd_same] at hk
        have := v2lt k hk
        rw [if_neg (by omega), if_neg (fun e => by have := v1lt _ e; omega), if_pos hk]
    · have hli' : left (.int .i64 (i : Int)) = false := by
        rw [sameKey_int] at hli
        have : ¬ ((i : Int) = (f : Int)) := by omega
        simpa [this] using hli
      refine (hd1 i hi hli').kept (fun x hx _ h1 => h5 x hx (fun e => h1 (by rw [e]; exact h.lf))) h64 (fun x hx => by rw [if_pos (by omega)]) (upd_other _ _ hif) (upd_other _ _ hif) (upd_other _ _ hif)
end Go.Proofs.YtjbcgahdiolhhaaDoor.D2
