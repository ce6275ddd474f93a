/- Objects in one memory: disks, journals and slices of the statements' own, each in blocks with labels of its own. -/
import Derived.Test.YtjbcgahdiolhhaaDoorDMem
import Derived.Test.YtjbcgahdiolhhaaDoorJRecs
import Derived.Test.YtjbcgahdiolhhaaDoorJPlain
namespace Go.Proofs.YtjbcgahdiolhhaaDoor.D2
open Go.RowKit Go.Maps Go.ChangeMaps Go.MapKept
open Dp Jp

/-- An object: how it lies in memory, and that it stays so while its blocks do. -/
structure Ob where
  In : World → (Nat → Nat) → Nat → Prop
  kept : ∀ {w w' : World} {lab lab' : Nat → Nat} {id : Nat}, In w lab id → LabOk lab' w' → (∀ x, x < w.heap.size → lab' x = lab x) → (∀ x, x < w.heap.size → id ≤ lab x → lab x < id + 64 → w'.heap[x]? = w.heap[x]?) → In w' lab' id
theorem Ob.other (o : Ob) {w w' : World} {lab lab' : Nat → Nat} {id id' : Nat} (h : o.In w lab id) (k : Chg id' lab lab' w w') (lo : LabOk lab' w') (hne : id' + 64 ≤ id ∨ id + 64 ≤ id') : o.In w' lab' id :=
  o.kept h lo k.labs fun x hx h1 h2 => k.block x hx (by omega)
theorem Ob.fresh (o : Ob) {w w' : World} {lab : Nat → Nat} {id : Nat} (h : o.In w lab id) (lo : LabOk lab w) (hb : Below w.heap.size w w') : o.In w' lab id :=
  o.kept h (fun x hx => lo x (Nat.le_trans hb.size hx)) (fun _ _ => rfl) fun x hx _ _ => hb.block x hx

/-! ### The objects -/
def Ob.disk (b : Nat) (D : Dk) : Ob where
  In w lab id := Dg w lab id b D
  kept := fun ⟨⟨L, h1⟩, h2⟩ lo hl hb => ⟨⟨L, h1.kept lo hl hb⟩, h2⟩
/-- A slice in a block of its own. -/
def Ob.own (e : TypeId) (v : Value) (xs : List Value) : Ob where
  In w lab id := w.ownsRow 0 e 1 v xs.length xs ∧ ∀ k, v.ownBlock = some k → lab k = id
  kept := fun {w w' lab lab' id} h lo hl hb => ⟨ownsRow_block h.1 fun k hk => hb k (h.1.lt k hk).2 (by rw [h.2 k hk]; omega) (by rw [h.2 k hk]; omega), fun k hk => (hl k (h.1.lt k hk).2).trans (h.2 k hk)⟩
structure JnIn (w : World) (lab : Nat → Nat) (id b d : Nat) (J : Jn) (v : Value) : Prop where
  blk : w.heap[b]? = some (.cells #[.pointer (some ⟨d, 0, none⟩), .int .i64 J.file, v, .int .i64 ((forms J.l).length : Int), .bool J.bad] 73 (0, 0))
  row : w.ownsRow 0 9 1 v J.l.length (strVs J.l)
  lb : lab b = id + 1
  lr : ∀ k, v.ownBlock = some k → lab k = id
  file : I64 J.file
  size : ((forms J.l).length : Int) ≤ 16777216
/-- A journal in block b whose disk lies in block d. -/
def Ob.jour (b d : Nat) (J : Jn) : Ob where
  In w lab id := ∃ v, JnIn w lab id b d J v
  kept := fun {w w' lab lab' id} ⟨v, h⟩ lo hl hb => ⟨v, by rw [hb b (lt_heap h.blk) (by rw [h.lb]; omega) (by rw [h.lb]; omega)]; exact h.blk,
    ownsRow_block h.row fun k hk => hb k (h.row.lt k hk).2 (by rw [h.lr k hk]; omega) (by rw [h.lr k hk]; omega), (hl b (lt_heap h.blk)).trans h.lb, fun k hk => (hl k (h.row.lt k hk).2).trans (h.lr k hk), h.file, h.size⟩

/-! ### One memory -/
structure OMemL (w0 w : World) (lab : Nat → Nat) (os : List Ob) : Prop where
  lo : LabOk lab w
  und : Under w0 w lab
  at_ : ∀ (i : Nat) (o : Ob), os[i]? = some o → o.In w lab (64 * (i + 1))
def OMem (w0 w : World) (os : List Ob) : Prop := ∃ lab, OMemL w0 w lab os
theorem OMemL.fresh {w0 w w' : World} {lab : Nat → Nat} {os : List Ob} (h : OMemL w0 w lab os) (hb : Below w.heap.size w w') : OMemL w0 w' lab os :=
  ⟨fun x hx => h.lo x (Nat.le_trans hb.size hx), h.und.fresh hb, fun i o hi => o.fresh (h.at_ i o hi) h.lo hb⟩
theorem OMemL.set {w0 w w' : World} {os : List Ob} {i : Nat} {o' : Ob} {lab lab' : Nat → Nat} (h : OMemL w0 w lab os) (g : o'.In w' lab' (64 * (i + 1))) (lo : LabOk lab' w') (k : Chg (64 * (i + 1)) lab lab' w w') : OMemL w0 w' lab' (os.set i o') := by
  refine ⟨lo, h.und.step k (by omega), fun j p hj => ?_⟩
  rw [List.getElem?_set] at hj
  split at hj
  · rename_i he
    subst he
    split at hj
    · cases hj; exact g
    · cases hj
  · exact p.other (h.at_ j p hj) k lo (by omega)
theorem OMemL.push {w0 w w' : World} {os : List Ob} {o' : Ob} {lab lab' : Nat → Nat} (h : OMemL w0 w lab os) (g : o'.In w' lab' (64 * (os.length + 1))) (lo : LabOk lab' w') (k : Chg (64 * (os.length + 1)) lab lab' w w') : OMemL w0 w' lab' (os ++ [o']) := by
  refine ⟨lo, h.und.step k (by omega), fun j p hj => ?_⟩
  rcases Nat.lt_or_ge j os.length with hl | hl
  · rw [List.getElem?_append_left hl] at hj
    exact p.other (h.at_ j p hj) k lo (by omega)
  · rw [List.getElem?_append_right hl] at hj
    have hz : j - os.length = 0 := by
      rcases Nat.eq_zero_or_pos (j - os.length) with h | h
      · exact h
      · rw [List.getElem?_eq_none (by simp; omega)] at hj; cases hj
    rw [hz] at hj
    obtain rfl : j = os.length := by omega
    simp at hj
    subst hj
    exact g
section
variable {w0 w w' : World} {os : List Ob} {i b : Nat} {D : Dk}
theorem OMem.start (w0 : World) : OMem w0 w0 [] := ⟨fun _ => 0, fun _ _ => rfl, Under.start w0, fun i p h => by simp at h⟩
theorem OMem.below (h : OMem w0 w os) : Below w0.heap.size w0 w := by obtain ⟨_, h⟩ := h; exact h.und.below
theorem OMem.fresh (h : OMem w0 w os) (hb : Below w.heap.size w w') : OMem w0 w' os := by obtain ⟨lab, h⟩ := h; exact ⟨lab, h.fresh hb⟩
theorem OMem.hp (h : OMem w0 w os) (hb : Hp w w') : OMem w0 w' os := h.fresh (hp_below hb)
theorem OMem.env (h : OMem w0 w os) (he : Env w0) : Env w := he.fresh h.below
theorem OMem.take (h : OMem w0 w os) (n : Nat) : OMem w0 w (os.take n) := by
  obtain ⟨lab, h⟩ := h
  exact ⟨lab, h.lo, h.und, fun i p hi => h.at_ i p (by rw [List.getElem?_take] at hi; split at hi; exact hi; cases hi)⟩
theorem OMem.good (h : OMem w0 w os) (hi : os[i]? = some (.disk b D)) : Good D := by
  obtain ⟨lab, h⟩ := h; exact (h.at_ i _ hi).good
/-- A slice in a new block. -/
theorem OMem.row (h : OMem w0 w os) (hb : Below w.heap.size w w') {e : TypeId} {v : Value} {xs : List Value} (hf : w'.ownsRow 0 e 1 v xs.length xs) (hn : ∀ k, v.ownBlock = some k → w.heap.size ≤ k) : OMem w0 w' (os ++ [.own e v xs]) := by
  obtain ⟨lab, h⟩ := h
  have lo : LabOk (relab lab w v (64 * (os.length + 1))) w' := fun x hx => by
    unfold relab
    rw [if_neg (by have := hb.size; omega), if_neg (fun q => by have := (hf.lt x q).2; omega)]
  refine ⟨relab lab w v (64 * (os.length + 1)), h.push ⟨hf, fun k hk => ?_⟩ lo ⟨hb.os, hb.tape, hb.output, hb.size, fun x hx => by simp [relab, hx], fun x hx _ => hb.block x hx, fun x hx => ?_⟩⟩
  · unfold relab
    rw [if_neg (by have := hn k hk; omega), if_pos hk]
  · unfold relab
    rw [if_neg (by omega)]
    split
    · exact .inr ⟨by omega, by omega⟩
    · exact .inl rfl
theorem OMem.nil (h : OMem w0 w os) (e : TypeId) : OMem w0 w (os ++ [.own e (.slice none 0 0) []]) := h.row (Below.refl _ _) (World.ownsRow_nil _ _ _ _) fun k hk => by cases hk
theorem OMem.at_row (h : OMem w0 w os) {e : TypeId} {v : Value} {xs : List Value} (hi : os[i]? = some (.own e v xs)) : w.ownsRow 0 e 1 v xs.length xs := by
  obtain ⟨lab, h⟩ := h; exact (h.at_ i _ hi).1
/-- A slice of the statement's own grows. -/
theorem OMem.grow (h : OMem w0 w os) {e : TypeId} {v v' : Value} {xs xs' : List Value} (hi : os[i]? = some (.own e v xs)) (g : w.grownBy w' v.ownBlock) (o : w'.ownsRow 0 e 1 v' xs'.length xs') (hloc : v'.ownBlock = v.ownBlock ∨ v'.ownBlock = some w.heap.size) : OMem w0 w' (os.set i (.own e v' xs')) := by
  obtain ⟨lab, h⟩ := h
  have hv := h.at_ i _ hi
  have hloc : v'.ownBlock = v.ownBlock ∨ ∀ k, v'.ownBlock = some k → w.heap.size ≤ k := hloc.imp_right fun q k hk => by rw [q] at hk; cases hk; exact Nat.le_refl _
  have lo : LabOk (relab lab w v' (64 * (i + 1))) w' := fun x hx => by
    unfold relab
    rw [if_neg (by have := g.size; omega), if_neg (fun q => by have := (o.lt x q).2; omega)]
  refine ⟨relab lab w v' (64 * (i + 1)), h.set ⟨o, relab_own (fun k hk => (hv.1.lt k hk).2) hv.2 hloc⟩ lo ⟨g.os, g.tape, g.output, g.size, fun x hx => by simp [relab, hx], fun x hx hl => g.block x hx (fun q => by have := hv.2 x q.symm; omega), fun x hx => ?_⟩⟩
  unfold relab
  rw [if_neg (by omega)]
  split
  · exact .inr ⟨by omega, by omega⟩
  · exact .inl rfl

/-! ### The disk's calls -/
/-- A call on the disk at place i: its result, and the disk behind it. -/
def OPost (w0 : World) (os : List Ob) (i b : Nat) (r : Value) (D' : Dk) (e : Ending) (w' : World) : Prop := e = .returned r ∧ OMem w0 w' (os.set i (.disk b D'))
theorem o_write (h : OMem w0 w os) (hi : os[i]? = some (.disk b D)) (f a : Int) (s : List UInt8) (hf : I64 f) (ha : I64 a) (hs : s.length ≤ 140737488355327) :
    Calls Tryd.prog 22 #[.pointer (some ⟨b, 0, none⟩), .int .i64 f, .int .i64 a, .string (bs s)] w (OPost w0 os i b (.int .i64 (D.write f a s).1) (D.write f a s).2) := by
  obtain ⟨lab, h⟩ := h
  exact (dg_write (h.at_ i _ hi) f a s hf ha hs).mono fun e w' ⟨he, lab', g, k⟩ => ⟨he, lab', h.set g g.lo k⟩
theorem o_sync (h : OMem w0 w os) (hi : os[i]? = some (.disk b D)) (f : Int) (hf : I64 f) :
    Calls Tryd.prog 34 #[.pointer (some ⟨b, 0, none⟩), .int .i64 f] w (OPost w0 os i b (.int .i64 (D.sync f).1) (D.sync f).2) := by
  obtain ⟨lab, h⟩ := h
  exact (dg_sync (h.at_ i _ hi) f hf).mono fun e w' ⟨he, lab', g, k⟩ => ⟨he, lab', h.set g g.lo k⟩
theorem o_truncate (h : OMem w0 w os) (hi : os[i]? = some (.disk b D)) (f n : Int) (hf : I64 f) (hn : I64 n) :
    Calls Tryd.prog 36 #[.pointer (some ⟨b, 0, none⟩), .int .i64 f, .int .i64 n] w (OPost w0 os i b (.int .i64 (D.truncate f n).1) (D.truncate f n).2) := by
  obtain ⟨lab, h⟩ := h
  exact (dg_truncate (h.at_ i _ hi) f n hf hn).mono fun e w' ⟨he, lab', g, k⟩ => ⟨he, lab', h.set g g.lo k⟩
theorem o_start (h : OMem w0 w os) (hi : os[i]? = some (.disk b D)) : Calls Tryd.prog 19 #[.pointer (some ⟨b, 0, none⟩)] w (OPost w0 os i b (.tuple #[]) D.start) := by
  obtain ⟨lab, h⟩ := h
  exact (dg_start (h.at_ i _ hi)).mono fun e w' ⟨he, lab', g, k⟩ => ⟨he, lab', h.set g g.lo k⟩
theorem o_lose (h : OMem w0 w os) (hi : os[i]? = some (.disk b D)) (n : Int) (hn : I64 n) : Calls Tryd.prog 11 #[.pointer (some ⟨b, 0, none⟩), .int .i64 n] w (OPost w0 os i b (.tuple #[]) (D.lose n)) := by
  obtain ⟨lab, h⟩ := h
  obtain ⟨⟨L, h1⟩, hg⟩ := h.at_ i _ hi
  exact (lose_any h1 n hn).mono fun e w' ⟨he, h2, k⟩ => ⟨he, lab, h.set (o' := .disk b (D.lose n)) ⟨⟨L, h2⟩, hg.of rfl rfl rfl⟩ h2.lo k⟩
theorem o_arm (h : OMem w0 w os) (hi : os[i]? = some (.disk b D)) (n : Int) (hn : I64 n) (v : Value) (ks : List Int) (hs : Nums w0 w v ks) (hl : ks.length ≤ 1000000) :
    Calls Tryd.prog 12 #[.pointer (some ⟨b, 0, none⟩), .int .i64 n, v] w (OPost w0 os i b (.tuple #[]) (D.arm n ks)) := by
  obtain ⟨lab, h⟩ := h
  exact (dg_arm (h.at_ i _ hi) n hn v ks hs.1 hs.2.1 hl).mono fun e w' ⟨he, lab', g, k⟩ => ⟨he, lab', h.set g g.lo k⟩
theorem o_crash (h : OMem w0 w os) (hi : os[i]? = some (.disk b D)) (v : Value) (ks : List Int) (hs : Nums w0 w v ks) (hl : ks.length ≤ 140737488355327) :
    Calls Tryd.prog 18 #[.pointer (some ⟨b, 0, none⟩), v] w (OPost w0 os i b (.tuple #[]) (D.crash ks)) := by
  obtain ⟨lab, h⟩ := h
  exact (dg_crash (h.at_ i _ hi) v ks hs.1 (fun ad n c hv hn => .inl (by rw [h.und.labs _ (hs.2.2 ad n c hv hn)]; omega)) hl).mono fun e w' ⟨he, lab', g, k⟩ => ⟨he, lab', h.set g g.lo k⟩
theorem o_size (h : OMem w0 w os) (hi : os[i]? = some (.disk b D)) (f : Int) (hf : I64 f) : Calls Tryd.prog 31 #[.pointer (some ⟨b, 0, none⟩), .int .i64 f] w fun e w' => e = .returned (.int .i64 (D.size f : Int)) ∧ w = w' := by
  obtain ⟨lab, h⟩ := h
  exact dg_size (h.at_ i _ hi) f hf
theorem o_read (h : OMem w0 w os) (hi : os[i]? = some (.disk b D)) (f a n : Int) (hf : I64 f) (ha : I64 a) (hn : I64 n) :
    Calls Tryd.prog 30 #[.pointer (some ⟨b, 0, none⟩), .int .i64 f, .int .i64 a, .int .i64 n] w fun e w' => e = .returned (.tuple #[.string (bs (D.read f a n).1), .int .i64 (D.read f a n).2]) ∧ OMem w0 w' os := by
  have hm := h
  obtain ⟨lab, h⟩ := h
  exact (dg_read (h.at_ i _ hi) f a n hf ha hn).mono fun e w' ⟨he, hp⟩ => ⟨he, hm.hp hp⟩
theorem o_new (h : OMem w0 w os) : Calls Tryd.prog 9 #[] w fun e w' => ∃ b, e = .returned (.pointer (some ⟨b, 0, none⟩)) ∧ OMem w0 w' (os ++ [.disk b new]) := by
  obtain ⟨lab, h⟩ := h
  exact (dg_new w lab (64 * (os.length + 1)) (by omega)).mono fun e w' ⟨b', he, lab', g, k⟩ => ⟨b', he, lab', h.push (o' := .disk b' new) g g.lo k⟩
end
end Go.Proofs.YtjbcgahdiolhhaaDoor.D2
