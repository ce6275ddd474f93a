/- A journal in memory: what its stores leave. -/
import Derived.Test.YtjbcgahdiolhhaaDoorJMem
namespace Go.Proofs.YtjbcgahdiolhhaaDoor.D2
open Go.RowKit Go.Maps Go.ChangeMaps Go.MapKept
open Dp Jp
attribute [local go_sem ↓] Go.wp_at_zero Go.wp_at_succ

section
variable {w0 w w1 w' : World} {lab : Nat → Nat} {os : List Ob} {i k id b d : Nat} {D : Dk} {J : Jn} {v : Value}
theorem JnIn.c (h : JnIn w lab id b d J v) (i : Nat) : w.cell? ⟨b, i, none⟩ = (#[.pointer (some ⟨d, 0, none⟩), .int .i64 J.file, v, .int .i64 ((forms J.l).length : Int), .bool J.bad] : Array Value)[i]? := by
  rw [Lib.cell_of_heap h.blk]
theorem JnIn.fz (h : JnIn w lab id b d J v) (i : Nat) : w.frozen? ⟨b, i, none⟩ = false := Lib.frozen_of_heap h.blk i
/-- What a walk reads of a journal. -/
structure JnC (w : World) (b d : Nat) (J : Jn) (v : Value) : Prop where
  c0 : w.cell? ⟨b, 0, none⟩ = some (.pointer (some ⟨d, 0, none⟩))
  c1 : w.cell? ⟨b, 1, none⟩ = some (.int .i64 J.file)
  c2 : w.cell? ⟨b, 2, none⟩ = some v
  c3 : w.cell? ⟨b, 3, none⟩ = some (.int .i64 ((forms J.l).length : Int))
  c4 : w.cell? ⟨b, 4, none⟩ = some (.bool J.bad)
  f : ∀ i, w.frozen? ⟨b, i, none⟩ = false
  row : w.ownsRow 0 9 1 v J.l.length (strVs J.l)
  file : I64 J.file
  size : ((forms J.l).length : Int) ≤ 16777216
  blk : w.heap[b]? = some (.cells #[.pointer (some ⟨d, 0, none⟩), .int .i64 J.file, v, .int .i64 ((forms J.l).length : Int), .bool J.bad] 73 (0, 0))
  apart : some b ≠ v.ownBlock
theorem JnIn.cells (h : JnIn w lab id b d J v) : JnC w b d J v := ⟨h.c 0, h.c 1, h.c 2, h.c 3, h.c 4, h.fz, h.row, h.file, h.size, h.blk, fun e => by have h1 := h.lr b e.symm; have h2 := h.lb; omega⟩
theorem JnC.of {w' : World} (h : JnC w b d J v) (blk : w'.heap[b]? = w.heap[b]?) (row : w'.ownsRow 0 9 1 v J.l.length (strVs J.l)) : JnC w' b d J v := by
  have hb := blk.trans h.blk
  exact ⟨by rw [Lib.cell_of_heap hb]; rfl, by rw [Lib.cell_of_heap hb]; rfl, by rw [Lib.cell_of_heap hb]; rfl, by rw [Lib.cell_of_heap hb]; rfl, by rw [Lib.cell_of_heap hb]; rfl, fun i => Lib.frozen_of_heap hb i, row, h.file, h.size, hb, h.apart⟩
theorem JnC.fresh {w' : World} (h : JnC w b d J v) (hb : Below w.heap.size w w') : JnC w' b d J v :=
  h.of (hb.block b (lt_heap h.blk)) (ownsRow_block h.row fun k hk => hb.block k (h.row.lt k hk).2)
theorem OMem.jour (h : OMem w0 w os) (hk : os[k]? = some (.jour b d J)) : ∃ v, JnC w b d J v := by
  obtain ⟨lab, h⟩ := h
  obtain ⟨v, hv⟩ := h.at_ k _ hk
  exact ⟨v, hv.cells⟩
theorem OMem.jbad (h : OMem w0 w os) (hk : os[k]? = some (.jour b d J)) (x : Bool) (hp : Hp (w.setCell ⟨b, 4, none⟩ (.bool x)) w') : OMem w0 w' (os.set k (.jour b d { J with bad := x })) := by
  obtain ⟨lab, h⟩ := h
  obtain ⟨v, hv⟩ := h.at_ k _ hk
  have hne : ∀ j, v.ownBlock = some j → j ≠ b := fun j hj e => by have h1 := hv.lr j hj; have h2 := hv.lb; rw [e] at h1; omega
  have lo : LabOk lab w' := fun y hy => h.lo y (by rw [hp.heap, set_size] at hy; exact hy)
  refine ⟨lab, h.set ⟨v, ?_, ?_, hv.lb, hv.lr, hv.file, hv.size⟩ lo (kept_set (id := 64 * (k + 1)) h.lo hv.lb hp |>.chg (by omega) (by omega))⟩
  · rw [hp.heap, set_heap hv.blk]; rfl
  · exact own_set (w1 := w) (w' := w') hv.row (fun e => hne _ e rfl) hp
theorem OMem.jgrow (h : OMem w0 w os) (hk : os[k]? = some (.jour b d J)) (hc : JnC w b d J v) {v' : Value} {l : List (List UInt8)} (g : w.grownBy w1 v.ownBlock) (o : w1.ownsRow 0 9 1 v' l.length (strVs l))
    (hloc : v'.ownBlock = v.ownBlock ∨ v'.ownBlock = some w.heap.size) (hsz : ((forms l).length : Int) ≤ 16777216) (hp : Hp ((w1.setCell ⟨b, 2, none⟩ v').setCell ⟨b, 3, none⟩ (.int .i64 ((forms l).length : Int))) w') :
    OMem w0 w' (os.set k (.jour b d { J with l := l })) := by
  obtain ⟨lab, h⟩ := h
  obtain ⟨u, hv⟩ := h.at_ k _ hk
  obtain rfl : v = u := by have h1 := hc.c2; rw [hv.c 2] at h1; simpa using h1.symm
  have hbl := lt_heap hv.blk
  have hne : ∀ j, v.ownBlock = some j → j ≠ b := fun j hj e => by have h1 := hv.lr j hj; have h2 := hv.lb; rw [e] at h1; omega
  have hloc2 : v'.ownBlock = v.ownBlock ∨ ∀ k, v'.ownBlock = some k → w.heap.size ≤ k := hloc.imp_right fun q k hk => by rw [q] at hk; cases hk; exact Nat.le_refl _
  have hne' : ∀ j, v'.ownBlock = some j → j ≠ b := fun j hj e => by
    rcases hloc2 with q | q
    · exact hne j (q.symm.trans hj) e
    · have := q j hj; omega
  have hs1 := g.size
  have hs2 : w'.heap.size = w1.heap.size := by rw [hp.heap, set_size, set_size]
  have hb1 : w1.heap[b]? = _ := (g.block b hbl (fun e => hne b e.symm rfl)).trans hv.blk
  have hrel := relab_own (lab := lab) (w := w) (c2 := 64 * (k + 1)) (fun j hj => (hv.row.lt j hj).2) hv.lr hloc2
  have lo : LabOk (relab lab w v' (64 * (k + 1))) w' := fun y hy => by
    unfold relab
    rw [if_neg (by omega), if_neg (fun q => by have := (o.lt y q).2; omega)]
  refine ⟨relab lab w v' (64 * (k + 1)), h.set ⟨v', ?_, ?_, ?_, hrel, hv.file, hsz⟩ lo ⟨?_, ?_, ?_, by omega, fun x hx => by simp [relab, hx], fun x hx hl => ?_, fun x hx => ?_⟩⟩
  · rw [hp.heap, set_heap (set_heap hb1 _)]; rfl
  · exact hp.own (ownsRow_block o fun j hj => by rw [set_other (hne' j hj), set_other (hne' j hj)])
  · unfold relab; rw [if_pos hbl]; exact hv.lb
  · exact hp.os.trans g.os
  · exact hp.tape.trans g.tape
  · exact hp.output.trans g.output
  · have hxb : x ≠ b := fun e => by have := hv.lb; rw [e] at hl; omega
    rw [hp.heap, set_other hxb, set_other hxb]
    exact g.block x hx (fun q => by have := hv.lr x q.symm; omega)
  · unfold relab
    rw [if_neg (by omega)]
    split
    · exact .inr ⟨by omega, by omega⟩
    · exact .inl rfl
/-- A slice becomes the list of a journal in a new block. -/
theorem OMem.toJour (h : OMem w0 w os) {l : List (List UInt8)} (hi : os[i]? = some (.own 9 v (strVs l))) (hb : Below w.heap.size w w') (hn : w.heap.size ≤ b) (f : Int) (bad : Bool)
    (blk : w'.heap[b]? = some (.cells #[.pointer (some ⟨d, 0, none⟩), .int .i64 f, v, .int .i64 ((forms l).length : Int), .bool bad] 73 (0, 0))) (hf : I64 f) (hsz : ((forms l).length : Int) ≤ 16777216) :
    OMem w0 w' (os.set i (.jour b d ⟨f, l, bad⟩)) := by
  obtain ⟨lab, h⟩ := h
  have hv := h.at_ i _ hi
  have hbl := lt_heap blk
  refine ⟨fun x => if x = b then 64 * (i + 1) + 1 else lab x, h.set ⟨v, blk, ?_, if_pos rfl, fun j hj => ?_, hf, hsz⟩ (fun x hx => ?_) ⟨hb.os, hb.tape, hb.output, hb.size, fun x hx => if_neg (by omega), fun x hx _ => hb.block x hx, fun x hx => ?_⟩⟩
  · have := hv.1
    rw [strVs_length] at this
    exact ownsRow_block this fun j hj => hb.block j (this.lt j hj).2
  · have := (hv.1.lt j hj).2
    show (if j = b then _ else _) = _
    rw [if_neg (by omega)]
    exact hv.2 j hj
  · have := hb.size
    show (if x = b then _ else _) = _
    rw [if_neg (by omega)]
    exact h.lo x (by omega)
  · by_cases hx2 : x = b
    · right; simp only [if_pos hx2]; omega
    · left; simp only [if_neg hx2]; exact h.lo x hx
theorem set_get {α : Type} {l : List α} {i j : Nat} {a x : α} (h : l[i]? = some x) (hne : j ≠ i) : (l.set j a)[i]? = some x := by rw [List.getElem?_set_ne hne]; exact h
theorem set_here {α : Type} {l : List α} {i : Nat} {a x : α} (h : l[i]? = some x) : (l.set i a)[i]? = some a := by
  obtain ⟨hlt, _⟩ := List.getElem?_eq_some_iff.1 h
  exact List.getElem?_set_self hlt

set_option maxRecDepth 100000 in
theorem note_any (h : OMem w0 w os) (hk : os[k]? = some (.jour b d J)) (e : Int) (he : I64 e) :
    Calls Tryd.prog 40 #[.pointer (some ⟨b, 0, none⟩), .int .i64 e] w fun x w' => x = .returned (.int .i64 e) ∧ OMem w0 w' (os.set k (.jour b d { J with bad := decide (e ≠ 0) })) := by
  obtain ⟨v, hc⟩ := h.jour hk
  have f4 := hc.f 4
  have c4 := hc.c4
  have H := Lib.hid h
  clear h hc
  by_cases h0 : e = 0
  · subst h0
    go_enter Tryd.func40, Tryd.ntmps40
    go_wp2
    go_ret
    exact ⟨rfl, H.out.jbad hk false (Hp.refl _)⟩
  · go_enter Tryd.func40, Tryd.ntmps40
    go_wp2
    go_ret
    refine ⟨rfl, ?_⟩
    rw [decide_eq_true h0, show (e != 0) = true by simp [h0]]
    exact H.out.jbad hk true (Hp.refl _)
end
end Go.Proofs.YtjbcgahdiolhhaaDoor.D2
