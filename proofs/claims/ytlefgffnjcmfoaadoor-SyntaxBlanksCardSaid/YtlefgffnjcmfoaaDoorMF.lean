/- Several texts in one: Yz0, Yz, Box. -/
import Derived.Test.YtlefgffnjcmfoaaDoorMD
import Derived.Test.YtlefgffnjcmfoaaDoorMB
import Derived.Test.YtlefgffnjcmfoaaDoorME
import Derived.Deep.WholeRow
import Derived.Laws.Tables
import Derived.Laws.CopyRow
import Derived.Laws.CopyOwn
import Derived.BigQuiet
namespace Go.Proofs.YtlefgffnjcmfoaaDoor
open Lx Sy
theorem lex_len' {s : S} : ∀ {p : Int} {ts : List Tk}, lex s p = .ok ts → ts.length ≤ s.length + 1 ∧ (∀ t ∈ ts, t.text.length ≤ s.length) ∧ (textOf ts).length ≤ 2 * s.length := by
  induction s using lex_ind with
  | h0 => intro p ts h; cases h; exact ⟨by simp, fun t ht => by simp at ht; subst ht; simp, by simp [textOf, glue]⟩
  | h1 c r hb ih =>
    intro p ts h
    rw [lex_blank hb] at h
    obtain ⟨h1, h2, h3⟩ := ih h
    exact ⟨by simp; omega, fun t ht => by have := h2 t ht; simp; omega, by simp; omega⟩
  | h2 c r e hb ht => intro p ts h; rw [lex_bad hb ht] at h; cases h
  | h3 c r k w n hb ht ih =>
    intro p ts h
    rw [lex_tok hb ht] at h
    have hl := tok_len ht
    have hk := tok_kind ht
    cases hd : lex ((c :: r).drop w.length) (p + w.length) with
    | error v => rw [hd] at h; cases h
    | ok vs =>
      rw [hd] at h
      cases h
      obtain ⟨h1, h2, h3⟩ := ih hd
      rw [List.length_drop] at h1 h2 h3
      refine ⟨by rw [List.length_cons]; omega, fun t ht' => ?_, ?_⟩
      · rcases List.mem_cons.1 ht' with rfl | q
        · exact hl.2.1
        · have := h2 t q; omega
      · have e : textOf (⟨k, w, n, p⟩ :: vs) = glue (w :: (vs.filter fun t => t.kind != 3).map (·.text)) := by
          unfold textOf
          rw [List.filter_cons_of_pos (by simpa using hk.1), List.map_cons]
        rw [e]
        have hg : ∀ L : List S, (glue (w :: L)).length ≤ w.length + 1 + (glue L).length := by
          intro L
          by_cases hL : L = []
          · subst hL; simp [glue]
          · rw [glue_cons hL]; simp; omega
        have := hg ((vs.filter fun t => t.kind != 3).map (·.text))
        unfold textOf at h3
        omega
theorem res_ok {s : S} {ts : List Tk} {p : Int} (h : lexRes s = (ts, p, 0)) : ¬ 2000 < s.length ∧ lex s 0 = .ok ts := by
  unfold lexRes at h
  by_cases hb : 2000 < s.length
  · rw [if_pos hb] at h; cases h
  · rw [if_neg hb] at h
    refine ⟨hb, ?_⟩
    cases hl : lex s 0 with
    | ok us => rw [hl] at h; cases h; rfl
    | error v =>
      obtain ⟨i, e⟩ := v
      obtain ⟨_, _, _, _, _, he⟩ := lex_error hl
      rw [hl] at h
      cases h
      rcases he with he | he | he <;> cases he
theorem parse_of {s : S} {ts : List Tk} {p : Int} (h : lexRes s = (ts, p, 0)) : parseS s = out ts := by
  obtain ⟨h1, h2⟩ := res_ok h
  unfold parseS; rw [if_neg h1, h2]
theorem parse_bad {s : S} {ts : List Tk} {p e : Int} (h : lexRes s = (ts, p, e)) (he : e ≠ 0) : parseS s = (zero, p, e) := by
  unfold lexRes at h
  unfold parseS
  by_cases hb : 2000 < s.length
  · rw [if_pos hb] at h ⊢; cases h; rfl
  · rw [if_neg hb] at h ⊢
    cases hl : lex s 0 with
    | ok us => rw [hl] at h; cases h; exact absurd rfl he
    | error v => rw [hl] at h; obtain ⟨i, x⟩ := v; cases h; rfl
theorem res_ends {s : S} {ts : List Tk} {p : Int} (h : lexRes s = (ts, p, 0)) : Ends ts ∧ ts.length ≤ 3000 := by
  obtain ⟨h1, h2⟩ := res_ok h
  obtain ⟨us, rfl, h3⟩ := lex_toks h2
  refine ⟨⟨us, _, rfl, rfl, fun t ht => (tok_kind (h3 t ht)).1⟩, ?_⟩
  have := (lex_len' h2).1
  omega
/-- The end of Parse, plainly. -/
theorem out_bad {L l : List Tk} {e : Int} {f : Unit → R → Pf × R} {r : R} (hp : parse (.ok L) = bindR fin f r) (hf : ∀ u x, (f u (.error x)).2 = .error x) (hr : (fin r).2 = .error (l, e)) : out L = (zero, posOf l, e) := by
  unfold out
  rw [hp]
  have h2 : (bindR fin f r).2 = .error (l, e) := by unfold bindR; rw [hr]; exact hf _ _
  generalize bindR fin f r = q at h2
  obtain ⟨a, b⟩ := q
  simp only at h2
  subst h2; rfl
theorem out_good {L : List Tk} {PF : Pf} {r : R} {l : List Tk} (hp : parse (.ok L) = bindR fin (fun _ => retR PF) r) (hr : (fin r).2 = .ok l) : out L = (PF, 0, 0) := by
  unfold out
  rw [hp]
  unfold bindR
  rw [hr]; rfl
theorem fin_bad {x : List Tk × Int} : (fin (.error x)).2 = .error x := rfl
theorem fin_end {z : Tk} {l : List Tk} (h : z.kind = 3) : (fin (.ok (z :: l))).2 = .ok (z :: l) := by
  unfold fin iffR
  have : endO (hdR (.ok (z :: l))) = true := by simp [hdR, hd, endO, br, h]
  rw [this]; rfl
theorem fin_more {z : Tk} {l : List Tk} (h : z.kind ≠ 3) : (fin (.ok (z :: l))).2 = .error (z :: l, 12) := by
  unfold fin iffR
  have : endO (hdR (.ok (z :: l))) = false := by simp [hdR, hd, endO, br, h]
  rw [this]; rfl
end Go.Proofs.YtlefgffnjcmfoaaDoor
namespace Go.Proofs.YtlefgffnjcmfoaaDoor
open Go.RowKit Go.Maps Go.ChangeMaps Go.MapKept
open Lx Sy Ch
attribute [local go_sem ↓] Go.wp_at_zero Go.wp_at_succ
def zC : Array Value := #[.string (bs []), .int .i64 0, .int .i64 0, .int .i64 0, .bool false, .int .i64 0, .bool false, .bool false, .int .i64 0, .int .i64 0, .int .i64 0, .int .i64 0, .slice none 0 0, .int .i64 0, .int .i64 0, .int .i64 0, .int .i64 0, .bool false, .int .i64 0, .int .i64 0, .int .i64 0, .int .i64 0]
theorem bindR_eq {α β : Type} {f : R → α × R} {g : α → R → β × R} {r r' : R} {a : α} (h : f r = (a, r')) : bindR f g r = g a r' := by unfold bindR; rw [h]
theorem list_evw {P : Program} {ops : Array Oper} {Q : Exit → Act → World → Prop} {rest : List Oper} {w w' : World} {o : Oper} {a : Act} {v : Value} (hw : Region.wanted o (yielded ops a.tmps) = true) (h : (execOp a.eval o).run P w = .ok (.value v) w') (hr : wpList P ops Q rest (a.put o.dst v) w') : wpList P ops Q (o :: rest) a w :=
  wpList_step fun K hK => by
    rw [if_pos hw]
    show o.upon P a K Q ((execOp a.eval o).run P w)
    rw [h]
    exact hK _ _ hr
theorem ev_store {P : Program} {w w' : World} {a : Act} {o : Oper} {t s1 s2 : Nat} {u v : Value} (ho : o.op = .store t (.tmp s1) (.tmp s2)) (h1 : a.tmps[s1]? = some u) (h2 : a.tmps[s2]? = some v) (h : (Instr.storeAt t u v).run P w = .ok () w') : (execOp a.eval o).run P w = .ok .skip w' := by
  unfold execOp; rw [ho]; simp only [eval_at h1, eval_at h2]
  simp only [Sem.run_bind, h]; rfl
theorem ends_ne {L : List Tk} (h : Ends L) : L ≠ [] := by
  obtain ⟨us, E, rfl, _⟩ := h; simp
theorem list_skip {P : Program} {ops : Array Oper} {Q : Exit → Act → World → Prop} {rest : List Oper} {w w' : World} {o : Oper} {a : Act} (hw : Region.wanted o (yielded ops a.tmps) = true) (h : (execOp a.eval o).run P w = .ok .skip w') (hr : wpList P ops Q rest (a.put o.dst undef) w') : wpList P ops Q (o :: rest) a w :=
  wpList_step fun K hK => by
    rw [if_pos hw]
    show o.upon P a K Q ((execOp a.eval o).run P w)
    rw [h]
    exact hK _ _ hr
theorem results_cell_tmp2 {P : Program} {fn : Func} {p u v : Tmp} {ty : TypeId} (h : fn.results = #[.cell p ty, .tmp u, .tmp v]) (tmps : Array Value) (w : World) (g : Nat) (t : TypeId) (cs : Array Value) (fr : Nat × Nat) (d : TypeDesc)
    (hp : tmps.getD p undef = .pointer (some ⟨g, 0, none⟩)) (hg : w.heap[g]? = some (.cells cs t fr))
    (hu : P.underlying ty = some d) (hd : (match d with | .struct _ | .array _ _ => true | _ => false) = true) (hi : (P.info? ty).map (·.size) = some cs.size) :
    (results fn tmps).run P w = .ok (.tuple #[.agg cs, tmps.getD u undef, tmps.getD v undef]) w := by
  have hp' : tmps[p]?.getD undef = .pointer (some ⟨g, 0, none⟩) := by simpa using hp
  simp [results, h, hp', asAddr, run_loadVar_row w g t ty cs fr d hg hu hd hi]
theorem ok_back {α : Type} {f : R → α × R} (hf : Sy.Loc f) {r r' : R} {z : α} (e : f r = (z, r')) (h : isOk r' = true) : isOk r = true := by
  cases r with
  | ok l => rfl
  | error x =>
    have h2 := hf.1 x
    rw [e] at h2
    have h3 : r' = .error x := h2
    rw [h3] at h; cases h
theorem loc_sLevel : Sy.Loc sLevel := loc_bind (loc_want _) fun _ => loc_bind (loc_one _) fun _ => loc_bind (loc_opt (loc_ret _)) fun _ => loc_bind (loc_want _) fun _ => loc_ret _
theorem loc_sRate : Sy.Loc sRate := loc_bind (loc_want _) fun _ => loc_bind (loc_number _) fun _ => loc_bind (loc_want _) fun _ => loc_bind (loc_number _) fun _ => loc_bind (loc_want _) fun _ => loc_bind (loc_number _) fun _ => loc_bind (loc_want _) fun _ => loc_ret _
theorem loc_sKeep : Sy.Loc sKeep := loc_opt (loc_bind (loc_number _) fun _ => loc_bind (loc_want _) fun _ => loc_ret _)
theorem tx_setRow {w : World} {v : Value} {xs : List S} {g : Nat} {T : TypeId} {old cs : Array Value} {fr : Nat × Nat} (hown : w.ownsRow 0 9 1 v xs.length (txVs xs)) (hg : w.heap[g]? = some (.cells old T fr)) (hT : T ≠ 9) : TxAt (w.setRow g cs) v xs :=
  TxAt.of_own (hown.kept (row := some g) ⟨rfl, rfl, rfl, by simp, fun k _ hk => setRow_other w g k cs (fun e => hk (by rw [e]))⟩ (Or.inr (Lib.ownBlock_ne hown hg hT)))
theorem fit_ok {L : List Tk} {r : R} {a : Nat} {p : Int} {z : Tk} (h : Fit L r a p 0) (hz : L[a]? = some z) : r = .ok (z :: L.drop (a + 1)) := by
  cases r with
  | ok l => have h1 := h.1; rw [drop_of hz] at h1; rw [h1]
  | error x => exact absurd h.1.symm h.2.1
theorem region_tillD {P : Program} {ops : Array Oper} {Q : Exit → Act → World → Prop} {id : Nat} {a : Act} {w : World} (c : Nat) (S : World → Prop) (hm : P.follows .mixedOrders = true)
    (h : Till P .any ops Q c S ops.size (Array.replicate ops.size false) a w.drew) : (Code.region id ops true).wp P Q a w := region_till c S hm h
end Go.Proofs.YtlefgffnjcmfoaaDoor
namespace Go.Proofs.YtlefgffnjcmfoaaDoor
open Go.RowKit Go.Maps Go.ChangeMaps Go.MapKept
open Lx Sy
namespace Ch
section
variable {P : Program} {ops : Array Oper} {Q : Exit → Act → World → Prop} {rest : List Oper} {w : World} {a : Act}
theorem list_callP {o : Oper} {fn : FuncId} {args : Array Value} {Post : Ending → World → Prop} (hw : Region.wanted o (yielded ops a.tmps) = true) (h : (execOp a.eval o).run P w = .ok (.enter fn args) w) (hC : Calls P fn args w Post)
    (hr : ∀ e w', Post e w' → ∃ v, e = .returned v ∧ wpList P ops Q rest (a.put o.dst v) w') : wpList P ops Q (o :: rest) a w :=
  wpList_step fun K hK => by
    rw [if_pos hw]
    show o.upon P a K Q ((execOp a.eval o).run P w)
    rw [h, Oper.upon_enter]
    refine hC.mono ?_
    intro e w' hp
    obtain ⟨v, rfl, h2⟩ := hr e w' hp
    exact hK _ _ h2
theorem want_undef {o : Oper} {g s : Nat} {b : Bool} (ho : o.guard = some (g, b)) (hg : (ops[g]?).bind (·.dst) = some s) (hs : a.tmps[s]? = some undef) : Region.wanted o (yielded ops a.tmps) = false := by
  have hy : yielded ops a.tmps g = none := by unfold yielded; rw [hg, Option.bind_some, hs]; rfl
  unfold Region.wanted
  rw [ho]
  simp only
  rw [hy]; rfl
theorem ev_call2 {fn : FuncId} {d : Option Tmp} {ats : Array TypeId} {ty : TypeId} {po : String} {af : Array Edge} {gd : Option (Nat × Bool)} {s1 s2 : Nat} {u v : Value} (h1 : a.tmps[s1]? = some u) (h2 : a.tmps[s2]? = some v) (he : ∀ args w, (callFunc fn args).run P w = .ok (.enter fn args) w) :
    (execOp a.eval { dst := d, op := .call { callee := .value (.func fn), args := #[.tmp s1, .tmp s2], argTypes := ats }, type := ty, pos := po, after := af, guard := gd }).run P w = .ok (.enter fn #[u, v]) w := by
  have this := he #[u, v] w
  simp [go_sem]
  rw [h1, h2, Option.getD_some, Option.getD_some]
  exact this
theorem ev_callC {fn : FuncId} {d : Option Tmp} {ats : Array TypeId} {ty : TypeId} {po : String} {af : Array Edge} {gd : Option (Nat × Bool)} {z : Value} (he : ∀ args w, (callFunc fn args).run P w = .ok (.enter fn args) w) :
    (execOp a.eval { dst := d, op := .call { callee := .value (.func fn), args := #[.const z], argTypes := ats }, type := ty, pos := po, after := af, guard := gd }).run P w = .ok (.enter fn #[z]) w := by
  have this := he #[z] w
  simp [go_sem]
  exact this
end
end Ch
theorem PfAt.cells {w : World} {x : Value} {p : Pf} (h : PfAt w x p) : ∃ cs : Array Value, x = .agg cs ∧ cs.size = 22 ∧ cs.all (·.oneCell') = true := by
  obtain ⟨tv, rfl, h2⟩ := h
  obtain ⟨a, c, rfl⟩ := h2.slice
  exact ⟨_, rfl, rfl, by simp [Value.oneCell']⟩
/-- A profile in a block of its own. -/
structure Box (w : World) (b : Nat) (cs : Array Value) (p : Pf) : Prop where
  heap : w.heap[b]? = some (.cells cs 24 (0, 0))
  pf : PfAt w (.agg cs) p
  size : cs.size = 22
theorem Box.keep {w w' : World} {b : Nat} {cs : Array Value} {p : Pf} (h : Box w b cs p) (hb : Below w.heap.size w w') : Box w' b cs p :=
  ⟨(hb.block b (Array.getElem?_eq_some_iff.1 h.heap).1).trans h.heap, h.pf.keep hb, h.size⟩
theorem pf_size {w : World} {cs : Array Value} {p : Pf} (h : PfAt w (.agg cs) p) : cs.size = 22 := by
  obtain ⟨cs', h1, h2, _⟩ := h.cells
  cases h1; exact h2
theorem pf_one {w : World} {cs : Array Value} {p : Pf} (h : PfAt w (.agg cs) p) : cs.all (·.oneCell') = true := by
  obtain ⟨cs', h1, _, h2⟩ := h.cells
  cases h1; exact h2
theorem Box.new {w : World} {cs : Array Value} {p : Pf} (h : PfAt w (.agg cs) p) : Box (w.alloc (.cells cs 24)) w.heap.size cs p :=
  ⟨heap_alloc_new w _, h.keep ((Below.refl _ _).alloc (Nat.le_refl _) _), pf_size h⟩
theorem Box.load {w : World} {b : Nat} {cs : Array Value} {p : Pf} (h : Box w b cs p) {a : Act} {o : Oper} {s : Nat} (ho : o.op = .load 24 (.tmp s)) (hs : a.tmps[s]? = some (.pointer (some ⟨b, 0, none⟩))) :
    (execOp a.eval o).run Tryd.prog w = .ok (.value (.agg cs)) w :=
  Ch.ev_whole ho hs h.heap Tryd.underlying24 rfl (by rw [h.size]; kernel_rfl)
section
variable {ops : Array Oper} {Q : Exit → Act → World → Prop} {rest : List Oper} {w : World} {a : Act}
variable {ty1 ty2 ty3 ty4 ty5 ty6 ty7 ty8 : TypeId} {po1 po2 po3 po4 po5 po6 po7 po8 : String} {af1 af2 af3 af4 af5 af6 af7 af8 : Array Edge}
/-- A new profile variable and what is stored into it. -/
theorem list_new {d s : Nat} {cs : Array Value} {p : Pf} (hp : PfAt w (.agg cs) p) (hd : d < a.tmps.size) (hds : d ≠ s) (hs : a.tmps[s]? = some (.agg cs))
    (h : wpList Tryd.prog ops Q rest (a.put (some d) (.pointer (some ⟨w.heap.size, 0, none⟩))) (w.alloc (.cells cs 24))) :
    wpList Tryd.prog ops Q ({ dst := some d, op := .alloc 24, type := ty1, pos := po1, after := af1, guard := none } :: { dst := none, op := .store 24 (.tmp d) (.tmp s), type := ty2, pos := po2, after := af2, guard := none } :: rest) a w := by
  refine list_evw (v := .pointer (some ⟨w.heap.size, 0, none⟩)) (w' := w.alloc (.cells zC 24)) rfl (by unfold zC; go_simp; try rfl) ?_
  refine list_skip (w' := w.alloc (.cells cs 24)) rfl (ev_store (u := .pointer (some ⟨w.heap.size, 0, none⟩)) (v := .agg cs) rfl (Ch.put_at _ _ _ hd) (by rw [Ch.put_ne _ _ hds]; exact hs) (by
    have h := run_storeAt_new (P := Tryd.prog) w 24 zC cs (by rw [pf_size hp]; kernel_rfl) (by rw [pf_size hp]; rfl) (pf_one hp)
    simpa using h)) ?_
  exact h
end
end Go.Proofs.YtlefgffnjcmfoaaDoor
