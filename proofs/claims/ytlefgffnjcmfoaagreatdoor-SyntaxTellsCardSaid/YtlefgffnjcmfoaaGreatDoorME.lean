/- Several texts in one: Chain, Scal, Yv, Yw, Ypr, Flow, Flow2, FlowG, Yx. -/
import Derived.Test.YtlefgffnjcmfoaaGreatDoorMB
import Derived.BigFrame
import Derived.Test.YtlefgffnjcmfoaaGreatDoorMD
import Derived.BigQuiet
import Derived.Deep.CutRange
import Derived.Shelf.Lays
import Derived.Test.YtlefgffnjcmfoaaGreatDoorMA
import Derived.Test.YtlefgffnjcmfoaaGreatDoorMC
import Derived.Deep.Cut
namespace Go.Proofs.YtlefgffnjcmfoaaGreatDoor
open Go.RowKit
namespace Ch
section
variable {P : Program} {ops : Array Oper} {Q : Exit → Act → World → Prop} {rest : List Oper} {w : World}
theorem list_ev {o : Oper} {a : Act} {v : Value} (hw : Region.wanted o (yielded ops a.tmps) = true) (h : (execOp a.eval o).run P w = .ok (.value v) w) (hr : wpList P ops Q rest (a.put o.dst v) w) : wpList P ops Q (o :: rest) a w :=
  wpList_step fun K hK => by
    rw [if_pos hw]
    show o.upon P a K Q ((execOp a.eval o).run P w)
    rw [h]
    exact hK _ _ hr
theorem list_off {o : Oper} {a : Act} (hw : Region.wanted o (yielded ops a.tmps) = false) (hr : wpList P ops Q rest (a.put o.dst undef) w) : wpList P ops Q (o :: rest) a w :=
  wpList_step fun K hK => by rw [if_neg (by rw [hw]; exact Bool.false_ne_true)]; exact hK _ _ hr
/-- The guard of what comes behind a slot that holds a Bool. -/
theorem want_at {a : Act} {o : Oper} {g s : Nat} {b c : Bool} (ho : o.guard = some (g, b)) (hg : (ops[g]?).bind (·.dst) = some s) (hs : a.tmps[s]? = some (.bool c)) : Region.wanted o (yielded ops a.tmps) = (c == b) := by
  have hy : yielded ops a.tmps g = some c := by unfold yielded; rw [hg, Option.bind_some, hs]
  unfold Region.wanted
  rw [ho]
  show (yielded ops a.tmps g == some b) = _
  rw [hy]; cases b <;> cases c <;> rfl
theorem put_at (a : Act) (s : Nat) (v : Value) (h : s < a.tmps.size) : (a.put (some s) v).tmps[s]? = some v := by simp [Act.put, h]
theorem put_ne (a : Act) {s t : Nat} (v : Value) (h : s ≠ t) : (a.put (some s) v).tmps[t]? = a.tmps[t]? := by simp [Act.put, h]
theorem put_size (a : Act) (s : Nat) (v : Value) : (a.put (some s) v).tmps.size = a.tmps.size := by simp [Act.put]
theorem eval_at {a : Act} {s : Nat} {v : Value} (h : a.tmps[s]? = some v) : a.eval (.tmp s) = v := by simp [Act.eval, Array.getD_eq_getD_getElem?, h]
end
/-- A field's place in a boxed struct; a load of one cell; a comparison of two values. -/
def FieldIs (P : Program) (T : TypeId) (f off : Nat) : Prop := ∀ (b : Nat) (w : World), (Instr.fieldAt T (.pointer (some ⟨b, 0, none⟩)) f).run P w = .ok (.pointer (some ⟨b, off, none⟩)) w
def LoadIs (P : Program) (t : TypeId) (v : Value) : Prop := ∀ (b off : Nat) (w : World), w.cell? ⟨b, off, none⟩ = some v → (Instr.loadAt t (.pointer (some ⟨b, off, none⟩))).run P w = .ok v w
def EqlIs (P : Program) (t : TypeId) (u v : Value) (r : Bool) : Prop := ∀ (x y : Operand) (w : World), (do eqGuard .eql t x y u v; binOp .eql t u v : Sem Value).run P w = .ok (.bool r) w
section
variable {P : Program} {ops : Array Oper} {Q : Exit → Act → World → Prop} {rest : List Oper} {w : World} {a : Act}
theorem run_val {s : Sem Value} {v : Value} (h : s.run P w = .ok v w) : (do pure (Next.value (← s)) : Sem Next).run P w = .ok (.value v) w := by
  simp only [Sem.run_bind, h]; rfl
theorem ev_field {o : Oper} {T f off b s : Nat} (ho : o.op = .fieldAddr T (.tmp s) f) (hs : a.tmps[s]? = some (.pointer (some ⟨b, 0, none⟩))) (h : FieldIs P T f off) : (execOp a.eval o).run P w = .ok (.value (.pointer (some ⟨b, off, none⟩))) w := by
  unfold execOp; rw [ho]; simp only [eval_at hs]
  exact run_val (h b w)
theorem ev_load {o : Oper} {t off b s : Nat} {v : Value} (ho : o.op = .load t (.tmp s)) (hs : a.tmps[s]? = some (.pointer (some ⟨b, off, none⟩))) (h : LoadIs P t v) (hc : w.cell? ⟨b, off, none⟩ = some v) : (execOp a.eval o).run P w = .ok (.value v) w := by
  unfold execOp; rw [ho]; simp only [eval_at hs]
  exact run_val (h b off w hc)
theorem ev_eql {o : Oper} {t t2 s1 s2 : Nat} {u v : Value} {r : Bool} (ho : o.op = .binOp .eql t (.tmp s1) (.tmp s2) t2) (h1 : a.tmps[s1]? = some u) (h2 : a.tmps[s2]? = some v) (h : EqlIs P t u v r) : (execOp a.eval o).run P w = .ok (.value (.bool r)) w := by
  unfold execOp; rw [ho]; simp only [eval_at h1, eval_at h2]
  exact run_val (h (.tmp s1) (.tmp s2) w)
theorem ev_pick {o : Oper} {s1 s2 : Nat} {c : Bool} {u : Value} (ho : o.op = .pick (.tmp s1) (.tmp s2) (.const (.bool false))) (h1 : a.tmps[s1]? = some (.bool c)) (h2 : c = true → a.tmps[s2]? = some u) : (execOp a.eval o).run P w = .ok (.value (if c then u else .bool false)) w := by
  unfold execOp; rw [ho]; simp only [eval_at h1]
  cases c with
  | false => rfl
  | true => simp only [eval_at (h2 rfl)]; rfl
theorem ev_move {o : Oper} {s : Nat} {v : Value} (ho : o.op = .move (.tmp s)) (h : a.tmps[s]? = some v) : (execOp a.eval o).run P w = .ok (.value v) w := by
  rw [BigFrame.run_move _ ho, eval_at h]
end
section
variable {P : Program} {ops : Array Oper} {Q : Exit → Act → World → Prop} {rest : List Oper} {w : World} {a : Act}
variable {p x y g f off T t t2 s0 s1 s2 s3 s4 s5 s6 bx bz : Nat} {ty0 ty1 ty2 ty3 ty4 ty5 ty6 : TypeId} {po0 po1 po2 po3 po4 po5 po6 : String} {af0 af1 af2 af3 af4 af5 af6 : Array Edge} {c r : Bool} {u v : Value}
theorem chain_first (ho : s1 + 1 = s2 ∧ s2 + 1 = s3 ∧ s3 + 1 = s4 ∧ s4 + 1 = s5 ∧ x < s1 ∧ y < s1) (hn : s5 < a.tmps.size) (hx : a.tmps[x]? = some (.pointer (some ⟨bx, 0, none⟩))) (hy : a.tmps[y]? = some (.pointer (some ⟨bz, 0, none⟩)))
    (hF : FieldIs P T f off) (hu : LoadIs P t u) (hv : LoadIs P t v) (hE : EqlIs P t u v r) (cu : w.cell? ⟨bx, off, none⟩ = some u) (cv : w.cell? ⟨bz, off, none⟩ = some v)
    (h : ∀ v1 v2 v3 v4, wpList P ops Q rest (((((a.put (some s1) v1).put (some s2) v2).put (some s3) v3).put (some s4) v4).put (some s5) (.bool r)) w) :
    wpList P ops Q ({ dst := some s1, op := .fieldAddr T (.tmp x) f, type := ty1, pos := po1, after := af1, guard := none } :: { dst := some s2, op := .load t (.tmp s1), type := ty2, pos := po2, after := af2, guard := none } :: { dst := some s3, op := .fieldAddr T (.tmp y) f, type := ty3, pos := po3, after := af3, guard := none } :: { dst := some s4, op := .load t (.tmp s3), type := ty4, pos := po4, after := af4, guard := none } :: { dst := some s5, op := .binOp .eql t (.tmp s2) (.tmp s4) t2, type := ty5, pos := po5, after := af5, guard := none } :: rest) a w := by
  obtain ⟨h2, h3, h4, h5, hx1, hy1⟩ := ho
  refine list_ev (v := .pointer (some ⟨bx, off, none⟩)) rfl (ev_field rfl hx hF) ?_
  refine list_ev (v := u) rfl (ev_load rfl (put_at _ _ _ (by omega)) hu cu) ?_
  refine list_ev (v := .pointer (some ⟨bz, off, none⟩)) rfl (ev_field rfl (by rw [put_ne _ _ (by omega), put_ne _ _ (by omega)]; exact hy) hF) ?_
  refine list_ev (v := v) rfl (ev_load rfl (put_at _ _ _ (by simp only [put_size]; omega)) hv cv) ?_
  refine list_ev (v := .bool r) rfl (ev_eql rfl (by rw [put_ne _ _ (by omega), put_ne _ _ (by omega)]; exact put_at _ _ _ (by simp only [put_size]; omega)) (put_at _ _ _ (by simp only [put_size]; omega)) hE) ?_
  exact h _ _ _ _
theorem chain_field (ho : s0 + 1 = s1 ∧ s1 + 1 = s2 ∧ s2 + 1 = s3 ∧ s3 + 1 = s4 ∧ s4 + 1 = s5 ∧ s5 + 1 = s6 ∧ x < s0 ∧ y < s0) (hn : s6 < a.tmps.size) (hp : a.tmps[p]? = some (.bool c)) (hx : a.tmps[x]? = some (.pointer (some ⟨bx, 0, none⟩))) (hy : a.tmps[y]? = some (.pointer (some ⟨bz, 0, none⟩)))
    (hg : (ops[g]?).bind (·.dst) = some s0)
    (hF : FieldIs P T f off) (hu : LoadIs P t u) (hv : LoadIs P t v) (hE : EqlIs P t u v r) (cu : w.cell? ⟨bx, off, none⟩ = some u) (cv : w.cell? ⟨bz, off, none⟩ = some v)
    (h : ∀ v1 v2 v3 v4 v5, wpList P ops Q rest (((((((a.put (some s0) (.bool c)).put (some s1) v1).put (some s2) v2).put (some s3) v3).put (some s4) v4).put (some s5) v5).put (some s6) (.bool (c && r))) w) :
    wpList P ops Q ({ dst := some s0, op := .move (.tmp p), type := ty0, pos := po0, after := af0, guard := none } :: { dst := some s1, op := .fieldAddr T (.tmp x) f, type := ty1, pos := po1, after := af1, guard := some (g, true) } :: { dst := some s2, op := .load t (.tmp s1), type := ty2, pos := po2, after := af2, guard := some (g, true) } :: { dst := some s3, op := .fieldAddr T (.tmp y) f, type := ty3, pos := po3, after := af3, guard := some (g, true) } :: { dst := some s4, op := .load t (.tmp s3), type := ty4, pos := po4, after := af4, guard := some (g, true) } :: { dst := some s5, op := .binOp .eql t (.tmp s2) (.tmp s4) t2, type := ty5, pos := po5, after := af5, guard := some (g, true) } :: { dst := some s6, op := .pick (.tmp s0) (.tmp s5) (.const (.bool false)), type := ty6, pos := po6, after := af6, guard := none } :: rest) a w := by
  obtain ⟨h1, h2, h3, h4, h5, h6, hx1, hy1⟩ := ho
  refine list_ev (v := .bool c) rfl (ev_move rfl hp) ?_
  have b0 : (a.put (some s0) (.bool c)).tmps[s0]? = some (.bool c) := put_at _ _ _ (by omega)
  cases c with
  | false =>
    refine list_off ((want_at rfl hg b0).trans rfl) ?_
    refine list_off ((want_at rfl hg (by rw [put_ne _ _ (by omega)]; exact b0)).trans rfl) ?_
    refine list_off ((want_at rfl hg (by rw [put_ne _ _ (by omega), put_ne _ _ (by omega)]; exact b0)).trans rfl) ?_
    refine list_off ((want_at rfl hg (by rw [put_ne _ _ (by omega), put_ne _ _ (by omega), put_ne _ _ (by omega)]; exact b0)).trans rfl) ?_
    refine list_off ((want_at rfl hg (by rw [put_ne _ _ (by omega), put_ne _ _ (by omega), put_ne _ _ (by omega), put_ne _ _ (by omega)]; exact b0)).trans rfl) ?_
    refine list_ev (v := .bool false) rfl (ev_pick (u := undef) (c := false) rfl (by rw [put_ne _ _ (by omega), put_ne _ _ (by omega), put_ne _ _ (by omega), put_ne _ _ (by omega), put_ne _ _ (by omega)]; exact b0) (fun q => by cases q)) ?_
    exact h _ _ _ _ _
  | true =>
    refine list_ev (v := .pointer (some ⟨bx, off, none⟩)) ((want_at rfl hg b0).trans rfl) (ev_field rfl (by rw [put_ne _ _ (by omega)]; exact hx) hF) ?_
    refine list_ev (v := u) ((want_at rfl hg (by rw [put_ne _ _ (by omega)]; exact b0)).trans rfl) (ev_load rfl (put_at _ _ _ (by simp only [put_size]; omega)) hu cu) ?_
    refine list_ev (v := .pointer (some ⟨bz, off, none⟩)) ((want_at rfl hg (by rw [put_ne _ _ (by omega), put_ne _ _ (by omega)]; exact b0)).trans rfl) (ev_field rfl (by rw [put_ne _ _ (by omega), put_ne _ _ (by omega), put_ne _ _ (by omega)]; exact hy) hF) ?_
    refine list_ev (v := v) ((want_at rfl hg (by rw [put_ne _ _ (by omega), put_ne _ _ (by omega), put_ne _ _ (by omega)]; exact b0)).trans rfl) (ev_load rfl (put_at _ _ _ (by simp only [put_size]; omega)) hv cv) ?_
    refine list_ev (v := .bool r) ((want_at rfl hg (by rw [put_ne _ _ (by omega), put_ne _ _ (by omega), put_ne _ _ (by omega), put_ne _ _ (by omega)]; exact b0)).trans rfl) (ev_eql rfl (by rw [put_ne _ _ (by omega), put_ne _ _ (by omega)]; exact put_at _ _ _ (by simp only [put_size]; omega)) (put_at _ _ _ (by simp only [put_size]; omega)) hE) ?_
    refine list_ev (v := .bool r) rfl (ev_pick (u := .bool r) (c := true) rfl (by rw [put_ne _ _ (by omega), put_ne _ _ (by omega), put_ne _ _ (by omega), put_ne _ _ (by omega), put_ne _ _ (by omega)]; exact b0) (fun _ => put_at _ _ _ (by simp only [put_size]; omega))) ?_
    exact h _ _ _ _ _

/-- A call of a function of the program that changes nothing. -/
theorem list_call {o : Oper} {fn : FuncId} {args : Array Value} {v : Value} (hw : Region.wanted o (yielded ops a.tmps) = true) (h : (execOp a.eval o).run P w = .ok (.enter fn args) w) (hC : Calls P fn args w fun e w' => e = .returned v ∧ w = w') (hr : wpList P ops Q rest (a.put o.dst v) w) : wpList P ops Q (o :: rest) a w :=
  wpList_step fun K hK => by
    rw [if_pos hw]
    show o.upon P a K Q ((execOp a.eval o).run P w)
    rw [h, Oper.upon_enter]
    refine hC.mono ?_
    rintro e w' ⟨rfl, rfl⟩
    exact hK _ _ hr
theorem ev_call {fn : FuncId} {d : Option Tmp} {ats : Array TypeId} {ty : TypeId} {po : String} {af : Array Edge} {gd : Option (Nat × Bool)} {z1 z2 : Value} {s2 : Nat} (hs : a.tmps[s2]? = some u) (he : ∀ args w, (callFunc fn args).run P w = .ok (.enter fn args) w) :
    (execOp a.eval { dst := d, op := .call { callee := .value (.func fn), args := #[.tmp s2, .const z1, .const z2], argTypes := ats }, type := ty, pos := po, after := af, guard := gd }).run P w = .ok (.enter fn #[u, z1, z2]) w := by
  have this := he #[u, z1, z2] w
  simp [go_sem]
  rw [hs, Option.getD_some]
  exact this
/-- A comparison with a constant. -/
def BinIs (P : Program) (op : BinOp) (t : TypeId) (u v : Value) (r : Bool) : Prop := ∀ (x y : Operand) (w : World), (do eqGuard op t x y u v; binOp op t u v : Sem Value).run P w = .ok (.bool r) w
theorem ev_bin {o : Oper} {bop : BinOp} {t t2 s1 : Nat} {z : Value} (ho : o.op = .binOp bop t (.tmp s1) (.const z) t2) (h1 : a.tmps[s1]? = some u) (h : BinIs P bop t u z r) : (execOp a.eval o).run P w = .ok (.value (.bool r)) w := by
  unfold execOp; rw [ho]; simp only [eval_at h1]
  exact run_val (h (.tmp s1) (.const z) w)
theorem ev_pick_or {o : Oper} {s1 s2 : Nat} {c : Bool} {u : Value} (ho : o.op = .pick (.tmp s1) (.const (.bool true)) (.tmp s2)) (h1 : a.tmps[s1]? = some (.bool c)) (h2 : c = false → a.tmps[s2]? = some u) : (execOp a.eval o).run P w = .ok (.value (if c then .bool true else u)) w := by
  unfold execOp; rw [ho]; simp only [eval_at h1]
  cases c with
  | true => rfl
  | false => simp only [eval_at (h2 rfl)]; rfl
variable {z1 z2 : Value} {fn : FuncId} {ats : Array TypeId} {bop : BinOp}
theorem call_first (ho : s1 + 1 = s2 ∧ s2 + 1 = s3 ∧ x < s1) (hn : s3 < a.tmps.size) (hx : a.tmps[x]? = some (.pointer (some ⟨bx, 0, none⟩)))
    (hF : FieldIs P T f off) (hu : LoadIs P t u) (he : ∀ args w, (callFunc fn args).run P w = .ok (.enter fn args) w) (hC : Calls P fn #[u, z1, z2] w fun e w' => e = .returned (.bool r) ∧ w = w') (cu : w.cell? ⟨bx, off, none⟩ = some u)
    (h : ∀ v1 v2, wpList P ops Q rest (((a.put (some s1) v1).put (some s2) v2).put (some s3) (.bool r)) w) :
    wpList P ops Q ({ dst := some s1, op := .fieldAddr T (.tmp x) f, type := ty1, pos := po1, after := af1, guard := none } :: { dst := some s2, op := .load t (.tmp s1), type := ty2, pos := po2, after := af2, guard := none } :: { dst := some s3, op := .call { callee := .value (.func fn), args := #[.tmp s2, .const z1, .const z2], argTypes := ats }, type := ty3, pos := po3, after := af3, guard := none } :: rest) a w := by
  obtain ⟨h2, h3, hx1⟩ := ho
  refine list_ev (v := .pointer (some ⟨bx, off, none⟩)) rfl (ev_field rfl hx hF) ?_
  refine list_ev (v := u) rfl (ev_load rfl (put_at _ _ _ (by omega)) hu cu) ?_
  refine list_call (fn := fn) (v := .bool r) rfl (ev_call (put_at _ _ _ (by simp only [put_size]; omega)) he) hC ?_
  exact h _ _
theorem call_and (ho : s0 + 1 = s1 ∧ s1 + 1 = s2 ∧ s2 + 1 = s3 ∧ s3 + 1 = s4 ∧ x < s0) (hn : s4 < a.tmps.size) (hp : a.tmps[p]? = some (.bool c)) (hx : a.tmps[x]? = some (.pointer (some ⟨bx, 0, none⟩)))
    (hg : (ops[g]?).bind (·.dst) = some s0) (hF : FieldIs P T f off) (hu : LoadIs P t u) (he : ∀ args w, (callFunc fn args).run P w = .ok (.enter fn args) w) (hC : Calls P fn #[u, z1, z2] w fun e w' => e = .returned (.bool r) ∧ w = w') (cu : w.cell? ⟨bx, off, none⟩ = some u)
    (h : ∀ v1 v2 v3, wpList P ops Q rest (((((a.put (some s0) (.bool c)).put (some s1) v1).put (some s2) v2).put (some s3) v3).put (some s4) (.bool (c && r))) w) :
    wpList P ops Q ({ dst := some s0, op := .move (.tmp p), type := ty0, pos := po0, after := af0, guard := none } :: { dst := some s1, op := .fieldAddr T (.tmp x) f, type := ty1, pos := po1, after := af1, guard := some (g, true) } :: { dst := some s2, op := .load t (.tmp s1), type := ty2, pos := po2, after := af2, guard := some (g, true) } :: { dst := some s3, op := .call { callee := .value (.func fn), args := #[.tmp s2, .const z1, .const z2], argTypes := ats }, type := ty3, pos := po3, after := af3, guard := some (g, true) } :: { dst := some s4, op := .pick (.tmp s0) (.tmp s3) (.const (.bool false)), type := ty4, pos := po4, after := af4, guard := none } :: rest) a w := by
  obtain ⟨h1, h2, h3, h4, hx1⟩ := ho
  refine list_ev (v := .bool c) rfl (ev_move rfl hp) ?_
  have b0 : (a.put (some s0) (.bool c)).tmps[s0]? = some (.bool c) := put_at _ _ _ (by omega)
  cases c with
  | false =>
    refine list_off ((want_at rfl hg b0).trans rfl) ?_
    refine list_off ((want_at rfl hg (by rw [put_ne _ _ (by omega)]; exact b0)).trans rfl) ?_
    refine list_off ((want_at rfl hg (by rw [put_ne _ _ (by omega), put_ne _ _ (by omega)]; exact b0)).trans rfl) ?_
    refine list_ev (v := .bool false) rfl (ev_pick (u := undef) (c := false) rfl (by rw [put_ne _ _ (by omega), put_ne _ _ (by omega), put_ne _ _ (by omega)]; exact b0) (fun q => by cases q)) ?_
    exact h _ _ _
  | true =>
    refine list_ev (v := .pointer (some ⟨bx, off, none⟩)) ((want_at rfl hg b0).trans rfl) (ev_field rfl (by rw [put_ne _ _ (by omega)]; exact hx) hF) ?_
    refine list_ev (v := u) ((want_at rfl hg (by rw [put_ne _ _ (by omega)]; exact b0)).trans rfl) (ev_load rfl (put_at _ _ _ (by simp only [put_size]; omega)) hu cu) ?_
    refine list_call (fn := fn) (v := .bool r) ((want_at rfl hg (by rw [put_ne _ _ (by omega), put_ne _ _ (by omega)]; exact b0)).trans rfl) (ev_call (put_at _ _ _ (by simp only [put_size]; omega)) he) hC ?_
    refine list_ev (v := .bool r) rfl (ev_pick (u := .bool r) (c := true) rfl (by rw [put_ne _ _ (by omega), put_ne _ _ (by omega), put_ne _ _ (by omega)]; exact b0) (fun _ => put_at _ _ _ (by simp only [put_size]; omega))) ?_
    exact h _ _ _
theorem cmp_first (ho : s1 + 1 = s2 ∧ s2 + 1 = s3 ∧ x < s1) (hn : s3 < a.tmps.size) (hx : a.tmps[x]? = some (.pointer (some ⟨bx, 0, none⟩)))
    (hF : FieldIs P T f off) (hu : LoadIs P t u) (hE : BinIs P bop t u z1 r) (cu : w.cell? ⟨bx, off, none⟩ = some u)
    (h : ∀ v1 v2, wpList P ops Q rest (((a.put (some s1) v1).put (some s2) v2).put (some s3) (.bool r)) w) :
    wpList P ops Q ({ dst := some s1, op := .fieldAddr T (.tmp x) f, type := ty1, pos := po1, after := af1, guard := none } :: { dst := some s2, op := .load t (.tmp s1), type := ty2, pos := po2, after := af2, guard := none } :: { dst := some s3, op := .binOp bop t (.tmp s2) (.const z1) t2, type := ty3, pos := po3, after := af3, guard := none } :: rest) a w := by
  obtain ⟨h2, h3, hx1⟩ := ho
  refine list_ev (v := .pointer (some ⟨bx, off, none⟩)) rfl (ev_field rfl hx hF) ?_
  refine list_ev (v := u) rfl (ev_load rfl (put_at _ _ _ (by omega)) hu cu) ?_
  refine list_ev (v := .bool r) rfl (ev_bin rfl (put_at _ _ _ (by simp only [put_size]; omega)) hE) ?_
  exact h _ _
theorem cmp_and (ho : s0 + 1 = s1 ∧ s1 + 1 = s2 ∧ s2 + 1 = s3 ∧ s3 + 1 = s4 ∧ x < s0) (hn : s4 < a.tmps.size) (hp : a.tmps[p]? = some (.bool c)) (hx : a.tmps[x]? = some (.pointer (some ⟨bx, 0, none⟩)))
    (hg : (ops[g]?).bind (·.dst) = some s0) (hF : FieldIs P T f off) (hu : LoadIs P t u) (hE : BinIs P bop t u z1 r) (cu : w.cell? ⟨bx, off, none⟩ = some u)
    (h : ∀ v1 v2 v3, wpList P ops Q rest (((((a.put (some s0) (.bool c)).put (some s1) v1).put (some s2) v2).put (some s3) v3).put (some s4) (.bool (c && r))) w) :
    wpList P ops Q ({ dst := some s0, op := .move (.tmp p), type := ty0, pos := po0, after := af0, guard := none } :: { dst := some s1, op := .fieldAddr T (.tmp x) f, type := ty1, pos := po1, after := af1, guard := some (g, true) } :: { dst := some s2, op := .load t (.tmp s1), type := ty2, pos := po2, after := af2, guard := some (g, true) } :: { dst := some s3, op := .binOp bop t (.tmp s2) (.const z1) t2, type := ty3, pos := po3, after := af3, guard := some (g, true) } :: { dst := some s4, op := .pick (.tmp s0) (.tmp s3) (.const (.bool false)), type := ty4, pos := po4, after := af4, guard := none } :: rest) a w := by
  obtain ⟨h1, h2, h3, h4, hx1⟩ := ho
  refine list_ev (v := .bool c) rfl (ev_move rfl hp) ?_
  have b0 : (a.put (some s0) (.bool c)).tmps[s0]? = some (.bool c) := put_at _ _ _ (by omega)
  cases c with
  | false =>
    refine list_off ((want_at rfl hg b0).trans rfl) ?_
    refine list_off ((want_at rfl hg (by rw [put_ne _ _ (by omega)]; exact b0)).trans rfl) ?_
    refine list_off ((want_at rfl hg (by rw [put_ne _ _ (by omega), put_ne _ _ (by omega)]; exact b0)).trans rfl) ?_
    refine list_ev (v := .bool false) rfl (ev_pick (u := undef) (c := false) rfl (by rw [put_ne _ _ (by omega), put_ne _ _ (by omega), put_ne _ _ (by omega)]; exact b0) (fun q => by cases q)) ?_
    exact h _ _ _
  | true =>
    refine list_ev (v := .pointer (some ⟨bx, off, none⟩)) ((want_at rfl hg b0).trans rfl) (ev_field rfl (by rw [put_ne _ _ (by omega)]; exact hx) hF) ?_
    refine list_ev (v := u) ((want_at rfl hg (by rw [put_ne _ _ (by omega)]; exact b0)).trans rfl) (ev_load rfl (put_at _ _ _ (by simp only [put_size]; omega)) hu cu) ?_
    refine list_ev (v := .bool r) ((want_at rfl hg (by rw [put_ne _ _ (by omega), put_ne _ _ (by omega)]; exact b0)).trans rfl) (ev_bin rfl (put_at _ _ _ (by simp only [put_size]; omega)) hE) ?_
    refine list_ev (v := .bool r) rfl (ev_pick (u := .bool r) (c := true) rfl (by rw [put_ne _ _ (by omega), put_ne _ _ (by omega), put_ne _ _ (by omega)]; exact b0) (fun _ => put_at _ _ _ (by simp only [put_size]; omega))) ?_
    exact h _ _ _
theorem cmp_or (ho : s0 + 1 = s1 ∧ s1 + 1 = s2 ∧ s2 + 1 = s3 ∧ s3 + 1 = s4 ∧ x < s0) (hn : s4 < a.tmps.size) (hp : a.tmps[p]? = some (.bool c)) (hx : a.tmps[x]? = some (.pointer (some ⟨bx, 0, none⟩)))
    (hg : (ops[g]?).bind (·.dst) = some s0) (hF : FieldIs P T f off) (hu : LoadIs P t u) (hE : BinIs P bop t u z1 r) (cu : w.cell? ⟨bx, off, none⟩ = some u)
    (h : ∀ v1 v2 v3, wpList P ops Q rest (((((a.put (some s0) (.bool c)).put (some s1) v1).put (some s2) v2).put (some s3) v3).put (some s4) (.bool (c || r))) w) :
    wpList P ops Q ({ dst := some s0, op := .move (.tmp p), type := ty0, pos := po0, after := af0, guard := none } :: { dst := some s1, op := .fieldAddr T (.tmp x) f, type := ty1, pos := po1, after := af1, guard := some (g, false) } :: { dst := some s2, op := .load t (.tmp s1), type := ty2, pos := po2, after := af2, guard := some (g, false) } :: { dst := some s3, op := .binOp bop t (.tmp s2) (.const z1) t2, type := ty3, pos := po3, after := af3, guard := some (g, false) } :: { dst := some s4, op := .pick (.tmp s0) (.const (.bool true)) (.tmp s3), type := ty4, pos := po4, after := af4, guard := none } :: rest) a w := by
  obtain ⟨h1, h2, h3, h4, hx1⟩ := ho
  refine list_ev (v := .bool c) rfl (ev_move rfl hp) ?_
  have b0 : (a.put (some s0) (.bool c)).tmps[s0]? = some (.bool c) := put_at _ _ _ (by omega)
  cases c with
  | true =>
    refine list_off ((want_at rfl hg b0).trans rfl) ?_
    refine list_off ((want_at rfl hg (by rw [put_ne _ _ (by omega)]; exact b0)).trans rfl) ?_
    refine list_off ((want_at rfl hg (by rw [put_ne _ _ (by omega), put_ne _ _ (by omega)]; exact b0)).trans rfl) ?_
    refine list_ev (v := .bool true) rfl (ev_pick_or (u := undef) (c := true) rfl (by rw [put_ne _ _ (by omega), put_ne _ _ (by omega), put_ne _ _ (by omega)]; exact b0) (fun q => by cases q)) ?_
    exact h _ _ _
  | false =>
    refine list_ev (v := .pointer (some ⟨bx, off, none⟩)) ((want_at rfl hg b0).trans rfl) (ev_field rfl (by rw [put_ne _ _ (by omega)]; exact hx) hF) ?_
    refine list_ev (v := u) ((want_at rfl hg (by rw [put_ne _ _ (by omega)]; exact b0)).trans rfl) (ev_load rfl (put_at _ _ _ (by simp only [put_size]; omega)) hu cu) ?_
    refine list_ev (v := .bool r) ((want_at rfl hg (by rw [put_ne _ _ (by omega), put_ne _ _ (by omega)]; exact b0)).trans rfl) (ev_bin rfl (put_at _ _ _ (by simp only [put_size]; omega)) hE) ?_
    refine list_ev (v := .bool r) rfl (ev_pick_or (u := .bool r) (c := false) rfl (by rw [put_ne _ _ (by omega), put_ne _ _ (by omega), put_ne _ _ (by omega)]; exact b0) (fun _ => put_at _ _ _ (by simp only [put_size]; omega))) ?_
    exact h _ _ _
end
/-- A boxed struct, loaded whole. -/
theorem ev_whole {P : Program} {w : World} {a : Act} {o : Oper} {T s b : Nat} {cs : Array Value} {t : TypeId} {fr : Nat × Nat} {d : TypeDesc} (ho : o.op = .load T (.tmp s)) (hs : a.tmps[s]? = some (.pointer (some ⟨b, 0, none⟩))) (hg : w.heap[b]? = some (.cells cs t fr))
    (hu : P.underlying T = some d) (hd : (match d with | .struct _ | .array _ _ => true | _ => false) = true) (hi : (P.info? T).map (·.size) = some cs.size) : (execOp a.eval o).run P w = .ok (.value (.agg cs)) w := by
  unfold execOp; rw [ho]; simp only [eval_at hs]
  refine run_val ?_
  have h := run_loadVar_row (P := P) w b t T cs fr d hg hu hd hi
  simpa [Instr.loadAt, go_sem] using h
end Ch
end Go.Proofs.YtlefgffnjcmfoaaGreatDoor
namespace Go.Proofs.YtlefgffnjcmfoaaGreatDoor
open Go.RowKit
namespace Ch
theorem load_int (z : Int) : LoadIs Tryz.prog 3 (.int .i64 z) := fun b off w h => by go_simp
theorem load_bool (c : Bool) : LoadIs Tryz.prog 4 (.bool c) := fun b off w h => by go_simp
theorem load_str (s : ByteArray) : LoadIs Tryz.prog 9 (.string s) := fun b off w h => by go_simp
theorem eql_int (x y : Int) : EqlIs Tryz.prog 3 (.int .i64 x) (.int .i64 y) (decide (x = y)) := fun o1 o2 w => by
  by_cases h : x = y
  · subst h; go_simp
  · have h' : (x == y) = false := by simpa using h
    rw [decide_eq_false h]
    go_simp
theorem eql_bool (x y : Bool) : EqlIs Tryz.prog 4 (.bool x) (.bool y) (decide (x = y)) := fun o1 o2 w => by
  cases x <;> cases y <;> go_simp
theorem eql_str (x y : List UInt8) : EqlIs Tryz.prog 9 (.string (bs x)) (.string (bs y)) (decide (x = y)) := fun o1 o2 w => by
  by_cases h : x = y
  · subst h; go_simp
  · have h' : ((bs x).toList == (bs y).toList) = false := by rw [bs_toList, bs_toList]; simpa using h
    rw [decide_eq_false h]
    go_simp
end Ch
end Go.Proofs.YtlefgffnjcmfoaaGreatDoor
namespace Go.Proofs.YtlefgffnjcmfoaaGreatDoor
open Go.RowKit Go.Maps Go.ChangeMaps Go.MapKept
open Lx Sy Ch
attribute [local go_sem ↓] Go.wp_at_zero Go.wp_at_succ
def oneB (p q : Pf) : Bool := (((((((((decide (p.name = q.name) && decide (p.edit = q.edit)) && decide (p.within = q.within)) && decide (p.delete = q.delete)) && decide (p.react = q.react)) && decide (p.thread = q.thread)) && decide (p.quote = q.quote)) && decide (p.mention = q.mention)) && decide (p.size = q.size)) && decide (p.parts = q.parts))
def twoB (p q : Pf) : Bool := ((((((((((decide (p.files = q.files) && decide (p.bytes = q.bytes)) && decide (p.join = q.join)) && decide (p.history = q.history)) && decide (p.remove = q.remove)) && decide (p.level = q.level)) && decide (p.batch = q.batch)) && decide (p.rate = q.rate)) && decide (p.down = q.down)) && decide (p.window = q.window)) && decide (p.keep = q.keep))
theorem one_iff {p q : Pf} : oneB p q = true ↔ p.name = q.name ∧ p.edit = q.edit ∧ p.within = q.within ∧ p.delete = q.delete ∧ p.react = q.react ∧ p.thread = q.thread ∧ p.quote = q.quote ∧ p.mention = q.mention ∧ p.size = q.size ∧ p.parts = q.parts := by simp only [oneB, Bool.and_eq_true, decide_eq_true_eq, and_assoc]
theorem two_iff {p q : Pf} : twoB p q = true ↔ p.files = q.files ∧ p.bytes = q.bytes ∧ p.join = q.join ∧ p.history = q.history ∧ p.remove = q.remove ∧ p.level = q.level ∧ p.batch = q.batch ∧ p.rate = q.rate ∧ p.down = q.down ∧ p.window = q.window ∧ p.keep = q.keep := by simp only [twoB, Bool.and_eq_true, decide_eq_true_eq, and_assoc]
theorem same_iff {p q : Pf} (ht : p.types = q.types) : (oneB p q && twoB p q) = decide (p = q) := by
  rw [Bool.eq_iff_iff, Bool.and_eq_true, one_iff, two_iff, decide_eq_true_eq]
  constructor
  · rintro ⟨⟨a0, a1, a2, a3, a4, a5, a6, a7, a8, a9⟩, ⟨a10, a11, a13, a14, a15, a16, a17, a18, a19, a20, a21⟩⟩
    cases p; cases q; simp_all
  · intro h; subst h; simp
theorem list_not {α : Type} {x y : List α} {k : Nat} {p q : α} (hp : x[k]? = some p) (hq : y[k]? = some q) (h : p ≠ q) : x ≠ y := by rintro rfl; rw [hp] at hq; cases hq; exact h rfl
theorem list_take {α : Type} {x y : List α} {k : Nat} {p : α} (h : x.take k = y.take k) (hp : x[k]? = some p) (hq : y[k]? = some p) : x.take (k + 1) = y.take (k + 1) := by rw [List.take_add_one, List.take_add_one, h, hp, hq]
theorem pf0 : FieldIs Tryz.prog 24 0 0 := fun b w => by go_simp
theorem pf1 : FieldIs Tryz.prog 24 1 1 := fun b w => by go_simp
theorem pf2 : FieldIs Tryz.prog 24 2 2 := fun b w => by go_simp
theorem pf3 : FieldIs Tryz.prog 24 3 3 := fun b w => by go_simp
theorem pf4 : FieldIs Tryz.prog 24 4 4 := fun b w => by go_simp
theorem pf5 : FieldIs Tryz.prog 24 5 5 := fun b w => by go_simp
theorem pf6 : FieldIs Tryz.prog 24 6 6 := fun b w => by go_simp
theorem pf7 : FieldIs Tryz.prog 24 7 7 := fun b w => by go_simp
theorem pf8 : FieldIs Tryz.prog 24 8 8 := fun b w => by go_simp
theorem pf9 : FieldIs Tryz.prog 24 9 9 := fun b w => by go_simp
theorem pf10 : FieldIs Tryz.prog 24 10 10 := fun b w => by go_simp
theorem pf11 : FieldIs Tryz.prog 24 11 11 := fun b w => by go_simp
theorem pf13 : FieldIs Tryz.prog 24 13 13 := fun b w => by go_simp
theorem pf14 : FieldIs Tryz.prog 24 14 14 := fun b w => by go_simp
theorem pf15 : FieldIs Tryz.prog 24 15 15 := fun b w => by go_simp
theorem pf16 : FieldIs Tryz.prog 24 16 16 := fun b w => by go_simp
theorem pf17 : FieldIs Tryz.prog 24 17 17 := fun b w => by go_simp
theorem pf18 : FieldIs Tryz.prog 24 18 18 := fun b w => by go_simp
theorem pf19 : FieldIs Tryz.prog 24 19 19 := fun b w => by go_simp
theorem pf20 : FieldIs Tryz.prog 24 20 20 := fun b w => by go_simp
theorem pf21 : FieldIs Tryz.prog 24 21 21 := fun b w => by go_simp
set_option maxHeartbeats 16000000 in
set_option maxRecDepth 100000 in
theorem y_same {w : World} {x y : Value} {p q : Pf} (hx : PfAt w x p) (hy : PfAt w y q) (hl : p.types.length ≤ 100000) : Calls Tryz.prog 10 #[x, y] w fun e w' => e = .returned (.bool (decide (p = q))) ∧ Below w.heap.size w w' := by
  obtain ⟨tv, rfl, ht⟩ := hx
  obtain ⟨ta, tc, rfl⟩ := ht.slice
  obtain ⟨uv, rfl, hu⟩ := hy
  obtain ⟨ua, uc, rfl⟩ := hu.slice
  unfold pfV
  have hb0 : Below w.heap.size w ((w.alloc (.cells #[.string (bs p.name), .int .i64 p.edit, .int .i64 p.within, .int .i64 p.delete, .bool p.react, .int .i64 p.thread, .bool p.quote, .bool p.mention, .int .i64 p.size, .int .i64 p.parts, .int .i64 p.files, .int .i64 p.bytes, .slice ta p.types.length tc, .int .i64 p.join, .int .i64 p.history, .int .i64 p.remove, .int .i64 p.level, .bool p.batch, .int .i64 p.rate, .int .i64 p.down, .int .i64 p.window, .int .i64 p.keep] 24)).alloc (.cells #[.string (bs q.name), .int .i64 q.edit, .int .i64 q.within, .int .i64 q.delete, .bool q.react, .int .i64 q.thread, .bool q.quote, .bool q.mention, .int .i64 q.size, .int .i64 q.parts, .int .i64 q.files, .int .i64 q.bytes, .slice ua q.types.length uc, .int .i64 q.join, .int .i64 q.history, .int .i64 q.remove, .int .i64 q.level, .bool q.batch, .int .i64 q.rate, .int .i64 q.down, .int .i64 q.window, .int .i64 q.keep] 24)) := ((Below.refl _ _).alloc (Nat.le_refl _) _).alloc (by simp) _
  have HB0 := Lib.hid hb0
  have HT := Lib.hid (ht.keep hb0)
  have HU := Lib.hid (hu.keep hb0)
  have hm := (OMem.start w).two (.cells #[.string (bs p.name), .int .i64 p.edit, .int .i64 p.within, .int .i64 p.delete, .bool p.react, .int .i64 p.thread, .bool p.quote, .bool p.mention, .int .i64 p.size, .int .i64 p.parts, .int .i64 p.files, .int .i64 p.bytes, .slice ta p.types.length tc, .int .i64 p.join, .int .i64 p.history, .int .i64 p.remove, .int .i64 p.level, .bool p.batch, .int .i64 p.rate, .int .i64 p.down, .int .i64 p.window, .int .i64 p.keep] 24 (0, 0)) (.cells #[.string (bs q.name), .int .i64 q.edit, .int .i64 q.within, .int .i64 q.delete, .bool q.react, .int .i64 q.thread, .bool q.quote, .bool q.mention, .int .i64 q.size, .int .i64 q.parts, .int .i64 q.files, .int .i64 q.bytes, .slice ua q.types.length uc, .int .i64 q.join, .int .i64 q.history, .int .i64 q.remove, .int .i64 q.level, .bool q.batch, .int .i64 q.rate, .int .i64 q.down, .int .i64 q.window, .int .i64 q.keep] 24 (0, 0))
  have hh := hm.raw_at (i := 0) rfl
  have hk := hm.raw_at (i := 1) rfl
  have g12 : ((w.alloc (.cells #[.string (bs p.name), .int .i64 p.edit, .int .i64 p.within, .int .i64 p.delete, .bool p.react, .int .i64 p.thread, .bool p.quote, .bool p.mention, .int .i64 p.size, .int .i64 p.parts, .int .i64 p.files, .int .i64 p.bytes, .slice ta p.types.length tc, .int .i64 p.join, .int .i64 p.history, .int .i64 p.remove, .int .i64 p.level, .bool p.batch, .int .i64 p.rate, .int .i64 p.down, .int .i64 p.window, .int .i64 p.keep] 24)).alloc (.cells #[.string (bs q.name), .int .i64 q.edit, .int .i64 q.within, .int .i64 q.delete, .bool q.react, .int .i64 q.thread, .bool q.quote, .bool q.mention, .int .i64 q.size, .int .i64 q.parts, .int .i64 q.files, .int .i64 q.bytes, .slice ua q.types.length uc, .int .i64 q.join, .int .i64 q.history, .int .i64 q.remove, .int .i64 q.level, .bool q.batch, .int .i64 q.rate, .int .i64 q.down, .int .i64 q.window, .int .i64 q.keep] 24)).cell? ⟨w.heap.size, 12, none⟩ = some (.slice ta p.types.length tc) := by rw [Lib.cell_of_heap hh]; rfl
  have d12 : ((w.alloc (.cells #[.string (bs p.name), .int .i64 p.edit, .int .i64 p.within, .int .i64 p.delete, .bool p.react, .int .i64 p.thread, .bool p.quote, .bool p.mention, .int .i64 p.size, .int .i64 p.parts, .int .i64 p.files, .int .i64 p.bytes, .slice ta p.types.length tc, .int .i64 p.join, .int .i64 p.history, .int .i64 p.remove, .int .i64 p.level, .bool p.batch, .int .i64 p.rate, .int .i64 p.down, .int .i64 p.window, .int .i64 p.keep] 24)).alloc (.cells #[.string (bs q.name), .int .i64 q.edit, .int .i64 q.within, .int .i64 q.delete, .bool q.react, .int .i64 q.thread, .bool q.quote, .bool q.mention, .int .i64 q.size, .int .i64 q.parts, .int .i64 q.files, .int .i64 q.bytes, .slice ua q.types.length uc, .int .i64 q.join, .int .i64 q.history, .int .i64 q.remove, .int .i64 q.level, .bool q.batch, .int .i64 q.rate, .int .i64 q.down, .int .i64 q.window, .int .i64 q.keep] 24)).cell? ⟨w.heap.size + 1, 12, none⟩ = some (.slice ua q.types.length uc) := by rw [Lib.cell_of_heap hk]; rfl
  have HG := Lib.hid (show ((w.alloc (.cells #[.string (bs p.name), .int .i64 p.edit, .int .i64 p.within, .int .i64 p.delete, .bool p.react, .int .i64 p.thread, .bool p.quote, .bool p.mention, .int .i64 p.size, .int .i64 p.parts, .int .i64 p.files, .int .i64 p.bytes, .slice ta p.types.length tc, .int .i64 p.join, .int .i64 p.history, .int .i64 p.remove, .int .i64 p.level, .bool p.batch, .int .i64 p.rate, .int .i64 p.down, .int .i64 p.window, .int .i64 p.keep] 24)).alloc (.cells #[.string (bs q.name), .int .i64 q.edit, .int .i64 q.within, .int .i64 q.delete, .bool q.react, .int .i64 q.thread, .bool q.quote, .bool q.mention, .int .i64 q.size, .int .i64 q.parts, .int .i64 q.files, .int .i64 q.bytes, .slice ua q.types.length uc, .int .i64 q.join, .int .i64 q.history, .int .i64 q.remove, .int .i64 q.level, .bool q.batch, .int .i64 q.rate, .int .i64 q.down, .int .i64 q.window, .int .i64 q.keep] 24)).cell? ⟨w.heap.size, 0, none⟩ = some (.string (bs p.name)) ∧ ((w.alloc (.cells #[.string (bs p.name), .int .i64 p.edit, .int .i64 p.within, .int .i64 p.delete, .bool p.react, .int .i64 p.thread, .bool p.quote, .bool p.mention, .int .i64 p.size, .int .i64 p.parts, .int .i64 p.files, .int .i64 p.bytes, .slice ta p.types.length tc, .int .i64 p.join, .int .i64 p.history, .int .i64 p.remove, .int .i64 p.level, .bool p.batch, .int .i64 p.rate, .int .i64 p.down, .int .i64 p.window, .int .i64 p.keep] 24)).alloc (.cells #[.string (bs q.name), .int .i64 q.edit, .int .i64 q.within, .int .i64 q.delete, .bool q.react, .int .i64 q.thread, .bool q.quote, .bool q.mention, .int .i64 q.size, .int .i64 q.parts, .int .i64 q.files, .int .i64 q.bytes, .slice ua q.types.length uc, .int .i64 q.join, .int .i64 q.history, .int .i64 q.remove, .int .i64 q.level, .bool q.batch, .int .i64 q.rate, .int .i64 q.down, .int .i64 q.window, .int .i64 q.keep] 24)).cell? ⟨w.heap.size + 1, 0, none⟩ = some (.string (bs q.name)) ∧ ((w.alloc (.cells #[.string (bs p.name), .int .i64 p.edit, .int .i64 p.within, .int .i64 p.delete, .bool p.react, .int .i64 p.thread, .bool p.quote, .bool p.mention, .int .i64 p.size, .int .i64 p.parts, .int .i64 p.files, .int .i64 p.bytes, .slice ta p.types.length tc, .int .i64 p.join, .int .i64 p.history, .int .i64 p.remove, .int .i64 p.level, .bool p.batch, .int .i64 p.rate, .int .i64 p.down, .int .i64 p.window, .int .i64 p.keep] 24)).alloc (.cells #[.string (bs q.name), .int .i64 q.edit, .int .i64 q.within, .int .i64 q.delete, .bool q.react, .int .i64 q.thread, .bool q.quote, .bool q.mention, .int .i64 q.size, .int .i64 q.parts, .int .i64 q.files, .int .i64 q.bytes, .slice ua q.types.length uc, .int .i64 q.join, .int .i64 q.history, .int .i64 q.remove, .int .i64 q.level, .bool q.batch, .int .i64 q.rate, .int .i64 q.down, .int .i64 q.window, .int .i64 q.keep] 24)).cell? ⟨w.heap.size, 1, none⟩ = some (.int .i64 p.edit) ∧ ((w.alloc (.cells #[.string (bs p.name), .int .i64 p.edit, .int .i64 p.within, .int .i64 p.delete, .bool p.react, .int .i64 p.thread, .bool p.quote, .bool p.mention, .int .i64 p.size, .int .i64 p.parts, .int .i64 p.files, .int .i64 p.bytes, .slice ta p.types.length tc, .int .i64 p.join, .int .i64 p.history, .int .i64 p.remove, .int .i64 p.level, .bool p.batch, .int .i64 p.rate, .int .i64 p.down, .int .i64 p.window, .int .i64 p.keep] 24)).alloc (.cells #[.string (bs q.name), .int .i64 q.edit, .int .i64 q.within, .int .i64 q.delete, .bool q.react, .int .i64 q.thread, .bool q.quote, .bool q.mention, .int .i64 q.size, .int .i64 q.parts, .int .i64 q.files, .int .i64 q.bytes, .slice ua q.types.length uc, .int .i64 q.join, .int .i64 q.history, .int .i64 q.remove, .int .i64 q.level, .bool q.batch, .int .i64 q.rate, .int .i64 q.down, .int .i64 q.window, .int .i64 q.keep] 24)).cell? ⟨w.heap.size + 1, 1, none⟩ = some (.int .i64 q.edit) ∧ ((w.alloc (.cells #[.string (bs p.name), .int .i64 p.edit, .int .i64 p.within, .int .i64 p.delete, .bool p.react, .int .i64 p.thread, .bool p.quote, .bool p.mention, .int .i64 p.size, .int .i64 p.parts, .int .i64 p.files, .int .i64 p.bytes, .slice ta p.types.length tc, .int .i64 p.join, .int .i64 p.history, .int .i64 p.remove, .int .i64 p.level, .bool p.batch, .int .i64 p.rate, .int .i64 p.down, .int .i64 p.window, .int .i64 p.keep] 24)).alloc (.cells #[.string (bs q.name), .int .i64 q.edit, .int .i64 q.within, .int .i64 q.delete, .bool q.react, .int .i64 q.thread, .bool q.quote, .bool q.mention, .int .i64 q.size, .int .i64 q.parts, .int .i64 q.files, .int .i64 q.bytes, .slice ua q.types.length uc, .int .i64 q.join, .int .i64 q.history, .int .i64 q.remove, .int .i64 q.level, .bool q.batch, .int .i64 q.rate, .int .i64 q.down, .int .i64 q.window, .int .i64 q.keep] 24)).cell? ⟨w.heap.size, 2, none⟩ = some (.int .i64 p.within) ∧ ((w.alloc (.cells #[.string (bs p.name), .int .i64 p.edit, .int .i64 p.within, .int .i64 p.delete, .bool p.react, .int .i64 p.thread, .bool p.quote, .bool p.mention, .int .i64 p.size, .int .i64 p.parts, .int .i64 p.files, .int .i64 p.bytes, .slice ta p.types.length tc, .int .i64 p.join, .int .i64 p.history, .int .i64 p.remove, .int .i64 p.level, .bool p.batch, .int .i64 p.rate, .int .i64 p.down, .int .i64 p.window, .int .i64 p.keep] 24)).alloc (.cells #[.string (bs q.name), .int .i64 q.edit, .int .i64 q.within, .int .i64 q.delete, .bool q.react, .int .i64 q.thread, .bool q.quote, .bool q.mention, .int .i64 q.size, .int .i64 q.parts, .int .i64 q.files, .int .i64 q.bytes, .slice ua q.types.length uc, .int .i64 q.join, .int .i64 q.history, .int .i64 q.remove, .int .i64 q.level, .bool q.batch, .int .i64 q.rate, .int .i64 q.down, .int .i64 q.window, .int .i64 q.keep] 24)).cell? ⟨w.heap.size + 1, 2, none⟩ = some (.int .i64 q.within) ∧ ((w.alloc (.cells #[.string (bs p.name), .int .i64 p.edit, .int .i64 p.within, .int .i64 p.delete, .bool p.react, .int .i64 p.thread, .bool p.quote, .bool p.mention, .int .i64 p.size, .int .i64 p.parts, .int .i64 p.files, .int .i64 p.bytes, .slice ta p.types.length tc, .int .i64 p.join, .int .i64 p.history, .int .i64 p.remove, .int .i64 p.level, .bool p.batch, .int .i64 p.rate, .int .i64 p.down, .int .i64 p.window, .int .i64 p.keep] 24)).alloc (.cells #[.string (bs q.name), .int .i64 q.edit, .int .i64 q.within, .int .i64 q.delete, .bool q.react, .int .i64 q.thread, .bool q.quote, .bool q.mention, .int .i64 q.size, .int .i64 q.parts, .int .i64 q.files, .int .i64 q.bytes, .slice ua q.types.length uc, .int .i64 q.join, .int .i64 q.history, .int .i64 q.remove, .int .i64 q.level, .bool q.batch, .int .i64 q.rate, .int .i64 q.down, .int .i64 q.window, .int .i64 q.keep] 24)).cell? ⟨w.heap.size, 3, none⟩ = some (.int .i64 p.delete) ∧ ((w.alloc (.cells #[.string (bs p.name), .int .i64 p.edit, .int .i64 p.within, .int .i64 p.delete, .bool p.react, .int .i64 p.thread, .bool p.quote, .bool p.mention, .int .i64 p.size, .int .i64 p.parts, .int .i64 p.files, .int .i64 p.bytes, .slice ta p.types.length tc, .int .i64 p.join, .int .i64 p.history, .int .i64 p.remove, .int .i64 p.level, .bool p.batch, .int .i64 p.rate, .int .i64 p.down, .int .i64 p.window, .int .i64 p.keep] 24)).alloc (.cells #[.string (bs q.name), .int .i64 q.edit, .int .i64 q.within, .int .i64 q.delete, .bool q.react, .int .i64 q.thread, .bool q.quote, .bool q.mention, .int .i64 q.size, .int .i64 q.parts, .int .i64 q.files, .int .i64 q.bytes, .slice ua q.types.length uc, .int .i64 q.join, .int .i64 q.history, .int .i64 q.remove, .int .i64 q.level, .bool q.batch, .int .i64 q.rate, .int .i64 q.down, .int .i64 q.window, .int .i64 q.keep] 24)).cell? ⟨w.heap.size + 1, 3, none⟩ = some (.int .i64 q.delete) ∧ ((w.alloc (.cells #[.string (bs p.name), .int .i64 p.edit, .int .i64 p.within, .int .i64 p.delete, .bool p.react, .int .i64 p.thread, .bool p.quote, .bool p.mention, .int .i64 p.size, .int .i64 p.parts, .int .i64 p.files, .int .i64 p.bytes, .slice ta p.types.length tc, .int .i64 p.join, .int .i64 p.history, .int .i64 p.remove, .int .i64 p.level, .bool p.batch, .int .i64 p.rate, .int .i64 p.down, .int .i64 p.window, .int .i64 p.keep] 24)).alloc (.cells #[.string (bs q.name), .int .i64 q.edit, .int .i64 q.within, .int .i64 q.delete, .bool q.react, .int .i64 q.thread, .bool q.quote, .bool q.mention, .int .i64 q.size, .int .i64 q.parts, .int .i64 q.files, .int .i64 q.bytes, .slice ua q.types.length uc, .int .i64 q.join, .int .i64 q.history, .int .i64 q.remove, .int .i64 q.level, .bool q.batch, .int .i64 q.rate, .int .i64 q.down, .int .i64 q.window, .int .i64 q.keep] 24)).cell? ⟨w.heap.size, 4, none⟩ = some (.bool p.react) ∧ ((w.alloc (.cells #[.string (bs p.name), .int .i64 p.edit, .int .i64 p.within, .int .i64 p.delete, .bool p.react, .int .i64 p.thread, .bool p.quote, .bool p.mention, .int .i64 p.size, .int .i64 p.parts, .int .i64 p.files, .int .i64 p.bytes, .slice ta p.types.length tc, .int .i64 p.join, .int .i64 p.history, .int .i64 p.remove, .int .i64 p.level, .bool p.batch, .int .i64 p.rate, .int .i64 p.down, .int .i64 p.window, .int .i64 p.keep] 24)).alloc (.cells #[.string (bs q.name), .int .i64 q.edit, .int .i64 q.within, .int .i64 q.delete, .bool q.react, .int .i64 q.thread, .bool q.quote, .bool q.mention, .int .i64 q.size, .int .i64 q.parts, .int .i64 q.files, .int .i64 q.bytes, .slice ua q.types.length uc, .int .i64 q.join, .int .i64 q.history, .int .i64 q.remove, .int .i64 q.level, .bool q.batch, .int .i64 q.rate, .int .i64 q.down, .int .i64 q.window, .int .i64 q.keep] 24)).cell? ⟨w.heap.size + 1, 4, none⟩ = some (.bool q.react) ∧ ((w.alloc (.cells #[.string (bs p.name), .int .i64 p.edit, .int .i64 p.within, .int .i64 p.delete, .bool p.react, .int .i64 p.thread, .bool p.quote, .bool p.mention, .int .i64 p.size, .int .i64 p.parts, .int .i64 p.files, .int .i64 p.bytes, .slice ta p.types.length tc, .int .i64 p.join, .int .i64 p.history, .int .i64 p.remove, .int .i64 p.level, .bool p.batch, .int .i64 p.rate, .int .i64 p.down, .int .i64 p.window, .int .i64 p.keep] 24)).alloc (.cells #[.string (bs q.name), .int .i64 q.edit, .int .i64 q.within, .int .i64 q.delete, .bool q.react, .int .i64 q.thread, .bool q.quote, .bool q.mention, .int .i64 q.size, .int .i64 q.parts, .int .i64 q.files, .int .i64 q.bytes, .slice ua q.types.length uc, .int .i64 q.join, .int .i64 q.history, .int .i64 q.remove, .int .i64 q.level, .bool q.batch, .int .i64 q.rate, .int .i64 q.down, .int .i64 q.window, .int .i64 q.keep] 24)).cell? ⟨w.heap.size, 5, none⟩ = some (.int .i64 p.thread) ∧ ((w.alloc (.cells #[.string (bs p.name), .int .i64 p.edit, .int .i64 p.within, .int .i64 p.delete, .bool p.react, .int .i64 p.thread, .bool p.quote, .bool p.mention, .int .i64 p.size, .int .i64 p.parts, .int .i64 p.files, .int .i64 p.bytes, .slice ta p.types.length tc, .int .i64 p.join, .int .i64 p.history, .int .i64 p.remove, .int .i64 p.level, .bool p.batch, .int .i64 p.rate, .int .i64 p.down, .int .i64 p.window, .int .i64 p.keep] 24)).alloc (.cells #[.string (bs q.name), .int .i64 q.edit, .int .i64 q.within, .int .i64 q.delete, .bool q.react, .int .i64 q.thread, .bool q.quote, .bool q.mention, .int .i64 q.size, .int .i64 q.parts, .int .i64 q.files, .int .i64 q.bytes, .slice ua q.types.length uc, .int .i64 q.join, .int .i64 q.history, .int .i64 q.remove, .int .i64 q.level, .bool q.batch, .int .i64 q.rate, .int .i64 q.down, .int .i64 q.window, .int .i64 q.keep] 24)).cell? ⟨w.heap.size + 1, 5, none⟩ = some (.int .i64 q.thread) ∧ ((w.alloc (.cells #[.string (bs p.name), .int .i64 p.edit, .int .i64 p.within, .int .i64 p.delete, .bool p.react, .int .i64 p.thread, .bool p.quote, .bool p.mention, .int .i64 p.size, .int .i64 p.parts, .int .i64 p.files, .int .i64 p.bytes, .slice ta p.types.length tc, .int .i64 p.join, .int .i64 p.history, .int .i64 p.remove, .int .i64 p.level, .bool p.batch, .int .i64 p.rate, .int .i64 p.down, .int .i64 p.window, .int .i64 p.keep] 24)).alloc (.cells #[.string (bs q.name), .int .i64 q.edit, .int .i64 q.within, .int .i64 q.delete, .bool q.react, .int .i64 q.thread, .bool q.quote, .bool q.mention, .int .i64 q.size, .int .i64 q.parts, .int .i64 q.files, .int .i64 q.bytes, .slice ua q.types.length uc, .int .i64 q.join, .int .i64 q.history, .int .i64 q.remove, .int .i64 q.level, .bool q.batch, .int .i64 q.rate, .int .i64 q.down, .int .i64 q.window, .int .i64 q.keep] 24)).cell? ⟨w.heap.size, 6, none⟩ = some (.bool p.quote) ∧ ((w.alloc (.cells #[.string (bs p.name), .int .i64 p.edit, .int .i64 p.within, .int .i64 p.delete, .bool p.react, .int .i64 p.thread, .bool p.quote, .bool p.mention, .int .i64 p.size, .int .i64 p.parts, .int .i64 p.files, .int .i64 p.bytes, .slice ta p.types.length tc, .int .i64 p.join, .int .i64 p.history, .int .i64 p.remove, .int .i64 p.level, .bool p.batch, .int .i64 p.rate, .int .i64 p.down, .int .i64 p.window, .int .i64 p.keep] 24)).alloc (.cells #[.string (bs q.name), .int .i64 q.edit, .int .i64 q.within, .int .i64 q.delete, .bool q.react, .int .i64 q.thread, .bool q.quote, .bool q.mention, .int .i64 q.size, .int .i64 q.parts, .int .i64 q.files, .int .i64 q.bytes, .slice ua q.types.length uc, .int .i64 q.join, .int .i64 q.history, .int .i64 q.remove, .int .i64 q.level, .bool q.batch, .int .i64 q.rate, .int .i64 q.down, .int .i64 q.window, .int .i64 q.keep] 24)).cell? ⟨w.heap.size + 1, 6, none⟩ = some (.bool q.quote) ∧ ((w.alloc (.cells #[.string (bs p.name), .int .i64 p.edit, .int .i64 p.within, .int .i64 p.delete, .bool p.react, .int .i64 p.thread, .bool p.quote, .bool p.mention, .int .i64 p.size, .int .i64 p.parts, .int .i64 p.files, .int .i64 p.bytes, .slice ta p.types.length tc, .int .i64 p.join, .int .i64 p.history, .int .i64 p.remove, .int .i64 p.level, .bool p.batch, .int .i64 p.rate, .int .i64 p.down, .int .i64 p.window, .int .i64 p.keep] 24)).alloc (.cells #[.string (bs q.name), .int .i64 q.edit, .int .i64 q.within, .int .i64 q.delete, .bool q.react, .int .i64 q.thread, .bool q.quote, .bool q.mention, .int .i64 q.size, .int .i64 q.parts, .int .i64 q.files, .int .i64 q.bytes, .slice ua q.types.length uc, .int .i64 q.join, .int .i64 q.history, .int .i64 q.remove, .int .i64 q.level, .bool q.batch, .int .i64 q.rate, .int .i64 q.down, .int .i64 q.window, .int .i64 q.keep] 24)).cell? ⟨w.heap.size, 7, none⟩ = some (.bool p.mention) ∧ ((w.alloc (.cells #[.string (bs p.name), .int .i64 p.edit, .int .i64 p.within, .int .i64 p.delete, .bool p.react, .int .i64 p.thread, .bool p.quote, .bool p.mention, .int .i64 p.size, .int .i64 p.parts, .int .i64 p.files, .int .i64 p.bytes, .slice ta p.types.length tc, .int .i64 p.join, .int .i64 p.history, .int .i64 p.remove, .int .i64 p.level, .bool p.batch, .int .i64 p.rate, .int .i64 p.down, .int .i64 p.window, .int .i64 p.keep] 24)).alloc (.cells #[.string (bs q.name), .int .i64 q.edit, .int .i64 q.within, .int .i64 q.delete, .bool q.react, .int .i64 q.thread, .bool q.quote, .bool q.mention, .int .i64 q.size, .int .i64 q.parts, .int .i64 q.files, .int .i64 q.bytes, .slice ua q.types.length uc, .int .i64 q.join, .int .i64 q.history, .int .i64 q.remove, .int .i64 q.level, .bool q.batch, .int .i64 q.rate, .int .i64 q.down, .int .i64 q.window, .int .i64 q.keep] 24)).cell? ⟨w.heap.size + 1, 7, none⟩ = some (.bool q.mention) ∧ ((w.alloc (.cells #[.string (bs p.name), .int .i64 p.edit, .int .i64 p.within, .int .i64 p.delete, .bool p.react, .int .i64 p.thread, .bool p.quote, .bool p.mention, .int .i64 p.size, .int .i64 p.parts, .int .i64 p.files, .int .i64 p.bytes, .slice ta p.types.length tc, .int .i64 p.join, .int .i64 p.history, .int .i64 p.remove, .int .i64 p.level, .bool p.batch, .int .i64 p.rate, .int .i64 p.down, .int .i64 p.window, .int .i64 p.keep] 24)).alloc (.cells #[.string (bs q.name), .int .i64 q.edit, .int .i64 q.within, .int .i64 q.delete, .bool q.react, .int .i64 q.thread, .bool q.quote, .bool q.mention, .int .i64 q.size, .int .i64 q.parts, .int .i64 q.files, .int .i64 q.bytes, .slice ua q.types.length uc, .int .i64 q.join, .int .i64 q.history, .int .i64 q.remove, .int .i64 q.level, .bool q.batch, .int .i64 q.rate, .int .i64 q.down, .int .i64 q.window, .int .i64 q.keep] 24)).cell? ⟨w.heap.size, 8, none⟩ = some (.int .i64 p.size) ∧ ((w.alloc (.cells #[.string (bs p.name), .int .i64 p.edit, .int .i64 p.within, .int .i64 p.delete, .bool p.react, .int .i64 p.thread, .bool p.quote, .bool p.mention, .int .i64 p.size, .int .i64 p.parts, .int .i64 p.files, .int .i64 p.bytes, .slice ta p.types.length tc, .int .i64 p.join, .int .i64 p.history, .int .i64 p.remove, .int .i64 p.level, .bool p.batch, .int .i64 p.rate, .int .i64 p.down, .int .i64 p.window, .int .i64 p.keep] 24)).alloc (.cells #[.string (bs q.name), .int .i64 q.edit, .int .i64 q.within, .int .i64 q.delete, .bool q.react, .int .i64 q.thread, .bool q.quote, .bool q.mention, .int .i64 q.size, .int .i64 q.parts, .int .i64 q.files, .int .i64 q.bytes, .slice ua q.types.length uc, .int .i64 q.join, .int .i64 q.history, .int .i64 q.remove, .int .i64 q.level, .bool q.batch, .int .i64 q.rate, .int .i64 q.down, .int .i64 q.window, .int .i64 q.keep] 24)).cell? ⟨w.heap.size + 1, 8, none⟩ = some (.int .i64 q.size) ∧ ((w.alloc (.cells #[.string (bs p.name), .int .i64 p.edit, .int .i64 p.within, .int .i64 p.delete, .bool p.react, .int .i64 p.thread, .bool p.quote, .bool p.mention, .int .i64 p.size, .int .i64 p.parts, .int .i64 p.files, .int .i64 p.bytes, .slice ta p.types.length tc, .int .i64 p.join, .int .i64 p.history, .int .i64 p.remove, .int .i64 p.level, .bool p.batch, .int .i64 p.rate, .int .i64 p.down, .int .i64 p.window, .int .i64 p.keep] 24)).alloc (.cells #[.string (bs q.name), .int .i64 q.edit, .int .i64 q.within, .int .i64 q.delete, .bool q.react, .int .i64 q.thread, .bool q.quote, .bool q.mention, .int .i64 q.size, .int .i64 q.parts, .int .i64 q.files, .int .i64 q.bytes, .slice ua q.types.length uc, .int .i64 q.join, .int .i64 q.history, .int .i64 q.remove, .int .i64 q.level, .bool q.batch, .int .i64 q.rate, .int .i64 q.down, .int .i64 q.window, .int .i64 q.keep] 24)).cell? ⟨w.heap.size, 9, none⟩ = some (.int .i64 p.parts) ∧ ((w.alloc (.cells #[.string (bs p.name), .int .i64 p.edit, .int .i64 p.within, .int .i64 p.delete, .bool p.react, .int .i64 p.thread, .bool p.quote, .bool p.mention, .int .i64 p.size, .int .i64 p.parts, .int .i64 p.files, .int .i64 p.bytes, .slice ta p.types.length tc, .int .i64 p.join, .int .i64 p.history, .int .i64 p.remove, .int .i64 p.level, .bool p.batch, .int .i64 p.rate, .int .i64 p.down, .int .i64 p.window, .int .i64 p.keep] 24)).alloc (.cells #[.string (bs q.name), .int .i64 q.edit, .int .i64 q.within, .int .i64 q.delete, .bool q.react, .int .i64 q.thread, .bool q.quote, .bool q.mention, .int .i64 q.size, .int .i64 q.parts, .int .i64 q.files, .int .i64 q.bytes, .slice ua q.types.length uc, .int .i64 q.join, .int .i64 q.history, .int .i64 q.remove, .int .i64 q.level, .bool q.batch, .int .i64 q.rate, .int .i64 q.down, .int .i64 q.window, .int .i64 q.keep] 24)).cell? ⟨w.heap.size + 1, 9, none⟩ = some (.int .i64 q.parts) ∧ ((w.alloc (.cells #[.string (bs p.name), .int .i64 p.edit, .int .i64 p.within, .int .i64 p.delete, .bool p.react, .int .i64 p.thread, .bool p.quote, .bool p.mention, .int .i64 p.size, .int .i64 p.parts, .int .i64 p.files, .int .i64 p.bytes, .slice ta p.types.length tc, .int .i64 p.join, .int .i64 p.history, .int .i64 p.remove, .int .i64 p.level, .bool p.batch, .int .i64 p.rate, .int .i64 p.down, .int .i64 p.window, .int .i64 p.keep] 24)).alloc (.cells #[.string (bs q.name), .int .i64 q.edit, .int .i64 q.within, .int .i64 q.delete, .bool q.react, .int .i64 q.thread, .bool q.quote, .bool q.mention, .int .i64 q.size, .int .i64 q.parts, .int .i64 q.files, .int .i64 q.bytes, .slice ua q.types.length uc, .int .i64 q.join, .int .i64 q.history, .int .i64 q.remove, .int .i64 q.level, .bool q.batch, .int .i64 q.rate, .int .i64 q.down, .int .i64 q.window, .int .i64 q.keep] 24)).cell? ⟨w.heap.size, 10, none⟩ = some (.int .i64 p.files) ∧ ((w.alloc (.cells #[.string (bs p.name), .int .i64 p.edit, .int .i64 p.within, .int .i64 p.delete, .bool p.react, .int .i64 p.thread, .bool p.quote, .bool p.mention, .int .i64 p.size, .int .i64 p.parts, .int .i64 p.files, .int .i64 p.bytes, .slice ta p.types.length tc, .int .i64 p.join, .int .i64 p.history, .int .i64 p.remove, .int .i64 p.level, .bool p.batch, .int .i64 p.rate, .int .i64 p.down, .int .i64 p.window, .int .i64 p.keep] 24)).alloc (.cells #[.string (bs q.name), .int .i64 q.edit, .int .i64 q.within, .int .i64 q.delete, .bool q.react, .int .i64 q.thread, .bool q.quote, .bool q.mention, .int .i64 q.size, .int .i64 q.parts, .int .i64 q.files, .int .i64 q.bytes, .slice ua q.types.length uc, .int .i64 q.join, .int .i64 q.history, .int .i64 q.remove, .int .i64 q.level, .bool q.batch, .int .i64 q.rate, .int .i64 q.down, .int .i64 q.window, .int .i64 q.keep] 24)).cell? ⟨w.heap.size + 1, 10, none⟩ = some (.int .i64 q.files) ∧ ((w.alloc (.cells #[.string (bs p.name), .int .i64 p.edit, .int .i64 p.within, .int .i64 p.delete, .bool p.react, .int .i64 p.thread, .bool p.quote, .bool p.mention, .int .i64 p.size, .int .i64 p.parts, .int .i64 p.files, .int .i64 p.bytes, .slice ta p.types.length tc, .int .i64 p.join, .int .i64 p.history, .int .i64 p.remove, .int .i64 p.level, .bool p.batch, .int .i64 p.rate, .int .i64 p.down, .int .i64 p.window, .int .i64 p.keep] 24)).alloc (.cells #[.string (bs q.name), .int .i64 q.edit, .int .i64 q.within, .int .i64 q.delete, .bool q.react, .int .i64 q.thread, .bool q.quote, .bool q.mention, .int .i64 q.size, .int .i64 q.parts, .int .i64 q.files, .int .i64 q.bytes, .slice ua q.types.length uc, .int .i64 q.join, .int .i64 q.history, .int .i64 q.remove, .int .i64 q.level, .bool q.batch, .int .i64 q.rate, .int .i64 q.down, .int .i64 q.window, .int .i64 q.keep] 24)).cell? ⟨w.heap.size, 11, none⟩ = some (.int .i64 p.bytes) ∧ ((w.alloc (.cells #[.string (bs p.name), .int .i64 p.edit, .int .i64 p.within, .int .i64 p.delete, .bool p.react, .int .i64 p.thread, .bool p.quote, .bool p.mention, .int .i64 p.size, .int .i64 p.parts, .int .i64 p.files, .int .i64 p.bytes, .slice ta p.types.length tc, .int .i64 p.join, .int .i64 p.history, .int .i64 p.remove, .int .i64 p.level, .bool p.batch, .int .i64 p.rate, .int .i64 p.down, .int .i64 p.window, .int .i64 p.keep] 24)).alloc (.cells #[.string (bs q.name), .int .i64 q.edit, .int .i64 q.within, .int .i64 q.delete, .bool q.react, .int .i64 q.thread, .bool q.quote, .bool q.mention, .int .i64 q.size, .int .i64 q.parts, .int .i64 q.files, .int .i64 q.bytes, .slice ua q.types.length uc, .int .i64 q.join, .int .i64 q.history, .int .i64 q.remove, .int .i64 q.level, .bool q.batch, .int .i64 q.rate, .int .i64 q.down, .int .i64 q.window, .int .i64 q.keep] 24)).cell? ⟨w.heap.size + 1, 11, none⟩ = some (.int .i64 q.bytes) ∧ ((w.alloc (.cells #[.string (bs p.name), .int .i64 p.edit, .int .i64 p.within, .int .i64 p.delete, .bool p.react, .int .i64 p.thread, .bool p.quote, .bool p.mention, .int .i64 p.size, .int .i64 p.parts, .int .i64 p.files, .int .i64 p.bytes, .slice ta p.types.length tc, .int .i64 p.join, .int .i64 p.history, .int .i64 p.remove, .int .i64 p.level, .bool p.batch, .int .i64 p.rate, .int .i64 p.down, .int .i64 p.window, .int .i64 p.keep] 24)).alloc (.cells #[.string (bs q.name), .int .i64 q.edit, .int .i64 q.within, .int .i64 q.delete, .bool q.react, .int .i64 q.thread, .bool q.quote, .bool q.mention, .int .i64 q.size, .int .i64 q.parts, .int .i64 q.files, .int .i64 q.bytes, .slice ua q.types.length uc, .int .i64 q.join, .int .i64 q.history, .int .i64 q.remove, .int .i64 q.level, .bool q.batch, .int .i64 q.rate, .int .i64 q.down, .int .i64 q.window, .int .i64 q.keep] 24)).cell? ⟨w.heap.size, 13, none⟩ = some (.int .i64 p.join) ∧ ((w.alloc (.cells #[.string (bs p.name), .int .i64 p.edit, .int .i64 p.within, .int .i64 p.delete, .bool p.react, .int .i64 p.thread, .bool p.quote, .bool p.mention, .int .i64 p.size, .int .i64 p.parts, .int .i64 p.files, .int .i64 p.bytes, .slice ta p.types.length tc, .int .i64 p.join, .int .i64 p.history, .int .i64 p.remove, .int .i64 p.level, .bool p.batch, .int .i64 p.rate, .int .i64 p.down, .int .i64 p.window, .int .i64 p.keep] 24)).alloc (.cells #[.string (bs q.name), .int .i64 q.edit, .int .i64 q.within, .int .i64 q.delete, .bool q.react, .int .i64 q.thread, .bool q.quote, .bool q.mention, .int .i64 q.size, .int .i64 q.parts, .int .i64 q.files, .int .i64 q.bytes, .slice ua q.types.length uc, .int .i64 q.join, .int .i64 q.history, .int .i64 q.remove, .int .i64 q.level, .bool q.batch, .int .i64 q.rate, .int .i64 q.down, .int .i64 q.window, .int .i64 q.keep] 24)).cell? ⟨w.heap.size + 1, 13, none⟩ = some (.int .i64 q.join) ∧ ((w.alloc (.cells #[.string (bs p.name), .int .i64 p.edit, .int .i64 p.within, .int .i64 p.delete, .bool p.react, .int .i64 p.thread, .bool p.quote, .bool p.mention, .int .i64 p.size, .int .i64 p.parts, .int .i64 p.files, .int .i64 p.bytes, .slice ta p.types.length tc, .int .i64 p.join, .int .i64 p.history, .int .i64 p.remove, .int .i64 p.level, .bool p.batch, .int .i64 p.rate, .int .i64 p.down, .int .i64 p.window, .int .i64 p.keep] 24)).alloc (.cells #[.string (bs q.name), .int .i64 q.edit, .int .i64 q.within, .int .i64 q.delete, .bool q.react, .int .i64 q.thread, .bool q.quote, .bool q.mention, .int .i64 q.size, .int .i64 q.parts, .int .i64 q.files, .int .i64 q.bytes, .slice ua q.types.length uc, .int .i64 q.join, .int .i64 q.history, .int .i64 q.remove, .int .i64 q.level, .bool q.batch, .int .i64 q.rate, .int .i64 q.down, .int .i64 q.window, .int .i64 q.keep] 24)).cell? ⟨w.heap.size, 14, none⟩ = some (.int .i64 p.history) ∧ ((w.alloc (.cells #[.string (bs p.name), .int .i64 p.edit, .int .i64 p.within, .int .i64 p.delete, .bool p.react, .int .i64 p.thread, .bool p.quote, .bool p.mention, .int .i64 p.size, .int .i64 p.parts, .int .i64 p.files, .int .i64 p.bytes, .slice ta p.types.length tc, .int .i64 p.join, .int .i64 p.history, .int .i64 p.remove, .int .i64 p.level, .bool p.batch, .int .i64 p.rate, .int .i64 p.down, .int .i64 p.window, .int .i64 p.keep] 24)).alloc (.cells #[.string (bs q.name), .int .i64 q.edit, .int .i64 q.within, .int .i64 q.delete, .bool q.react, .int .i64 q.thread, .bool q.quote, .bool q.mention, .int .i64 q.size, .int .i64 q.parts, .int .i64 q.files, .int .i64 q.bytes, .slice ua q.types.length uc, .int .i64 q.join, .int .i64 q.history, .int .i64 q.remove, .int .i64 q.level, .bool q.batch, .int .i64 q.rate, .int .i64 q.down, .int .i64 q.window, .int .i64 q.keep] 24)).cell? ⟨w.heap.size + 1, 14, none⟩ = some (.int .i64 q.history) ∧ ((w.alloc (.cells #[.string (bs p.name), .int .i64 p.edit, .int .i64 p.within, .int .i64 p.delete, .bool p.react, .int .i64 p.thread, .bool p.quote, .bool p.mention, .int .i64 p.size, .int .i64 p.parts, .int .i64 p.files, .int .i64 p.bytes, .slice ta p.types.length tc, .int .i64 p.join, .int .i64 p.history, .int .i64 p.remove, .int .i64 p.level, .bool p.batch, .int .i64 p.rate, .int .i64 p.down, .int .i64 p.window, .int .i64 p.keep] 24)).alloc (.cells #[.string (bs q.name), .int .i64 q.edit, .int .i64 q.within, .int .i64 q.delete, .bool q.react, .int .i64 q.thread, .bool q.quote, .bool q.mention, .int .i64 q.size, .int .i64 q.parts, .int .i64 q.files, .int .i64 q.bytes, .slice ua q.types.length uc, .int .i64 q.join, .int .i64 q.history, .int .i64 q.remove, .int .i64 q.level, .bool q.batch, .int .i64 q.rate, .int .i64 q.down, .int .i64 q.window, .int .i64 q.keep] 24)).cell? ⟨w.heap.size, 15, none⟩ = some (.int .i64 p.remove) ∧ ((w.alloc (.cells #[.string (bs p.name), .int .i64 p.edit, .int .i64 p.within, .int .i64 p.delete, .bool p.react, .int .i64 p.thread, .bool p.quote, .bool p.mention, .int .i64 p.size, .int .i64 p.parts, .int .i64 p.files, .int .i64 p.bytes, .slice ta p.types.length tc, .int .i64 p.join, .int .i64 p.history, .int .i64 p.remove, .int .i64 p.level, .bool p.batch, .int .i64 p.rate, .int .i64 p.down, .int .i64 p.window, .int .i64 p.keep] 24)).alloc (.cells #[.string (bs q.name), .int .i64 q.edit, .int .i64 q.within, .int .i64 q.delete, .bool q.react, .int .i64 q.thread, .bool q.quote, .bool q.mention, .int .i64 q.size, .int .i64 q.parts, .int .i64 q.files, .int .i64 q.bytes, .slice ua q.types.length uc, .int .i64 q.join, .int .i64 q.history, .int .i64 q.remove, .int .i64 q.level, .bool q.batch, .int .i64 q.rate, .int .i64 q.down, .int .i64 q.window, .int .i64 q.keep] 24)).cell? ⟨w.heap.size + 1, 15, none⟩ = some (.int .i64 q.remove) ∧ ((w.alloc (.cells #[.string (bs p.name), .int .i64 p.edit, .int .i64 p.within, .int .i64 p.delete, .bool p.react, .int .i64 p.thread, .bool p.quote, .bool p.mention, .int .i64 p.size, .int .i64 p.parts, .int .i64 p.files, .int .i64 p.bytes, .slice ta p.types.length tc, .int .i64 p.join, .int .i64 p.history, .int .i64 p.remove, .int .i64 p.level, .bool p.batch, .int .i64 p.rate, .int .i64 p.down, .int .i64 p.window, .int .i64 p.keep] 24)).alloc (.cells #[.string (bs q.name), .int .i64 q.edit, .int .i64 q.within, .int .i64 q.delete, .bool q.react, .int .i64 q.thread, .bool q.quote, .bool q.mention, .int .i64 q.size, .int .i64 q.parts, .int .i64 q.files, .int .i64 q.bytes, .slice ua q.types.length uc, .int .i64 q.join, .int .i64 q.history, .int .i64 q.remove, .int .i64 q.level, .bool q.batch, .int .i64 q.rate, .int .i64 q.down, .int .i64 q.window, .int .i64 q.keep] 24)).cell? ⟨w.heap.size, 16, none⟩ = some (.int .i64 p.level) ∧ ((w.alloc (.cells #[.string (bs p.name), .int .i64 p.edit, .int .i64 p.within, .int .i64 p.delete, .bool p.react, .int .i64 p.thread, .bool p.quote, .bool p.mention, .int .i64 p.size, .int .i64 p.parts, .int .i64 p.files, .int .i64 p.bytes, .slice ta p.types.length tc, .int .i64 p.join, .int .i64 p.history, .int .i64 p.remove, .int .i64 p.level, .bool p.batch, .int .i64 p.rate, .int .i64 p.down, .int .i64 p.window, .int .i64 p.keep] 24)).alloc (.cells #[.string (bs q.name), .int .i64 q.edit, .int .i64 q.within, .int .i64 q.delete, .bool q.react, .int .i64 q.thread, .bool q.quote, .bool q.mention, .int .i64 q.size, .int .i64 q.parts, .int .i64 q.files, .int .i64 q.bytes, .slice ua q.types.length uc, .int .i64 q.join, .int .i64 q.history, .int .i64 q.remove, .int .i64 q.level, .bool q.batch, .int .i64 q.rate, .int .i64 q.down, .int .i64 q.window, .int .i64 q.keep] 24)).cell? ⟨w.heap.size + 1, 16, none⟩ = some (.int .i64 q.level) ∧ ((w.alloc (.cells #[.string (bs p.name), .int .i64 p.edit, .int .i64 p.within, .int .i64 p.delete, .bool p.react, .int .i64 p.thread, .bool p.quote, .bool p.mention, .int .i64 p.size, .int .i64 p.parts, .int .i64 p.files, .int .i64 p.bytes, .slice ta p.types.length tc, .int .i64 p.join, .int .i64 p.history, .int .i64 p.remove, .int .i64 p.level, .bool p.batch, .int .i64 p.rate, .int .i64 p.down, .int .i64 p.window, .int .i64 p.keep] 24)).alloc (.cells #[.string (bs q.name), .int .i64 q.edit, .int .i64 q.within, .int .i64 q.delete, .bool q.react, .int .i64 q.thread, .bool q.quote, .bool q.mention, .int .i64 q.size, .int .i64 q.parts, .int .i64 q.files, .int .i64 q.bytes, .slice ua q.types.length uc, .int .i64 q.join, .int .i64 q.history, .int .i64 q.remove, .int .i64 q.level, .bool q.batch, .int .i64 q.rate, .int .i64 q.down, .int .i64 q.window, .int .i64 q.keep] 24)).cell? ⟨w.heap.size, 17, none⟩ = some (.bool p.batch) ∧ ((w.alloc (.cells #[.string (bs p.name), .int .i64 p.edit, .int .i64 p.within, .int .i64 p.delete, .bool p.react, .int .i64 p.thread, .bool p.quote, .bool p.mention, .int .i64 p.size, .int .i64 p.parts, .int .i64 p.files, .int .i64 p.bytes, .slice ta p.types.length tc, .int .i64 p.join, .int .i64 p.history, .int .i64 p.remove, .int .i64 p.level, .bool p.batch, .int .i64 p.rate, .int .i64 p.down, .int .i64 p.window, .int .i64 p.keep] 24)).alloc (.cells #[.string (bs q.name), .int .i64 q.edit, .int .i64 q.within, .int .i64 q.delete, .bool q.react, .int .i64 q.thread, .bool q.quote, .bool q.mention, .int .i64 q.size, .int .i64 q.parts, .int .i64 q.files, .int .i64 q.bytes, .slice ua q.types.length uc, .int .i64 q.join, .int .i64 q.history, .int .i64 q.remove, .int .i64 q.level, .bool q.batch, .int .i64 q.rate, .int .i64 q.down, .int .i64 q.window, .int .i64 q.keep] 24)).cell? ⟨w.heap.size + 1, 17, none⟩ = some (.bool q.batch) ∧ ((w.alloc (.cells #[.string (bs p.name), .int .i64 p.edit, .int .i64 p.within, .int .i64 p.delete, .bool p.react, .int .i64 p.thread, .bool p.quote, .bool p.mention, .int .i64 p.size, .int .i64 p.parts, .int .i64 p.files, .int .i64 p.bytes, .slice ta p.types.length tc, .int .i64 p.join, .int .i64 p.history, .int .i64 p.remove, .int .i64 p.level, .bool p.batch, .int .i64 p.rate, .int .i64 p.down, .int .i64 p.window, .int .i64 p.keep] 24)).alloc (.cells #[.string (bs q.name), .int .i64 q.edit, .int .i64 q.within, .int .i64 q.delete, .bool q.react, .int .i64 q.thread, .bool q.quote, .bool q.mention, .int .i64 q.size, .int .i64 q.parts, .int .i64 q.files, .int .i64 q.bytes, .slice ua q.types.length uc, .int .i64 q.join, .int .i64 q.history, .int .i64 q.remove, .int .i64 q.level, .bool q.batch, .int .i64 q.rate, .int .i64 q.down, .int .i64 q.window, .int .i64 q.keep] 24)).cell? ⟨w.heap.size, 18, none⟩ = some (.int .i64 p.rate) ∧ ((w.alloc (.cells #[.string (bs p.name), .int .i64 p.edit, .int .i64 p.within, .int .i64 p.delete, .bool p.react, .int .i64 p.thread, .bool p.quote, .bool p.mention, .int .i64 p.size, .int .i64 p.parts, .int .i64 p.files, .int .i64 p.bytes, .slice ta p.types.length tc, .int .i64 p.join, .int .i64 p.history, .int .i64 p.remove, .int .i64 p.level, .bool p.batch, .int .i64 p.rate, .int .i64 p.down, .int .i64 p.window, .int .i64 p.keep] 24)).alloc (.cells #[.string (bs q.name), .int .i64 q.edit, .int .i64 q.within, .int .i64 q.delete, .bool q.react, .int .i64 q.thread, .bool q.quote, .bool q.mention, .int .i64 q.size, .int .i64 q.parts, .int .i64 q.files, .int .i64 q.bytes, .slice ua q.types.length uc, .int .i64 q.join, .int .i64 q.history, .int .i64 q.remove, .int .i64 q.level, .bool q.batch, .int .i64 q.rate, .int .i64 q.down, .int .i64 q.window, .int .i64 q.keep] 24)).cell? ⟨w.heap.size + 1, 18, none⟩ = some (.int .i64 q.rate) ∧ ((w.alloc (.cells #[.string (bs p.name), .int .i64 p.edit, .int .i64 p.within, .int .i64 p.delete, .bool p.react, .int .i64 p.thread, .bool p.quote, .bool p.mention, .int .i64 p.size, .int .i64 p.parts, .int .i64 p.files, .int .i64 p.bytes, .slice ta p.types.length tc, .int .i64 p.join, .int .i64 p.history, .int .i64 p.remove, .int .i64 p.level, .bool p.batch, .int .i64 p.rate, .int .i64 p.down, .int .i64 p.window, .int .i64 p.keep] 24)).alloc (.cells #[.string (bs q.name), .int .i64 q.edit, .int .i64 q.within, .int .i64 q.delete, .bool q.react, .int .i64 q.thread, .bool q.quote, .bool q.mention, .int .i64 q.size, .int .i64 q.parts, .int .i64 q.files, .int .i64 q.bytes, .slice ua q.types.length uc, .int .i64 q.join, .int .i64 q.history, .int .i64 q.remove, .int .i64 q.level, .bool q.batch, .int .i64 q.rate, .int .i64 q.down, .int .i64 q.window, .int .i64 q.keep] 24)).cell? ⟨w.heap.size, 19, none⟩ = some (.int .i64 p.down) ∧ ((w.alloc (.cells #[.string (bs p.name), .int .i64 p.edit, .int .i64 p.within, .int .i64 p.delete, .bool p.react, .int .i64 p.thread, .bool p.quote, .bool p.mention, .int .i64 p.size, .int .i64 p.parts, .int .i64 p.files, .int .i64 p.bytes, .slice ta p.types.length tc, .int .i64 p.join, .int .i64 p.history, .int .i64 p.remove, .int .i64 p.level, .bool p.batch, .int .i64 p.rate, .int .i64 p.down, .int .i64 p.window, .int .i64 p.keep] 24)).alloc (.cells #[.string (bs q.name), .int .i64 q.edit, .int .i64 q.within, .int .i64 q.delete, .bool q.react, .int .i64 q.thread, .bool q.quote, .bool q.mention, .int .i64 q.size, .int .i64 q.parts, .int .i64 q.files, .int .i64 q.bytes, .slice ua q.types.length uc, .int .i64 q.join, .int .i64 q.history, .int .i64 q.remove, .int .i64 q.level, .bool q.batch, .int .i64 q.rate, .int .i64 q.down, .int .i64 q.window, .int .i64 q.keep] 24)).cell? ⟨w.heap.size + 1, 19, none⟩ = some (.int .i64 q.down) ∧ ((w.alloc (.cells #[.string (bs p.name), .int .i64 p.edit, .int .i64 p.within, .int .i64 p.delete, .bool p.react, .int .i64 p.thread, .bool p.quote, .bool p.mention, .int .i64 p.size, .int .i64 p.parts, .int .i64 p.files, .int .i64 p.bytes, .slice ta p.types.length tc, .int .i64 p.join, .int .i64 p.history, .int .i64 p.remove, .int .i64 p.level, .bool p.batch, .int .i64 p.rate, .int .i64 p.down, .int .i64 p.window, .int .i64 p.keep] 24)).alloc (.cells #[.string (bs q.name), .int .i64 q.edit, .int .i64 q.within, .int .i64 q.delete, .bool q.react, .int .i64 q.thread, .bool q.quote, .bool q.mention, .int .i64 q.size, .int .i64 q.parts, .int .i64 q.files, .int .i64 q.bytes, .slice ua q.types.length uc, .int .i64 q.join, .int .i64 q.history, .int .i64 q.remove, .int .i64 q.level, .bool q.batch, .int .i64 q.rate, .int .i64 q.down, .int .i64 q.window, .int .i64 q.keep] 24)).cell? ⟨w.heap.size, 20, none⟩ = some (.int .i64 p.window) ∧ ((w.alloc (.cells #[.string (bs p.name), .int .i64 p.edit, .int .i64 p.within, .int .i64 p.delete, .bool p.react, .int .i64 p.thread, .bool p.quote, .bool p.mention, .int .i64 p.size, .int .i64 p.parts, .int .i64 p.files, .int .i64 p.bytes, .slice ta p.types.length tc, .int .i64 p.join, .int .i64 p.history, .int .i64 p.remove, .int .i64 p.level, .bool p.batch, .int .i64 p.rate, .int .i64 p.down, .int .i64 p.window, .int .i64 p.keep] 24)).alloc (.cells #[.string (bs q.name), .int .i64 q.edit, .int .i64 q.within, .int .i64 q.delete, .bool q.react, .int .i64 q.thread, .bool q.quote, .bool q.mention, .int .i64 q.size, .int .i64 q.parts, .int .i64 q.files, .int .i64 q.bytes, .slice ua q.types.length uc, .int .i64 q.join, .int .i64 q.history, .int .i64 q.remove, .int .i64 q.level, .bool q.batch, .int .i64 q.rate, .int .i64 q.down, .int .i64 q.window, .int .i64 q.keep] 24)).cell? ⟨w.heap.size + 1, 20, none⟩ = some (.int .i64 q.window) ∧ ((w.alloc (.cells #[.string (bs p.name), .int .i64 p.edit, .int .i64 p.within, .int .i64 p.delete, .bool p.react, .int .i64 p.thread, .bool p.quote, .bool p.mention, .int .i64 p.size, .int .i64 p.parts, .int .i64 p.files, .int .i64 p.bytes, .slice ta p.types.length tc, .int .i64 p.join, .int .i64 p.history, .int .i64 p.remove, .int .i64 p.level, .bool p.batch, .int .i64 p.rate, .int .i64 p.down, .int .i64 p.window, .int .i64 p.keep] 24)).alloc (.cells #[.string (bs q.name), .int .i64 q.edit, .int .i64 q.within, .int .i64 q.delete, .bool q.react, .int .i64 q.thread, .bool q.quote, .bool q.mention, .int .i64 q.size, .int .i64 q.parts, .int .i64 q.files, .int .i64 q.bytes, .slice ua q.types.length uc, .int .i64 q.join, .int .i64 q.history, .int .i64 q.remove, .int .i64 q.level, .bool q.batch, .int .i64 q.rate, .int .i64 q.down, .int .i64 q.window, .int .i64 q.keep] 24)).cell? ⟨w.heap.size, 21, none⟩ = some (.int .i64 p.keep) ∧ ((w.alloc (.cells #[.string (bs p.name), .int .i64 p.edit, .int .i64 p.within, .int .i64 p.delete, .bool p.react, .int .i64 p.thread, .bool p.quote, .bool p.mention, .int .i64 p.size, .int .i64 p.parts, .int .i64 p.files, .int .i64 p.bytes, .slice ta p.types.length tc, .int .i64 p.join, .int .i64 p.history, .int .i64 p.remove, .int .i64 p.level, .bool p.batch, .int .i64 p.rate, .int .i64 p.down, .int .i64 p.window, .int .i64 p.keep] 24)).alloc (.cells #[.string (bs q.name), .int .i64 q.edit, .int .i64 q.within, .int .i64 q.delete, .bool q.react, .int .i64 q.thread, .bool q.quote, .bool q.mention, .int .i64 q.size, .int .i64 q.parts, .int .i64 q.files, .int .i64 q.bytes, .slice ua q.types.length uc, .int .i64 q.join, .int .i64 q.history, .int .i64 q.remove, .int .i64 q.level, .bool q.batch, .int .i64 q.rate, .int .i64 q.down, .int .i64 q.window, .int .i64 q.keep] 24)).cell? ⟨w.heap.size + 1, 21, none⟩ = some (.int .i64 q.keep) from ⟨by rw [Lib.cell_of_heap hh]; rfl, by rw [Lib.cell_of_heap hk]; rfl, by rw [Lib.cell_of_heap hh]; rfl, by rw [Lib.cell_of_heap hk]; rfl, by rw [Lib.cell_of_heap hh]; rfl, by rw [Lib.cell_of_heap hk]; rfl, by rw [Lib.cell_of_heap hh]; rfl, by rw [Lib.cell_of_heap hk]; rfl, by rw [Lib.cell_of_heap hh]; rfl, by rw [Lib.cell_of_heap hk]; rfl, by rw [Lib.cell_of_heap hh]; rfl, by rw [Lib.cell_of_heap hk]; rfl, by rw [Lib.cell_of_heap hh]; rfl, by rw [Lib.cell_of_heap hk]; rfl, by rw [Lib.cell_of_heap hh]; rfl, by rw [Lib.cell_of_heap hk]; rfl, by rw [Lib.cell_of_heap hh]; rfl, by rw [Lib.cell_of_heap hk]; rfl, by rw [Lib.cell_of_heap hh]; rfl, by rw [Lib.cell_of_heap hk]; rfl, by rw [Lib.cell_of_heap hh]; rfl, by rw [Lib.cell_of_heap hk]; rfl, by rw [Lib.cell_of_heap hh]; rfl, by rw [Lib.cell_of_heap hk]; rfl, by rw [Lib.cell_of_heap hh]; rfl, by rw [Lib.cell_of_heap hk]; rfl, by rw [Lib.cell_of_heap hh]; rfl, by rw [Lib.cell_of_heap hk]; rfl, by rw [Lib.cell_of_heap hh]; rfl, by rw [Lib.cell_of_heap hk]; rfl, by rw [Lib.cell_of_heap hh]; rfl, by rw [Lib.cell_of_heap hk]; rfl, by rw [Lib.cell_of_heap hh]; rfl, by rw [Lib.cell_of_heap hk]; rfl, by rw [Lib.cell_of_heap hh]; rfl, by rw [Lib.cell_of_heap hk]; rfl, by rw [Lib.cell_of_heap hh]; rfl, by rw [Lib.cell_of_heap hk]; rfl, by rw [Lib.cell_of_heap hh]; rfl, by rw [Lib.cell_of_heap hk]; rfl, by rw [Lib.cell_of_heap hh]; rfl, by rw [Lib.cell_of_heap hk]; rfl⟩)
  clear ht hu hb0 hm hh hk
  by_cases hlen : p.types.length = q.types.length
  · have HLEN := Lib.hid hlen
    rw [← hlen] at HU
    simp only [← hlen] at HB0 HU HT HG g12 d12 ⊢
    clear hlen
    go_enter Tryz.func10, Tryz.ntmps10
    go_wp2
    generalize ((w.alloc (.cells #[.string (bs p.name), .int .i64 p.edit, .int .i64 p.within, .int .i64 p.delete, .bool p.react, .int .i64 p.thread, .bool p.quote, .bool p.mention, .int .i64 p.size, .int .i64 p.parts, .int .i64 p.files, .int .i64 p.bytes, .slice ta p.types.length tc, .int .i64 p.join, .int .i64 p.history, .int .i64 p.remove, .int .i64 p.level, .bool p.batch, .int .i64 p.rate, .int .i64 p.down, .int .i64 p.window, .int .i64 p.keep] 24)).alloc (.cells #[.string (bs q.name), .int .i64 q.edit, .int .i64 q.within, .int .i64 q.delete, .bool q.react, .int .i64 q.thread, .bool q.quote, .bool q.mention, .int .i64 q.size, .int .i64 q.parts, .int .i64 q.files, .int .i64 q.bytes, .slice ua p.types.length uc, .int .i64 q.join, .int .i64 q.history, .int .i64 q.remove, .int .i64 q.level, .bool q.batch, .int .i64 q.rate, .int .i64 q.down, .int .i64 q.window, .int .i64 q.keep] 24)) = w1 at *
    go_loopw [5] (fun i wr => ∃ k : Nat, k ≤ p.types.length ∧ i = .int .i64 k ∧ Hid (p.types.take k = q.types.take k) ∧ Hid (Below w1.heap.size w1 wr)) (fun i _ => p.types.length - (intOf i).toNat)
    case atStart => exact ⟨0, Nat.zero_le _, rfl, Lib.hid (by simp), Lib.hid (Below.refl _ _)⟩
    case round =>
      obtain ⟨k, hk, rfl, HE, HB⟩ := hrel
      have HB9 := Lib.hid (HB0.out.trans (HB.out.mono HB0.out.size))
      have f12 := below_cell g12 HB.out
      have e12 := below_cell d12 HB.out
      by_cases hlt : k < p.types.length
      · obtain ⟨s, hs⟩ : ∃ s, p.types[k]? = some s := ⟨_, List.getElem?_eq_getElem hlt⟩
        obtain ⟨t, hts⟩ : ∃ t, q.types[k]? = some t := ⟨_, List.getElem?_eq_getElem (by rw [← HLEN.out]; exact hlt)⟩
        obtain ⟨a1, o1, z1, h1, _, hc⟩ := (HT.out.keep HB.out).form (by omega)
        cases h1
        have huu := HU.out.keep HB.out
        rw [HLEN.out] at huu
        obtain ⟨a2, o2, z2, h1, _, hd⟩ := huu.form (by rw [← HLEN.out]; omega)
        rw [← HLEN.out] at h1
        cases h1
        have c0 := hc k s hs
        have c1 := hd k t hts
        clear hc hd huu
        by_cases hst : s = t
        · subst hst
          have HE2 := Lib.hid (list_take HE.out hs hts)
          clear hs hts
          go_wp2
          go_quiet (fail)
          go_wp2
          go_roundw
          case rel => exact ⟨k + 1, by omega, by go_num, HE2, Lib.hid (HB.out.trans ((drewN_below _ _).mono HB.out.size))⟩
          case measure => simp [intOf]; omega
        · have hno : ¬ (p = q) := fun e => list_not hs hts hst (by rw [e])
          have hne := str_ne hst
          have HR := Lib.hid (decide_eq_false hno)
          clear hno hs hts hst
          go_wp2
          go_quiet (fail)
          go_wp2
          go_ret
          exact ⟨ret_bool HR.out.symm, HB9.out.trans ((drewN_below _ _).mono HB9.out.size)⟩
      · obtain rfl : k = p.types.length := by omega
        have HTY := Lib.hid (show p.types = q.types by have := HE.out; rwa [List.take_length, List.take_of_length_le (by rw [HLEN.out]; exact Nat.le_refl _)] at this)
        have HS := Lib.hid (same_iff HTY.out)
        obtain ⟨g0, d0, g1, d1, g2, d2, g3, d3, g4, d4, g5, d5, g6, d6, g7, d7, g8, d8, g9, d9, g10, d10, g11, d11, g13, d13, g14, d14, g15, d15, g16, d16, g17, d17, g18, d18, g19, d19, g20, d20, g21, d21⟩ := HG.out
        replace g0 := below_cell g0 HB.out
        replace d0 := below_cell d0 HB.out
        replace g1 := below_cell g1 HB.out
        replace d1 := below_cell d1 HB.out
        replace g2 := below_cell g2 HB.out
        replace d2 := below_cell d2 HB.out
        replace g3 := below_cell g3 HB.out
        replace d3 := below_cell d3 HB.out
        replace g4 := below_cell g4 HB.out
        replace d4 := below_cell d4 HB.out
        replace g5 := below_cell g5 HB.out
        replace d5 := below_cell d5 HB.out
        replace g6 := below_cell g6 HB.out
        replace d6 := below_cell d6 HB.out
        replace g7 := below_cell g7 HB.out
        replace d7 := below_cell d7 HB.out
        replace g8 := below_cell g8 HB.out
        replace d8 := below_cell d8 HB.out
        replace g9 := below_cell g9 HB.out
        replace d9 := below_cell d9 HB.out
        replace g10 := below_cell g10 HB.out
        replace d10 := below_cell d10 HB.out
        replace g11 := below_cell g11 HB.out
        replace d11 := below_cell d11 HB.out
        replace g13 := below_cell g13 HB.out
        replace d13 := below_cell d13 HB.out
        replace g14 := below_cell g14 HB.out
        replace d14 := below_cell d14 HB.out
        replace g15 := below_cell g15 HB.out
        replace d15 := below_cell d15 HB.out
        replace g16 := below_cell g16 HB.out
        replace d16 := below_cell d16 HB.out
        replace g17 := below_cell g17 HB.out
        replace d17 := below_cell d17 HB.out
        replace g18 := below_cell g18 HB.out
        replace d18 := below_cell d18 HB.out
        replace g19 := below_cell g19 HB.out
        replace d19 := below_cell d19 HB.out
        replace g20 := below_cell g20 HB.out
        replace d20 := below_cell d20 HB.out
        replace g21 := below_cell g21 HB.out
        replace d21 := below_cell d21 HB.out
        have HF := Lib.hid (And.intro g0 (And.intro d0 (And.intro g1 (And.intro d1 (And.intro g2 (And.intro d2 (And.intro g3 (And.intro d3 (And.intro g4 (And.intro d4 (And.intro g5 (And.intro d5 (And.intro g6 (And.intro d6 (And.intro g7 (And.intro d7 (And.intro g8 (And.intro d8 (And.intro g9 (And.intro d9 (And.intro g10 (And.intro d10 (And.intro g11 (And.intro d11 (And.intro g13 (And.intro d13 (And.intro g14 (And.intro d14 (And.intro g15 (And.intro d15 (And.intro g16 (And.intro d16 (And.intro g17 (And.intro d17 (And.intro g18 (And.intro d18 (And.intro g19 (And.intro d19 (And.intro g20 (And.intro d20 (And.intro g21 d21)))))))))))))))))))))))))))))))))))))))))
        clear g0 d0 g1 d1 g2 d2 g3 d3 g4 d4 g5 d5 g6 d6 g7 d7 g8 d8 g9 d9 g10 d10 g11 d11 g13 d13 g14 d14 g15 d15 g16 d16 g17 d17 g18 d18 g19 d19 g20 d20 g21 d21
        go_upto_region 8 with fail
        clear HT HU HE hlt hk HB HB0 f12 e12 HLEN HTY HG g12 d12
        generalize (Value.agg #[.string (bs p.name), .int .i64 p.edit, .int .i64 p.within, .int .i64 p.delete, .bool p.react, .int .i64 p.thread, .bool p.quote, .bool p.mention, .int .i64 p.size, .int .i64 p.parts, .int .i64 p.files, .int .i64 p.bytes, .slice ta p.types.length tc, .int .i64 p.join, .int .i64 p.history, .int .i64 p.remove, .int .i64 p.level, .bool p.batch, .int .i64 p.rate, .int .i64 p.down, .int .i64 p.window, .int .i64 p.keep] : Value) = xv
        generalize (Value.agg #[.string (bs q.name), .int .i64 q.edit, .int .i64 q.within, .int .i64 q.delete, .bool q.react, .int .i64 q.thread, .bool q.quote, .bool q.mention, .int .i64 q.size, .int .i64 q.parts, .int .i64 q.files, .int .i64 q.bytes, .slice ua p.types.length uc, .int .i64 q.join, .int .i64 q.history, .int .i64 q.remove, .int .i64 q.level, .bool q.batch, .int .i64 q.rate, .int .i64 q.down, .int .i64 q.window, .int .i64 q.keep] : Value) = yv
        go_cut [6] from 33 to 100 (fun v wx => v = .bool (oneB p q) ∧ wr = wx)
        case first =>
          obtain ⟨f0, e0, f1, e1, f2, e2, f3, e3, f4, e4, f5, e5, f6, e6, f7, e7, f8, e8, f9, e9, f10, e10, f11, e11, f13, e13, f14, e14, f15, e15, f16, e16, f17, e17, f18, e18, f19, e19, f20, e20, f21, e21⟩ := HF.out
          clear HF HS HB9
          refine wp_region_lit ?_
          refine chain_first (by decide) (by simp) rfl rfl (pf0) (load_str _) (load_str _) (eql_str _ _) f0 e0 ?_
          intro v1 v2 v3 v4
          simp only [Act.put, List.setIfInBounds_toArray, List.set_cons_zero, List.set_cons_succ]
          refine chain_field (by decide) (by simp) rfl rfl rfl rfl (pf1) (load_int _) (load_int _) (eql_int _ _) f1 e1 ?_
          intro v1 v2 v3 v4 v5
          simp only [Act.put, List.setIfInBounds_toArray, List.set_cons_zero, List.set_cons_succ]
          refine chain_field (by decide) (by simp) rfl rfl rfl rfl (pf2) (load_int _) (load_int _) (eql_int _ _) f2 e2 ?_
          intro v1 v2 v3 v4 v5
          simp only [Act.put, List.setIfInBounds_toArray, List.set_cons_zero, List.set_cons_succ]
          refine chain_field (by decide) (by simp) rfl rfl rfl rfl (pf3) (load_int _) (load_int _) (eql_int _ _) f3 e3 ?_
          intro v1 v2 v3 v4 v5
          simp only [Act.put, List.setIfInBounds_toArray, List.set_cons_zero, List.set_cons_succ]
          refine chain_field (by decide) (by simp) rfl rfl rfl rfl (pf4) (load_bool _) (load_bool _) (eql_bool _ _) f4 e4 ?_
          intro v1 v2 v3 v4 v5
          simp only [Act.put, List.setIfInBounds_toArray, List.set_cons_zero, List.set_cons_succ]
          refine chain_field (by decide) (by simp) rfl rfl rfl rfl (pf5) (load_int _) (load_int _) (eql_int _ _) f5 e5 ?_
          intro v1 v2 v3 v4 v5
          simp only [Act.put, List.setIfInBounds_toArray, List.set_cons_zero, List.set_cons_succ]
          refine chain_field (by decide) (by simp) rfl rfl rfl rfl (pf6) (load_bool _) (load_bool _) (eql_bool _ _) f6 e6 ?_
          intro v1 v2 v3 v4 v5
          simp only [Act.put, List.setIfInBounds_toArray, List.set_cons_zero, List.set_cons_succ]
          refine chain_field (by decide) (by simp) rfl rfl rfl rfl (pf7) (load_bool _) (load_bool _) (eql_bool _ _) f7 e7 ?_
          intro v1 v2 v3 v4 v5
          simp only [Act.put, List.setIfInBounds_toArray, List.set_cons_zero, List.set_cons_succ]
          refine chain_field (by decide) (by simp) rfl rfl rfl rfl (pf8) (load_int _) (load_int _) (eql_int _ _) f8 e8 ?_
          intro v1 v2 v3 v4 v5
          simp only [Act.put, List.setIfInBounds_toArray, List.set_cons_zero, List.set_cons_succ]
          refine chain_field (by decide) (by simp) rfl rfl rfl rfl (pf9) (load_int _) (load_int _) (eql_int _ _) f9 e9 ?_
          intro v1 v2 v3 v4 v5
          simp only [Act.put, List.setIfInBounds_toArray, List.set_cons_zero, List.set_cons_succ]
          rw [show (((((((((decide (p.name = q.name) && decide (p.edit = q.edit)) && decide (p.within = q.within)) && decide (p.delete = q.delete)) && decide (p.react = q.react)) && decide (p.thread = q.thread)) && decide (p.quote = q.quote)) && decide (p.mention = q.mention)) && decide (p.size = q.size)) && decide (p.parts = q.parts)) = oneB p q from rfl]
          go_wp2
          go_meet
          exact ⟨rfl, rfl⟩
        case rest =>
          obtain ⟨rfl, rfl⟩ := hcut
          go_upto_region 9 with fail
          go_cut [7] from 101 to 175 (fun v wx => v = .bool (twoB p q) ∧ wr = wx)
          case first =>
            obtain ⟨f0, e0, f1, e1, f2, e2, f3, e3, f4, e4, f5, e5, f6, e6, f7, e7, f8, e8, f9, e9, f10, e10, f11, e11, f13, e13, f14, e14, f15, e15, f16, e16, f17, e17, f18, e18, f19, e19, f20, e20, f21, e21⟩ := HF.out
            clear HF HS HB9
            refine wp_region_lit ?_
            refine chain_first (by decide) (by simp) rfl rfl (pf10) (load_int _) (load_int _) (eql_int _ _) f10 e10 ?_
            intro v1 v2 v3 v4
            simp only [Act.put, List.setIfInBounds_toArray, List.set_cons_zero, List.set_cons_succ]
            refine chain_field (by decide) (by simp) rfl rfl rfl rfl (pf11) (load_int _) (load_int _) (eql_int _ _) f11 e11 ?_
            intro v1 v2 v3 v4 v5
            simp only [Act.put, List.setIfInBounds_toArray, List.set_cons_zero, List.set_cons_succ]
            refine chain_field (by decide) (by simp) rfl rfl rfl rfl (pf13) (load_int _) (load_int _) (eql_int _ _) f13 e13 ?_
            intro v1 v2 v3 v4 v5
            simp only [Act.put, List.setIfInBounds_toArray, List.set_cons_zero, List.set_cons_succ]
            refine chain_field (by decide) (by simp) rfl rfl rfl rfl (pf14) (load_int _) (load_int _) (eql_int _ _) f14 e14 ?_
            intro v1 v2 v3 v4 v5
            simp only [Act.put, List.setIfInBounds_toArray, List.set_cons_zero, List.set_cons_succ]
            refine chain_field (by decide) (by simp) rfl rfl rfl rfl (pf15) (load_int _) (load_int _) (eql_int _ _) f15 e15 ?_
            intro v1 v2 v3 v4 v5
            simp only [Act.put, List.setIfInBounds_toArray, List.set_cons_zero, List.set_cons_succ]
            refine chain_field (by decide) (by simp) rfl rfl rfl rfl (pf16) (load_int _) (load_int _) (eql_int _ _) f16 e16 ?_
            intro v1 v2 v3 v4 v5
            simp only [Act.put, List.setIfInBounds_toArray, List.set_cons_zero, List.set_cons_succ]
            refine chain_field (by decide) (by simp) rfl rfl rfl rfl (pf17) (load_bool _) (load_bool _) (eql_bool _ _) f17 e17 ?_
            intro v1 v2 v3 v4 v5
            simp only [Act.put, List.setIfInBounds_toArray, List.set_cons_zero, List.set_cons_succ]
            refine chain_field (by decide) (by simp) rfl rfl rfl rfl (pf18) (load_int _) (load_int _) (eql_int _ _) f18 e18 ?_
            intro v1 v2 v3 v4 v5
            simp only [Act.put, List.setIfInBounds_toArray, List.set_cons_zero, List.set_cons_succ]
            refine chain_field (by decide) (by simp) rfl rfl rfl rfl (pf19) (load_int _) (load_int _) (eql_int _ _) f19 e19 ?_
            intro v1 v2 v3 v4 v5
            simp only [Act.put, List.setIfInBounds_toArray, List.set_cons_zero, List.set_cons_succ]
            refine chain_field (by decide) (by simp) rfl rfl rfl rfl (pf20) (load_int _) (load_int _) (eql_int _ _) f20 e20 ?_
            intro v1 v2 v3 v4 v5
            simp only [Act.put, List.setIfInBounds_toArray, List.set_cons_zero, List.set_cons_succ]
            refine chain_field (by decide) (by simp) rfl rfl rfl rfl (pf21) (load_int _) (load_int _) (eql_int _ _) f21 e21 ?_
            intro v1 v2 v3 v4 v5
            simp only [Act.put, List.setIfInBounds_toArray, List.set_cons_zero, List.set_cons_succ]
            rw [show ((((((((((decide (p.files = q.files) && decide (p.bytes = q.bytes)) && decide (p.join = q.join)) && decide (p.history = q.history)) && decide (p.remove = q.remove)) && decide (p.level = q.level)) && decide (p.batch = q.batch)) && decide (p.rate = q.rate)) && decide (p.down = q.down)) && decide (p.window = q.window)) && decide (p.keep = q.keep)) = twoB p q from rfl]
            go_wp2
            go_meet
            exact ⟨rfl, rfl⟩
          case rest =>
            obtain ⟨rfl, rfl⟩ := hcut
            have HS2 := HS.out
            clear HF
            cases h1p : oneB p q with
            | true =>
              rw [h1p, Bool.true_and] at HS2
              have HS3 := Lib.hid HS2
              clear HS2
              go_wp2
              go_ret
              exact ⟨ret_bool HS3.out, HB9.out⟩
            | false =>
              rw [h1p, Bool.false_and] at HS2
              have HS3 := Lib.hid HS2
              clear HS2
              go_wp2
              go_ret
              exact ⟨ret_bool HS3.out, HB9.out⟩
  · have hno : ¬ (p = q) := fun e => hlen (by rw [e])
    have hne : ((p.types.length : Int) != (q.types.length : Int)) = true := by simp [bne]; omega
    clear hlen
    go_enter Tryz.func10, Tryz.ntmps10
    have HR := Lib.hid (decide_eq_false hno)
    clear hno
    go_wp2
    go_ret
    exact ⟨ret_bool HR.out.symm, HB0.out⟩
end Go.Proofs.YtlefgffnjcmfoaaGreatDoor
namespace Go.Proofs.YtlefgffnjcmfoaaGreatDoor
open Go.RowKit Go.Maps Go.ChangeMaps Go.MapKept
open Lx Sy Ch
attribute [local go_sem ↓] Go.wp_at_zero Go.wp_at_succ
def kindsB (p : Pf) : Bool := (((((((decide (p.edit = 0) || decide (p.edit = 2)) && decide (Sy.within p.delete 0 2)) && decide (Sy.within p.thread 0 2)) && decide (Sy.within p.join 0 2)) && decide (Sy.within p.history 0 1)) && decide (Sy.within p.remove 0 1)) && decide (Sy.within p.level 0 4))
def numbersB (p : Pf) : Bool := ((((((((decide (Sy.within p.within 0 1073741824) && decide (Sy.within p.size 0 1073741824)) && decide (Sy.within p.parts 0 1073741824)) && decide (Sy.within p.files 0 1073741824)) && decide (Sy.within p.bytes 0 1073741824)) && decide (Sy.within p.rate 0 1073741824)) && decide (Sy.within p.down 0 1073741824)) && decide (Sy.within p.window 0 1073741824)) && decide (Sy.within p.keep 0 1073741824))
theorem kinds_iff {p : Pf} : kindsB p = true ↔ kinds p := by simp only [kindsB, kinds, Bool.and_eq_true, Bool.or_eq_true, decide_eq_true_eq, and_assoc]
theorem numbers_iff {p : Pf} : numbersB p = true ↔ numbers p := by simp only [numbersB, numbers, Bool.and_eq_true, decide_eq_true_eq, and_assoc]
def firstB (p : Pf) : Bool := kindsB p && (numbersB p && (wordOk p.name && !(decide (p.edit = 0) && !decide (p.within = 0))))
theorem rt_first {p : Pf} (h : firstB p = false) : decide (Rt p) = false := by
  rw [decide_eq_false_iff_not]
  rintro ⟨h1, h2, h3, h4, _⟩
  have : firstB p = true := by
    unfold firstB
    rw [kinds_iff.2 h1, numbers_iff.2 h2, h3]
    by_cases he : p.edit = 0
    · simp [he, h4 he]
    · simp [he]
  rw [this] at h; cases h
theorem rt_rest {p : Pf} (h : firstB p = true) {b : Bool} (hb : b = decide (filesOk p)) : b = decide (Rt p) := by
  unfold firstB at h
  simp only [Bool.and_eq_true, kinds_iff, numbers_iff, Bool.not_eq_true', Bool.and_eq_false_iff, decide_eq_false_iff_not, Bool.not_eq_false', decide_eq_true_eq] at h
  obtain ⟨h1, h2, h3, h4⟩ := h
  rw [hb, decide_eq_decide]
  exact ⟨fun q => ⟨h1, h2, h3, fun he => h4.resolve_left (fun z => z he), q⟩, fun q => q.2.2.2.2⟩
theorem eqz (z y : Int) : BinIs Tryz.prog .eql 3 (.int .i64 z) (.int .i64 y) (decide (z = y)) := eql_int z y
theorem within_ok {w : World} (n b : Int) : Calls Tryz.prog 35 #[.int .i64 n, .int .i64 0, .int .i64 b] w fun e w' => e = .returned (.bool (decide (Sy.within n 0 b))) ∧ w = w' := (y_within (w := w) n 0 b).mono fun _ _ ⟨h1, h2⟩ => ⟨h1, h2.symm⟩
set_option maxHeartbeats 16000000 in
set_option maxRecDepth 100000 in
theorem y_right {w : World} {x : Value} {p : Pf} (hx : PfAt w x p) (hf : fewP p = true) : Calls Tryz.prog 12 #[x] w fun e w' => e = .returned (.bool (decide (Rt p))) ∧ Below w.heap.size w w' := by
  have hfw := of_decide_eq_true hf
  obtain ⟨tv, rfl, ht⟩ := hx
  obtain ⟨ta, tc, rfl⟩ := ht.slice
  unfold pfV
  have hb0 : Below w.heap.size w (w.alloc (.cells #[.string (bs p.name), .int .i64 p.edit, .int .i64 p.within, .int .i64 p.delete, .bool p.react, .int .i64 p.thread, .bool p.quote, .bool p.mention, .int .i64 p.size, .int .i64 p.parts, .int .i64 p.files, .int .i64 p.bytes, .slice ta p.types.length tc, .int .i64 p.join, .int .i64 p.history, .int .i64 p.remove, .int .i64 p.level, .bool p.batch, .int .i64 p.rate, .int .i64 p.down, .int .i64 p.window, .int .i64 p.keep] 24)) := (Below.refl _ _).alloc (Nat.le_refl _) _
  have HB0 := Lib.hid hb0
  have HT := Lib.hid (ht.keep hb0)
  have HFW := Lib.hid hfw
  have hf24 : p.types.length ≤ 24 := hfw.1
  have hh : (w.alloc (.cells #[.string (bs p.name), .int .i64 p.edit, .int .i64 p.within, .int .i64 p.delete, .bool p.react, .int .i64 p.thread, .bool p.quote, .bool p.mention, .int .i64 p.size, .int .i64 p.parts, .int .i64 p.files, .int .i64 p.bytes, .slice ta p.types.length tc, .int .i64 p.join, .int .i64 p.history, .int .i64 p.remove, .int .i64 p.level, .bool p.batch, .int .i64 p.rate, .int .i64 p.down, .int .i64 p.window, .int .i64 p.keep] 24)).heap[w.heap.size]? = some (.cells #[.string (bs p.name), .int .i64 p.edit, .int .i64 p.within, .int .i64 p.delete, .bool p.react, .int .i64 p.thread, .bool p.quote, .bool p.mention, .int .i64 p.size, .int .i64 p.parts, .int .i64 p.files, .int .i64 p.bytes, .slice ta p.types.length tc, .int .i64 p.join, .int .i64 p.history, .int .i64 p.remove, .int .i64 p.level, .bool p.batch, .int .i64 p.rate, .int .i64 p.down, .int .i64 p.window, .int .i64 p.keep] 24) := heap_alloc_new w _
  have HG := Lib.hid (show (w.alloc (.cells #[.string (bs p.name), .int .i64 p.edit, .int .i64 p.within, .int .i64 p.delete, .bool p.react, .int .i64 p.thread, .bool p.quote, .bool p.mention, .int .i64 p.size, .int .i64 p.parts, .int .i64 p.files, .int .i64 p.bytes, .slice ta p.types.length tc, .int .i64 p.join, .int .i64 p.history, .int .i64 p.remove, .int .i64 p.level, .bool p.batch, .int .i64 p.rate, .int .i64 p.down, .int .i64 p.window, .int .i64 p.keep] 24)).cell? ⟨w.heap.size, 0, none⟩ = some (.string (bs p.name)) ∧ (w.alloc (.cells #[.string (bs p.name), .int .i64 p.edit, .int .i64 p.within, .int .i64 p.delete, .bool p.react, .int .i64 p.thread, .bool p.quote, .bool p.mention, .int .i64 p.size, .int .i64 p.parts, .int .i64 p.files, .int .i64 p.bytes, .slice ta p.types.length tc, .int .i64 p.join, .int .i64 p.history, .int .i64 p.remove, .int .i64 p.level, .bool p.batch, .int .i64 p.rate, .int .i64 p.down, .int .i64 p.window, .int .i64 p.keep] 24)).cell? ⟨w.heap.size, 1, none⟩ = some (.int .i64 p.edit) ∧ (w.alloc (.cells #[.string (bs p.name), .int .i64 p.edit, .int .i64 p.within, .int .i64 p.delete, .bool p.react, .int .i64 p.thread, .bool p.quote, .bool p.mention, .int .i64 p.size, .int .i64 p.parts, .int .i64 p.files, .int .i64 p.bytes, .slice ta p.types.length tc, .int .i64 p.join, .int .i64 p.history, .int .i64 p.remove, .int .i64 p.level, .bool p.batch, .int .i64 p.rate, .int .i64 p.down, .int .i64 p.window, .int .i64 p.keep] 24)).cell? ⟨w.heap.size, 2, none⟩ = some (.int .i64 p.within) ∧ (w.alloc (.cells #[.string (bs p.name), .int .i64 p.edit, .int .i64 p.within, .int .i64 p.delete, .bool p.react, .int .i64 p.thread, .bool p.quote, .bool p.mention, .int .i64 p.size, .int .i64 p.parts, .int .i64 p.files, .int .i64 p.bytes, .slice ta p.types.length tc, .int .i64 p.join, .int .i64 p.history, .int .i64 p.remove, .int .i64 p.level, .bool p.batch, .int .i64 p.rate, .int .i64 p.down, .int .i64 p.window, .int .i64 p.keep] 24)).cell? ⟨w.heap.size, 3, none⟩ = some (.int .i64 p.delete) ∧ (w.alloc (.cells #[.string (bs p.name), .int .i64 p.edit, .int .i64 p.within, .int .i64 p.delete, .bool p.react, .int .i64 p.thread, .bool p.quote, .bool p.mention, .int .i64 p.size, .int .i64 p.parts, .int .i64 p.files, .int .i64 p.bytes, .slice ta p.types.length tc, .int .i64 p.join, .int .i64 p.history, .int .i64 p.remove, .int .i64 p.level, .bool p.batch, .int .i64 p.rate, .int .i64 p.down, .int .i64 p.window, .int .i64 p.keep] 24)).cell? ⟨w.heap.size, 4, none⟩ = some (.bool p.react) ∧ (w.alloc (.cells #[.string (bs p.name), .int .i64 p.edit, .int .i64 p.within, .int .i64 p.delete, .bool p.react, .int .i64 p.thread, .bool p.quote, .bool p.mention, .int .i64 p.size, .int .i64 p.parts, .int .i64 p.files, .int .i64 p.bytes, .slice ta p.types.length tc, .int .i64 p.join, .int .i64 p.history, .int .i64 p.remove, .int .i64 p.level, .bool p.batch, .int .i64 p.rate, .int .i64 p.down, .int .i64 p.window, .int .i64 p.keep] 24)).cell? ⟨w.heap.size, 5, none⟩ = some (.int .i64 p.thread) ∧ (w.alloc (.cells #[.string (bs p.name), .int .i64 p.edit, .int .i64 p.within, .int .i64 p.delete, .bool p.react, .int .i64 p.thread, .bool p.quote, .bool p.mention, .int .i64 p.size, .int .i64 p.parts, .int .i64 p.files, .int .i64 p.bytes, .slice ta p.types.length tc, .int .i64 p.join, .int .i64 p.history, .int .i64 p.remove, .int .i64 p.level, .bool p.batch, .int .i64 p.rate, .int .i64 p.down, .int .i64 p.window, .int .i64 p.keep] 24)).cell? ⟨w.heap.size, 6, none⟩ = some (.bool p.quote) ∧ (w.alloc (.cells #[.string (bs p.name), .int .i64 p.edit, .int .i64 p.within, .int .i64 p.delete, .bool p.react, .int .i64 p.thread, .bool p.quote, .bool p.mention, .int .i64 p.size, .int .i64 p.parts, .int .i64 p.files, .int .i64 p.bytes, .slice ta p.types.length tc, .int .i64 p.join, .int .i64 p.history, .int .i64 p.remove, .int .i64 p.level, .bool p.batch, .int .i64 p.rate, .int .i64 p.down, .int .i64 p.window, .int .i64 p.keep] 24)).cell? ⟨w.heap.size, 7, none⟩ = some (.bool p.mention) ∧ (w.alloc (.cells #[.string (bs p.name), .int .i64 p.edit, .int .i64 p.within, .int .i64 p.delete, .bool p.react, .int .i64 p.thread, .bool p.quote, .bool p.mention, .int .i64 p.size, .int .i64 p.parts, .int .i64 p.files, .int .i64 p.bytes, .slice ta p.types.length tc, .int .i64 p.join, .int .i64 p.history, .int .i64 p.remove, .int .i64 p.level, .bool p.batch, .int .i64 p.rate, .int .i64 p.down, .int .i64 p.window, .int .i64 p.keep] 24)).cell? ⟨w.heap.size, 8, none⟩ = some (.int .i64 p.size) ∧ (w.alloc (.cells #[.string (bs p.name), .int .i64 p.edit, .int .i64 p.within, .int .i64 p.delete, .bool p.react, .int .i64 p.thread, .bool p.quote, .bool p.mention, .int .i64 p.size, .int .i64 p.parts, .int .i64 p.files, .int .i64 p.bytes, .slice ta p.types.length tc, .int .i64 p.join, .int .i64 p.history, .int .i64 p.remove, .int .i64 p.level, .bool p.batch, .int .i64 p.rate, .int .i64 p.down, .int .i64 p.window, .int .i64 p.keep] 24)).cell? ⟨w.heap.size, 9, none⟩ = some (.int .i64 p.parts) ∧ (w.alloc (.cells #[.string (bs p.name), .int .i64 p.edit, .int .i64 p.within, .int .i64 p.delete, .bool p.react, .int .i64 p.thread, .bool p.quote, .bool p.mention, .int .i64 p.size, .int .i64 p.parts, .int .i64 p.files, .int .i64 p.bytes, .slice ta p.types.length tc, .int .i64 p.join, .int .i64 p.history, .int .i64 p.remove, .int .i64 p.level, .bool p.batch, .int .i64 p.rate, .int .i64 p.down, .int .i64 p.window, .int .i64 p.keep] 24)).cell? ⟨w.heap.size, 10, none⟩ = some (.int .i64 p.files) ∧ (w.alloc (.cells #[.string (bs p.name), .int .i64 p.edit, .int .i64 p.within, .int .i64 p.delete, .bool p.react, .int .i64 p.thread, .bool p.quote, .bool p.mention, .int .i64 p.size, .int .i64 p.parts, .int .i64 p.files, .int .i64 p.bytes, .slice ta p.types.length tc, .int .i64 p.join, .int .i64 p.history, .int .i64 p.remove, .int .i64 p.level, .bool p.batch, .int .i64 p.rate, .int .i64 p.down, .int .i64 p.window, .int .i64 p.keep] 24)).cell? ⟨w.heap.size, 11, none⟩ = some (.int .i64 p.bytes) ∧ (w.alloc (.cells #[.string (bs p.name), .int .i64 p.edit, .int .i64 p.within, .int .i64 p.delete, .bool p.react, .int .i64 p.thread, .bool p.quote, .bool p.mention, .int .i64 p.size, .int .i64 p.parts, .int .i64 p.files, .int .i64 p.bytes, .slice ta p.types.length tc, .int .i64 p.join, .int .i64 p.history, .int .i64 p.remove, .int .i64 p.level, .bool p.batch, .int .i64 p.rate, .int .i64 p.down, .int .i64 p.window, .int .i64 p.keep] 24)).cell? ⟨w.heap.size, 12, none⟩ = some (.slice ta p.types.length tc) ∧ (w.alloc (.cells #[.string (bs p.name), .int .i64 p.edit, .int .i64 p.within, .int .i64 p.delete, .bool p.react, .int .i64 p.thread, .bool p.quote, .bool p.mention, .int .i64 p.size, .int .i64 p.parts, .int .i64 p.files, .int .i64 p.bytes, .slice ta p.types.length tc, .int .i64 p.join, .int .i64 p.history, .int .i64 p.remove, .int .i64 p.level, .bool p.batch, .int .i64 p.rate, .int .i64 p.down, .int .i64 p.window, .int .i64 p.keep] 24)).cell? ⟨w.heap.size, 13, none⟩ = some (.int .i64 p.join) ∧ (w.alloc (.cells #[.string (bs p.name), .int .i64 p.edit, .int .i64 p.within, .int .i64 p.delete, .bool p.react, .int .i64 p.thread, .bool p.quote, .bool p.mention, .int .i64 p.size, .int .i64 p.parts, .int .i64 p.files, .int .i64 p.bytes, .slice ta p.types.length tc, .int .i64 p.join, .int .i64 p.history, .int .i64 p.remove, .int .i64 p.level, .bool p.batch, .int .i64 p.rate, .int .i64 p.down, .int .i64 p.window, .int .i64 p.keep] 24)).cell? ⟨w.heap.size, 14, none⟩ = some (.int .i64 p.history) ∧ (w.alloc (.cells #[.string (bs p.name), .int .i64 p.edit, .int .i64 p.within, .int .i64 p.delete, .bool p.react, .int .i64 p.thread, .bool p.quote, .bool p.mention, .int .i64 p.size, .int .i64 p.parts, .int .i64 p.files, .int .i64 p.bytes, .slice ta p.types.length tc, .int .i64 p.join, .int .i64 p.history, .int .i64 p.remove, .int .i64 p.level, .bool p.batch, .int .i64 p.rate, .int .i64 p.down, .int .i64 p.window, .int .i64 p.keep] 24)).cell? ⟨w.heap.size, 15, none⟩ = some (.int .i64 p.remove) ∧ (w.alloc (.cells #[.string (bs p.name), .int .i64 p.edit, .int .i64 p.within, .int .i64 p.delete, .bool p.react, .int .i64 p.thread, .bool p.quote, .bool p.mention, .int .i64 p.size, .int .i64 p.parts, .int .i64 p.files, .int .i64 p.bytes, .slice ta p.types.length tc, .int .i64 p.join, .int .i64 p.history, .int .i64 p.remove, .int .i64 p.level, .bool p.batch, .int .i64 p.rate, .int .i64 p.down, .int .i64 p.window, .int .i64 p.keep] 24)).cell? ⟨w.heap.size, 16, none⟩ = some (.int .i64 p.level) ∧ (w.alloc (.cells #[.string (bs p.name), .int .i64 p.edit, .int .i64 p.within, .int .i64 p.delete, .bool p.react, .int .i64 p.thread, .bool p.quote, .bool p.mention, .int .i64 p.size, .int .i64 p.parts, .int .i64 p.files, .int .i64 p.bytes, .slice ta p.types.length tc, .int .i64 p.join, .int .i64 p.history, .int .i64 p.remove, .int .i64 p.level, .bool p.batch, .int .i64 p.rate, .int .i64 p.down, .int .i64 p.window, .int .i64 p.keep] 24)).cell? ⟨w.heap.size, 17, none⟩ = some (.bool p.batch) ∧ (w.alloc (.cells #[.string (bs p.name), .int .i64 p.edit, .int .i64 p.within, .int .i64 p.delete, .bool p.react, .int .i64 p.thread, .bool p.quote, .bool p.mention, .int .i64 p.size, .int .i64 p.parts, .int .i64 p.files, .int .i64 p.bytes, .slice ta p.types.length tc, .int .i64 p.join, .int .i64 p.history, .int .i64 p.remove, .int .i64 p.level, .bool p.batch, .int .i64 p.rate, .int .i64 p.down, .int .i64 p.window, .int .i64 p.keep] 24)).cell? ⟨w.heap.size, 18, none⟩ = some (.int .i64 p.rate) ∧ (w.alloc (.cells #[.string (bs p.name), .int .i64 p.edit, .int .i64 p.within, .int .i64 p.delete, .bool p.react, .int .i64 p.thread, .bool p.quote, .bool p.mention, .int .i64 p.size, .int .i64 p.parts, .int .i64 p.files, .int .i64 p.bytes, .slice ta p.types.length tc, .int .i64 p.join, .int .i64 p.history, .int .i64 p.remove, .int .i64 p.level, .bool p.batch, .int .i64 p.rate, .int .i64 p.down, .int .i64 p.window, .int .i64 p.keep] 24)).cell? ⟨w.heap.size, 19, none⟩ = some (.int .i64 p.down) ∧ (w.alloc (.cells #[.string (bs p.name), .int .i64 p.edit, .int .i64 p.within, .int .i64 p.delete, .bool p.react, .int .i64 p.thread, .bool p.quote, .bool p.mention, .int .i64 p.size, .int .i64 p.parts, .int .i64 p.files, .int .i64 p.bytes, .slice ta p.types.length tc, .int .i64 p.join, .int .i64 p.history, .int .i64 p.remove, .int .i64 p.level, .bool p.batch, .int .i64 p.rate, .int .i64 p.down, .int .i64 p.window, .int .i64 p.keep] 24)).cell? ⟨w.heap.size, 20, none⟩ = some (.int .i64 p.window) ∧ (w.alloc (.cells #[.string (bs p.name), .int .i64 p.edit, .int .i64 p.within, .int .i64 p.delete, .bool p.react, .int .i64 p.thread, .bool p.quote, .bool p.mention, .int .i64 p.size, .int .i64 p.parts, .int .i64 p.files, .int .i64 p.bytes, .slice ta p.types.length tc, .int .i64 p.join, .int .i64 p.history, .int .i64 p.remove, .int .i64 p.level, .bool p.batch, .int .i64 p.rate, .int .i64 p.down, .int .i64 p.window, .int .i64 p.keep] 24)).cell? ⟨w.heap.size, 21, none⟩ = some (.int .i64 p.keep) from ⟨by rw [Lib.cell_of_heap hh]; rfl, by rw [Lib.cell_of_heap hh]; rfl, by rw [Lib.cell_of_heap hh]; rfl, by rw [Lib.cell_of_heap hh]; rfl, by rw [Lib.cell_of_heap hh]; rfl, by rw [Lib.cell_of_heap hh]; rfl, by rw [Lib.cell_of_heap hh]; rfl, by rw [Lib.cell_of_heap hh]; rfl, by rw [Lib.cell_of_heap hh]; rfl, by rw [Lib.cell_of_heap hh]; rfl, by rw [Lib.cell_of_heap hh]; rfl, by rw [Lib.cell_of_heap hh]; rfl, by rw [Lib.cell_of_heap hh]; rfl, by rw [Lib.cell_of_heap hh]; rfl, by rw [Lib.cell_of_heap hh]; rfl, by rw [Lib.cell_of_heap hh]; rfl, by rw [Lib.cell_of_heap hh]; rfl, by rw [Lib.cell_of_heap hh]; rfl, by rw [Lib.cell_of_heap hh]; rfl, by rw [Lib.cell_of_heap hh]; rfl, by rw [Lib.cell_of_heap hh]; rfl, by rw [Lib.cell_of_heap hh]; rfl⟩)
  clear ht hb0 hh hfw hf
  go_enter Tryz.func12, Tryz.ntmps12
  go_upto_region 1 with fail
  generalize (w.alloc (.cells #[.string (bs p.name), .int .i64 p.edit, .int .i64 p.within, .int .i64 p.delete, .bool p.react, .int .i64 p.thread, .bool p.quote, .bool p.mention, .int .i64 p.size, .int .i64 p.parts, .int .i64 p.files, .int .i64 p.bytes, .slice ta p.types.length tc, .int .i64 p.join, .int .i64 p.history, .int .i64 p.remove, .int .i64 p.level, .bool p.batch, .int .i64 p.rate, .int .i64 p.down, .int .i64 p.window, .int .i64 p.keep] 24)) = w1 at *
  generalize (Value.agg #[.string (bs p.name), .int .i64 p.edit, .int .i64 p.within, .int .i64 p.delete, .bool p.react, .int .i64 p.thread, .bool p.quote, .bool p.mention, .int .i64 p.size, .int .i64 p.parts, .int .i64 p.files, .int .i64 p.bytes, .slice ta p.types.length tc, .int .i64 p.join, .int .i64 p.history, .int .i64 p.remove, .int .i64 p.level, .bool p.batch, .int .i64 p.rate, .int .i64 p.down, .int .i64 p.window, .int .i64 p.keep] : Value) = xv
  obtain ⟨g0, g1, g2, g3, g4, g5, g6, g7, g8, g9, g10, g11, g12, g13, g14, g15, g16, g17, g18, g19, g20, g21⟩ := HG.out
  go_cut [3] from 6 to 43 (fun v wx => v = .bool (kindsB p) ∧ w1 = wx)
  case first =>
    refine wp_region_lit ?_
    refine cmp_first (by decide) (by simp) rfl (pf1) (load_int _) (eqz _ _) g1 ?_
    intro v1 v2
    simp only [Act.put, List.setIfInBounds_toArray, List.set_cons_zero, List.set_cons_succ]
    refine cmp_or (by decide) (by simp) rfl rfl rfl (pf1) (load_int _) (eqz _ _) g1 ?_
    intro v1 v2 v3
    simp only [Act.put, List.setIfInBounds_toArray, List.set_cons_zero, List.set_cons_succ]
    refine call_and (by decide) (by simp) rfl rfl rfl (pf3) (load_int _) (enters_of Tryz.func35 (by kernel_rfl) rfl) (within_ok _ _) g3 ?_
    intro v1 v2 v3
    simp only [Act.put, List.setIfInBounds_toArray, List.set_cons_zero, List.set_cons_succ]
    refine call_and (by decide) (by simp) rfl rfl rfl (pf5) (load_int _) (enters_of Tryz.func35 (by kernel_rfl) rfl) (within_ok _ _) g5 ?_
    intro v1 v2 v3
    simp only [Act.put, List.setIfInBounds_toArray, List.set_cons_zero, List.set_cons_succ]
    refine call_and (by decide) (by simp) rfl rfl rfl (pf13) (load_int _) (enters_of Tryz.func35 (by kernel_rfl) rfl) (within_ok _ _) g13 ?_
    intro v1 v2 v3
    simp only [Act.put, List.setIfInBounds_toArray, List.set_cons_zero, List.set_cons_succ]
    refine call_and (by decide) (by simp) rfl rfl rfl (pf14) (load_int _) (enters_of Tryz.func35 (by kernel_rfl) rfl) (within_ok _ _) g14 ?_
    intro v1 v2 v3
    simp only [Act.put, List.setIfInBounds_toArray, List.set_cons_zero, List.set_cons_succ]
    refine call_and (by decide) (by simp) rfl rfl rfl (pf15) (load_int _) (enters_of Tryz.func35 (by kernel_rfl) rfl) (within_ok _ _) g15 ?_
    intro v1 v2 v3
    simp only [Act.put, List.setIfInBounds_toArray, List.set_cons_zero, List.set_cons_succ]
    refine call_and (by decide) (by simp) rfl rfl rfl (pf16) (load_int _) (enters_of Tryz.func35 (by kernel_rfl) rfl) (within_ok _ _) g16 ?_
    intro v1 v2 v3
    simp only [Act.put, List.setIfInBounds_toArray, List.set_cons_zero, List.set_cons_succ]
    rw [show (((((((decide (p.edit = 0) || decide (p.edit = 2)) && decide (Sy.within p.delete 0 2)) && decide (Sy.within p.thread 0 2)) && decide (Sy.within p.join 0 2)) && decide (Sy.within p.history 0 1)) && decide (Sy.within p.remove 0 1)) && decide (Sy.within p.level 0 4)) = kindsB p from rfl]
    go_wp2
    go_meet
    exact ⟨rfl, rfl⟩
  case rest =>
    obtain ⟨rfl, rfl⟩ := hcut
    go_upto_region 2 with fail
    go_cut [4] from 44 to 86 (fun v wx => v = .bool (numbersB p) ∧ w1 = wx)
    case first =>
      refine wp_region_lit ?_
      refine call_first (by decide) (by simp) rfl (pf2) (load_int _) (enters_of Tryz.func35 (by kernel_rfl) rfl) (within_ok _ _) g2 ?_
      intro v1 v2
      simp only [Act.put, List.setIfInBounds_toArray, List.set_cons_zero, List.set_cons_succ]
      refine call_and (by decide) (by simp) rfl rfl rfl (pf8) (load_int _) (enters_of Tryz.func35 (by kernel_rfl) rfl) (within_ok _ _) g8 ?_
      intro v1 v2 v3
      simp only [Act.put, List.setIfInBounds_toArray, List.set_cons_zero, List.set_cons_succ]
      refine call_and (by decide) (by simp) rfl rfl rfl (pf9) (load_int _) (enters_of Tryz.func35 (by kernel_rfl) rfl) (within_ok _ _) g9 ?_
      intro v1 v2 v3
      simp only [Act.put, List.setIfInBounds_toArray, List.set_cons_zero, List.set_cons_succ]
      refine call_and (by decide) (by simp) rfl rfl rfl (pf10) (load_int _) (enters_of Tryz.func35 (by kernel_rfl) rfl) (within_ok _ _) g10 ?_
      intro v1 v2 v3
      simp only [Act.put, List.setIfInBounds_toArray, List.set_cons_zero, List.set_cons_succ]
      refine call_and (by decide) (by simp) rfl rfl rfl (pf11) (load_int _) (enters_of Tryz.func35 (by kernel_rfl) rfl) (within_ok _ _) g11 ?_
      intro v1 v2 v3
      simp only [Act.put, List.setIfInBounds_toArray, List.set_cons_zero, List.set_cons_succ]
      refine call_and (by decide) (by simp) rfl rfl rfl (pf18) (load_int _) (enters_of Tryz.func35 (by kernel_rfl) rfl) (within_ok _ _) g18 ?_
      intro v1 v2 v3
      simp only [Act.put, List.setIfInBounds_toArray, List.set_cons_zero, List.set_cons_succ]
      refine call_and (by decide) (by simp) rfl rfl rfl (pf19) (load_int _) (enters_of Tryz.func35 (by kernel_rfl) rfl) (within_ok _ _) g19 ?_
      intro v1 v2 v3
      simp only [Act.put, List.setIfInBounds_toArray, List.set_cons_zero, List.set_cons_succ]
      refine call_and (by decide) (by simp) rfl rfl rfl (pf20) (load_int _) (enters_of Tryz.func35 (by kernel_rfl) rfl) (within_ok _ _) g20 ?_
      intro v1 v2 v3
      simp only [Act.put, List.setIfInBounds_toArray, List.set_cons_zero, List.set_cons_succ]
      refine call_and (by decide) (by simp) rfl rfl rfl (pf21) (load_int _) (enters_of Tryz.func35 (by kernel_rfl) rfl) (within_ok _ _) g21 ?_
      intro v1 v2 v3
      simp only [Act.put, List.setIfInBounds_toArray, List.set_cons_zero, List.set_cons_succ]
      rw [show ((((((((decide (Sy.within p.within 0 1073741824) && decide (Sy.within p.size 0 1073741824)) && decide (Sy.within p.parts 0 1073741824)) && decide (Sy.within p.files 0 1073741824)) && decide (Sy.within p.bytes 0 1073741824)) && decide (Sy.within p.rate 0 1073741824)) && decide (Sy.within p.down 0 1073741824)) && decide (Sy.within p.window 0 1073741824)) && decide (Sy.within p.keep 0 1073741824)) = numbersB p from rfl]
      go_wp2
      go_meet
      exact ⟨rfl, rfl⟩
    case rest =>
      obtain ⟨rfl, rfl⟩ := hcut
      clear g3 g4 g5 g6 g7 g8 g9 g13 g14 g15 g16 g17 g18 g19 g20 g21
      have HWO := Lib.hid (fun w => q_word (w := w) (s := p.name) (by have := HFW.out.2.1; omega))
      have zn := bs_size p.name
      go_upto_region 3 with fail
      go_cut [3, 4, 108] from 87 to 107 (fun k n v wx => k = .bool (kindsB p) ∧ n = .bool (numbersB p) ∧ v = .bool (!firstB p) ∧ w1 = wx)
      case first =>
        cases hk : kindsB p with
        | false =>
          have HF := Lib.hid (show (!firstB p) = true by unfold firstB; rw [hk]; rfl)
          go_wp2
          go_meet
          exact ⟨by first | rfl | rw [hk], by first | rfl | rw [hn], by rw [HF.out], rfl⟩
        | true =>
          cases hn : numbersB p with
          | false =>
            have HF := Lib.hid (show (!firstB p) = true by unfold firstB; rw [hk, hn]; rfl)
            go_wp2
            go_meet
            exact ⟨by first | rfl | rw [hk], by first | rfl | rw [hn], by rw [HF.out], rfl⟩
          | true =>
            cases hw : wordOk p.name with
            | false =>
              rw [hw] at HWO
              have HF := Lib.hid (show (!firstB p) = true by unfold firstB; rw [hk, hn, hw]; rfl)
              clear hw
              go_wp2_with (go_at_call 36; refine (HWO.out _).mono ?_; rintro e w9 ⟨rfl, rfl⟩)
              go_meet
              exact ⟨by first | rfl | rw [hk], by first | rfl | rw [hn], by rw [HF.out], rfl⟩
            | true =>
              rw [hw] at HWO
              by_cases he : p.edit = 0
              · by_cases hz : p.within = 0
                · have HF := Lib.hid (show (!firstB p) = false by unfold firstB; rw [hk, hn, hw, decide_eq_true he, decide_eq_true hz]; rfl)
                  clear hw
                  go_wp2_with (go_at_call 36; refine (HWO.out _).mono ?_; rintro e w9 ⟨rfl, rfl⟩)
                  go_meet
                  exact ⟨by first | rfl | rw [hk], by first | rfl | rw [hn], by rw [HF.out], rfl⟩
                · have HF := Lib.hid (show (!firstB p) = true by unfold firstB; rw [hk, hn, hw, decide_eq_true he, decide_eq_false hz]; rfl)
                  have hz' : (p.within != 0) = true := by simpa using hz
                  clear hw
                  go_wp2_with (go_at_call 36; refine (HWO.out _).mono ?_; rintro e w9 ⟨rfl, rfl⟩)
                  go_meet
                  exact ⟨by first | rfl | rw [hk], by first | rfl | rw [hn], by rw [HF.out], rfl⟩
              · have HF := Lib.hid (show (!firstB p) = false by unfold firstB; rw [hk, hn, hw, decide_eq_false he]; rfl)
                have he' : (p.edit == 0) = false := by simpa using he
                clear hw
                go_wp2_with (go_at_call 36; refine (HWO.out _).mono ?_; rintro e w9 ⟨rfl, rfl⟩)
                go_meet
                exact ⟨by first | rfl | rw [hk], by first | rfl | rw [hn], by rw [HF.out], rfl⟩
      case rest =>
        obtain ⟨rfl, rfl, rfl, rfl⟩ := hcut
        cases hfb : firstB p with
        | false =>
          have HR := Lib.hid (rt_first hfb)
          go_wp2
          go_ret
          exact ⟨ret_bool HR.out.symm, HB0.out⟩
        | true =>
          have HRR := Lib.hid (fun b hb => rt_rest hfb (b := b) hb)
          clear hfb
          by_cases hf0 : p.files = 0
          · by_cases hb : p.bytes = 0
            · have HR := Lib.hid (show decide (p.types.length = 0) = decide (Rt p) from HRR.out _ (by
                rw [decide_eq_decide]; unfold filesOk
                rw [List.length_eq_zero_iff]
                exact ⟨fun q => ⟨fun _ => ⟨hb, q⟩, fun h => absurd hf0 h⟩, fun q => (q.1 hf0).2⟩))
              by_cases hl : p.types.length = 0
              · rw [decide_eq_true hl] at HR
                rw [hl] at g12
                go_wp2
                go_ret
                exact ⟨ret_bool HR.out, HB0.out⟩
              · rw [decide_eq_false hl] at HR
                have hl' : ((p.types.length : Int) == 0) = false := by rw [beq_eq_false_iff_ne]; omega
                go_wp2
                go_ret
                exact ⟨ret_bool HR.out, HB0.out⟩
            · have HR := Lib.hid (show false = decide (Rt p) from HRR.out _ (by rw [eq_comm, decide_eq_false_iff_not]; rintro ⟨q, _⟩; exact hb (q hf0).1))
              have hb' : (p.bytes == 0) = false := by simpa using hb
              go_wp2
              go_ret
              exact ⟨ret_bool HR.out, HB0.out⟩
          · have hf0' : (p.files == 0) = false := by simpa using hf0
            by_cases h1 : p.types.length < 1
            · have HR := Lib.hid (show false = decide (Rt p) from HRR.out _ (by rw [eq_comm, decide_eq_false_iff_not]; rintro ⟨_, q⟩; have := (q hf0).1.1; omega))
              have h1' : (p.types.length : Int) < 1 := by omega
              go_wp2
              go_ret
              exact ⟨ret_bool HR.out, HB0.out⟩
            · have h1' : ¬ (p.types.length : Int) < 1 := by omega
              have h1d : decide ((p.types.length : Int) < 1) = false := decide_eq_false h1'
              by_cases h2 : 20 < p.types.length
              · have HR := Lib.hid (show false = decide (Rt p) from HRR.out _ (by rw [eq_comm, decide_eq_false_iff_not]; rintro ⟨_, q⟩; have := (q hf0).1.2; omega))
                have h2' : (20 : Int) < (p.types.length : Int) := by omega
                go_wp2
                go_ret
                exact ⟨ret_bool HR.out, HB0.out⟩
              · have h2' : ¬ (20 : Int) < (p.types.length : Int) := by omega
                have h2d : decide ((20 : Int) < (p.types.length : Int)) = false := decide_eq_false h2'
                go_wp2
                go_loopw [5] (fun i wr => ∃ k : Nat, k ≤ p.types.length ∧ i = .int .i64 k ∧ Hid (∀ x ∈ p.types.take k, wordOk x = true) ∧ w1 = wr) (fun i _ => p.types.length - (intOf i).toNat)
                case atStart => exact ⟨0, Nat.zero_le _, rfl, Lib.hid (by simp), by trivial⟩
                case round =>
                  obtain ⟨k, hk, rfl, HX, rfl⟩ := hrel
                  by_cases hlt : k < p.types.length
                  · obtain ⟨s, hs⟩ : ∃ s, p.types[k]? = some s := ⟨_, List.getElem?_eq_getElem hlt⟩
                    obtain ⟨g, off, cap, h1x, _, hc⟩ := HT.out.form (by omega)
                    cases h1x
                    have c0 := hc k s hs
                    have hsl := HFW.out.2.2 s (List.mem_of_getElem? hs)
                    have HS := Lib.hid hs
                    clear hc hs
                    have HWS := Lib.hid (fun w => q_word (w := w) (s := s) (by omega))
                    cases hws : wordOk s with
                    | false =>
                      rw [hws] at HWS
                      have HR := Lib.hid (show false = decide (Rt p) from HRR.out _ (by rw [eq_comm, decide_eq_false_iff_not]; rintro ⟨_, q⟩; have := (q hf0).2 s (List.mem_of_getElem? HS.out); rw [hws] at this; cases this))
                      clear hws
                      go_wp2_with (go_at_call 36; refine (HWS.out _).mono ?_; rintro e w9 ⟨rfl, rfl⟩)
                      go_ret
                      exact ⟨ret_bool HR.out, HB0.out⟩
                    | true =>
                      rw [hws] at HWS
                      have HX2 := Lib.hid (show ∀ x ∈ p.types.take (k + 1), wordOk x = true by
                        intro x hx
                        rw [List.take_add_one, HS.out] at hx
                        rcases List.mem_append.1 hx with q | q
                        · exact HX.out x q
                        · simp at q; subst q; exact hws)
                      clear hws
                      go_wp2_with (go_at_call 36; refine (HWS.out _).mono ?_; rintro e w9 ⟨rfl, rfl⟩)
                      go_roundw
                      case rel => exact ⟨k + 1, by omega, by go_num, HX2, by trivial⟩
                      case measure => simp [intOf]; omega
                  · obtain rfl : k = p.types.length := by omega
                    have HR := Lib.hid (show true = decide (Rt p) from HRR.out _ (by rw [eq_comm, decide_eq_true_eq]; exact ⟨fun q => absurd q hf0, fun _ => ⟨⟨by omega, by omega⟩, by have := HX.out; rwa [List.take_length] at this⟩⟩))
                    go_wp2
                    go_ret
                    exact ⟨ret_bool HR.out, HB0.out⟩
end Go.Proofs.YtlefgffnjcmfoaaGreatDoor
namespace Go.Proofs.YtlefgffnjcmfoaaGreatDoor
namespace Sy
open Lx
def tys (l : List S) : S := l.flatMap fun x => 32 :: x
def pr0 (p : Pf) : S := [110, 101, 116, 119, 111, 114, 107, 32] ++ p.name ++ [32, 59, 10, 101, 100, 105, 116, 32] ++ ynw (decide (p.edit = 2))
def pr1 (p : Pf) : S := pr0 p ++ if p.within = 0 then [] else [32, 119, 105, 116, 104, 105, 110, 32] ++ Lib.decDigits p.within.toNat
theorem pr1_no {p : Pf} (h : p.within = 0) : pr1 p = pr0 p := by unfold pr1; simp [h]
theorem pr1_yes {p : Pf} (h : ¬ p.within = 0) : pr1 p = pr0 p ++ [32, 119, 105, 116, 104, 105, 110, 32] ++ Lib.decDigits p.within.toNat := by unfold pr1; simp [h]
def pr2 (p : Pf) : S := pr1 p ++ [32, 59, 10, 100, 101, 108, 101, 116, 101, 32] ++ deW.getD p.delete.toNat [] ++ [32, 59, 10, 114, 101, 97, 99, 116, 32] ++ ynw p.react ++ [32, 59, 10, 116, 104, 114, 101, 97, 100, 32] ++ thW.getD p.thread.toNat []
def pr3 (p : Pf) : S := pr2 p ++ [32, 59, 10, 113, 117, 111, 116, 101, 32] ++ ynw p.quote ++ [32, 59, 10, 109, 101, 110, 116, 105, 111, 110, 32] ++ ynw p.mention ++ [32, 59, 10, 115, 105, 122, 101, 32] ++ Lib.decDigits p.size.toNat ++ [32, 112, 97, 114, 116, 115, 32] ++ Lib.decDigits p.parts.toNat ++ [32, 59, 10]
def pr4 (p : Pf) : S := pr3 p ++ if p.files = 0 then [] else [102, 105, 108, 101, 115, 32] ++ Lib.decDigits p.files.toNat ++ [32, 98, 121, 116, 101, 115, 32] ++ Lib.decDigits p.bytes.toNat ++ [32, 116, 121, 112, 101, 115] ++ tys p.types ++ [32, 59, 10]
theorem pr4_no {p : Pf} (h : p.files = 0) : pr4 p = pr3 p := by unfold pr4; simp [h]
theorem pr4_yes {p : Pf} (h : ¬ p.files = 0) : pr4 p = pr3 p ++ [102, 105, 108, 101, 115, 32] ++ Lib.decDigits p.files.toNat ++ [32, 98, 121, 116, 101, 115, 32] ++ Lib.decDigits p.bytes.toNat ++ [32, 116, 121, 112, 101, 115] ++ tys p.types ++ [32, 59, 10] := by unfold pr4; simp [h]
def pr5 (p : Pf) : S := pr4 p ++ [106, 111, 105, 110, 32] ++ joW.getD p.join.toNat [] ++ [32, 59, 10, 104, 105, 115, 116, 111, 114, 121, 32] ++ hiW.getD p.history.toNat [] ++ [32, 59, 10, 114, 101, 109, 111, 118, 101, 32] ++ reW.getD p.remove.toNat []
def pr6 (p : Pf) : S := pr5 p ++ [32, 59, 10, 114, 101, 99, 101, 105, 112, 116, 115, 32] ++ leW.getD p.level.toNat []
def pr7 (p : Pf) : S := pr6 p ++ if p.batch = true then [32, 98, 97, 116, 99, 104] else []
theorem pr7_no {p : Pf} (h : ¬ p.batch = true) : pr7 p = pr6 p := by unfold pr7; simp [h]
theorem pr7_yes {p : Pf} (h : p.batch = true) : pr7 p = pr6 p ++ [32, 98, 97, 116, 99, 104] := by unfold pr7; simp [h]
def pr8 (p : Pf) : S := pr7 p ++ [32, 59, 10, 114, 97, 116, 101, 32] ++ Lib.decDigits p.rate.toNat ++ [32, 100, 111, 119, 110, 32] ++ Lib.decDigits p.down.toNat ++ [32, 111, 102, 32] ++ Lib.decDigits p.window.toNat ++ [32, 59, 10]
def pr9 (p : Pf) : S := pr8 p ++ if p.keep = 0 then [] else [107, 101, 101, 112, 32] ++ Lib.decDigits p.keep.toNat ++ [32, 59, 10]
theorem pr9_no {p : Pf} (h : p.keep = 0) : pr9 p = pr8 p := by unfold pr9; simp [h]
theorem pr9_yes {p : Pf} (h : ¬ p.keep = 0) : pr9 p = pr8 p ++ [107, 101, 101, 112, 32] ++ Lib.decDigits p.keep.toNat ++ [32, 59, 10] := by unfold pr9; simp [h]
theorem flat_nil : flat [] = [] := rfl
theorem flat_kw (s : S) (l : List B) : flat (kw s :: l) = s ++ 32 :: flat l := by simp [flat, kw]
theorem flat_nu (n : Int) (l : List B) : flat (nu n :: l) = Lib.decDigits n.toNat ++ 32 :: flat l := by simp [flat, nu]
theorem flat_semi (l : List B) : flat (semi :: l) = 59 :: 10 :: flat l := by simp [flat, semi]
theorem flat_tys (l : List S) (r : List B) : 32 :: flat (l.map kw ++ r) = tys l ++ 32 :: flat r := by
  induction l with
  | nil => rfl
  | cons x l ih => rw [List.map_cons, List.cons_append, flat_kw, ih]; simp [tys]
theorem flat_files (p : Pf) : flat (bFiles p) = if p.files = 0 then [] else [102, 105, 108, 101, 115, 32] ++ Lib.decDigits p.files.toNat ++ [32, 98, 121, 116, 101, 115, 32] ++ Lib.decDigits p.bytes.toNat ++ [32, 116, 121, 112, 101, 115] ++ tys p.types ++ [32, 59, 10] := by
  unfold bFiles
  split
  · rfl
  · rw [flat_kw, flat_nu, flat_kw, flat_nu, flat_kw, flat_tys, flat_semi, flat_nil]; simp
theorem flat_edit {p : Pf} (h : Rt p) : flat (bEdit p) = [101, 100, 105, 116, 32] ++ ynw (decide (p.edit = 2)) ++ (if p.within = 0 then [] else [32, 119, 105, 116, 104, 105, 110, 32] ++ Lib.decDigits p.within.toNat) ++ [32, 59, 10] := by
  have hk := h.1.1
  have hw := h.2.2.2.1
  unfold bEdit
  by_cases he : p.edit = 2
  · rw [if_pos he, decide_eq_true he]
    by_cases hz : p.within = 0
    · rw [if_pos hz, if_pos hz]; simp only [flat_kw, flat_semi, flat_nil]; simp [ynw]
    · rw [if_neg hz, if_neg hz]; simp only [flat_kw, flat_nu, flat_semi, flat_nil]; simp [ynw]
  · have hz : p.within = 0 := hw (by omega)
    rw [if_neg he, decide_eq_false he, if_pos hz]; simp only [flat_kw, flat_semi, flat_nil]; simp [ynw]
theorem flat_keep (p : Pf) : flat (bKeep p) = if p.keep = 0 then [] else [107, 101, 101, 112, 32] ++ Lib.decDigits p.keep.toNat ++ [32, 59, 10] := by
  unfold bKeep
  split
  · rfl
  · simp only [flat_kw, flat_nu, flat_semi, flat_nil]; simp
theorem flat_level (p : Pf) : flat (bLevel p) = [114, 101, 99, 101, 105, 112, 116, 115, 32] ++ leW.getD p.level.toNat [] ++ (if p.batch = true then [32, 98, 97, 116, 99, 104] else []) ++ [32, 59, 10] := by
  unfold bLevel
  cases p.batch <;> simp [flat_kw, flat_semi, flat_nil]
theorem flat_part (w v : S) : flat (bPart w v) = w ++ 32 :: v ++ [32, 59, 10] := by
  unfold bPart
  simp only [flat_kw, flat_semi, flat_nil]; simp
theorem prs_text {p : Pf} (h : Rt p) : pr9 p = text p := by
  unfold text pb
  simp only [flat_append, flat_edit h, flat_files, flat_keep, flat_level, flat_part, flat_kw, flat_nu, flat_semi, flat_nil]
  unfold pr9 pr8 pr7 pr6 pr5 pr4 pr3 pr2 pr1 pr0
  simp only [List.append_assoc, List.cons_append, List.nil_append]
theorem len9 {p : Pf} (h : Rt p) : (pr9 p).length ≤ 1000 := by rw [prs_text h]; exact text_len h
theorem len8 {p : Pf} (h : Rt p) : (pr8 p).length ≤ 1000 := by have := len9 h; unfold pr9 at this; simp only [List.length_append] at this; omega
theorem len7 {p : Pf} (h : Rt p) : (pr7 p).length ≤ 1000 := by have := len8 h; unfold pr8 at this; simp only [List.length_append] at this; omega
theorem len6 {p : Pf} (h : Rt p) : (pr6 p).length ≤ 1000 := by have := len7 h; unfold pr7 at this; simp only [List.length_append] at this; omega
theorem len5 {p : Pf} (h : Rt p) : (pr5 p).length ≤ 1000 := by have := len6 h; unfold pr6 at this; simp only [List.length_append] at this; omega
theorem len4 {p : Pf} (h : Rt p) : (pr4 p).length ≤ 1000 := by have := len5 h; unfold pr5 at this; simp only [List.length_append] at this; omega
theorem len3 {p : Pf} (h : Rt p) : (pr3 p).length ≤ 1000 := by have := len4 h; unfold pr4 at this; simp only [List.length_append] at this; omega
theorem len2 {p : Pf} (h : Rt p) : (pr2 p).length ≤ 1000 := by have := len3 h; unfold pr3 at this; simp only [List.length_append] at this; omega
theorem len1 {p : Pf} (h : Rt p) : (pr1 p).length ≤ 1000 := by have := len2 h; unfold pr2 at this; simp only [List.length_append] at this; omega
theorem len0 {p : Pf} (h : Rt p) : (pr0 p).length ≤ 1000 := by have := len1 h; unfold pr1 at this; simp only [List.length_append] at this; omega
theorem dec10 {n : Int} (h : n ≤ 1073741824) : (Lib.decDigits n.toNat).length ≤ 10 := dec_len 9 _ (by omega)
theorem ynw3 (b : Bool) : (ynw b).length ≤ 3 := by cases b <;> simp [ynw]
theorem tys_take {l : List S} {k : Nat} {x : S} (h : l[k]? = some x) : tys (l.take (k + 1)) = tys (l.take k) ++ [32] ++ x := by rw [List.take_add_one, h]; simp [tys]
theorem tys_len {l : List S} (h : ∀ x ∈ l, x.length ≤ 40) : (tys l).length ≤ 41 * l.length := by
  induction l with
  | nil => simp [tys]
  | cons x l ih =>
    have h1 := h x (by simp)
    have h2 := ih (fun y hy => h y (by simp [hy]))
    have e : tys (x :: l) = 32 :: x ++ tys l := by simp [tys]
    rw [e]; simp; omega
end Sy
end Go.Proofs.YtlefgffnjcmfoaaGreatDoor
namespace Go.Proofs.YtlefgffnjcmfoaaGreatDoor
open Go.RowKit
namespace Ch
/-- One operation: a value, or a call of a function of the program; what was there stands. -/
def Does (P : Program) (o : Oper) (a : Act) (w : World) (V : World → Value → Prop) : Prop :=
  (∃ v w', (execOp a.eval o).run P w = .ok (.value v) w' ∧ Below w.heap.size w w' ∧ V w' v) ∨
  ∃ f args, (execOp a.eval o).run P w = .ok (.enter f args) w ∧ Calls P f args w fun e w' => ∃ v, e = .returned v ∧ Below w.heap.size w w' ∧ V w' v
def Stable (V : World → Value → Prop) : Prop := ∀ w w' v, Below w.heap.size w w' → V w v → V w' v
section
variable {P : Program} {ops : Array Oper} {Q : Exit → Act → World → Prop} {md : Region.Mode} {a0 : Act} {w0 : World} {V : Nat → World → Value → Prop}
def dstAt (ops : Array Oper) (j : Nat) : Option Tmp := (ops[j]?).bind (·.dst)
/-- Whoever writes the slot waits for i, or is i. -/
def keepB (md : Region.Mode) (ops : Array Oper) (i s : Nat) : Bool := (List.range ops.size).all fun j => dstAt ops j != some s || Region.waitsFor md ops j i || j == i
structure Inv (md : Region.Mode) (ops : Array Oper) (a0 : Act) (w0 : World) (V : Nat → World → Value → Prop) (t : Array Bool) (a : Act) (w : World) : Prop where
  below : Below w0.heap.size w0 w
  size : a.tmps.size = a0.tmps.size
  defers : a.defers = a0.defers
  same : ∀ s, (∀ j, dstAt ops j = some s → t.getD j false = false) → a.tmps[s]? = a0.tmps[s]?
  done : ∀ j d, dstAt ops j = some d → t.getD j false = true → ∃ v, a.tmps[d]? = some v ∧ V j w v
  shut : Shut md ops t
  all : t.size = ops.size
structure Fine (md : Region.Mode) (ops : Array Oper) (n : Nat) : Prop where
  dst : ∀ j, j < ops.size → ∃ d, dstAt ops j = some d ∧ d < n
  one : ∀ i j d, dstAt ops i = some d → dstAt ops j = some d → i = j
  guard : ∀ (i : Nat) (o : Oper), ops[i]? = some o → o.guard = none
  lex : ∀ (i : Nat) (o : Oper), ops[i]? = some o → ∀ e ∈ o.after, Region.binds md e = true → e.on < i
def fineB (md : Region.Mode) (ops : Array Oper) (n : Nat) : Bool :=
  (List.range ops.size).all (fun j => (dstAt ops j).any fun d => decide (d < n)) &&
  (List.range ops.size).all (fun i => (List.range ops.size).all fun j => i == j || dstAt ops i != dstAt ops j) &&
  (List.range ops.size).all (fun i => (ops[i]?).all fun o => o.guard.isNone && o.after.all fun e => !Region.binds md e || decide (e.on < i))
theorem dst_lt {j d : Nat} (h : dstAt ops j = some d) : j < ops.size := by
  unfold dstAt at h
  cases ho : ops[j]? with
  | none => rw [ho] at h; cases h
  | some o => exact (Array.getElem?_eq_some_iff.1 ho).1
theorem fine_of {n : Nat} (h : fineB md ops n = true) : Fine md ops n := by
  unfold fineB at h
  simp only [Bool.and_eq_true, List.all_eq_true, List.mem_range] at h
  obtain ⟨⟨h1, h2⟩, h3⟩ := h
  refine ⟨fun j hj => ?_, fun i j d hi hj => ?_, fun i o ho => ?_, fun i o ho e he hb => ?_⟩
  · have := h1 j hj
    cases hd : dstAt ops j with
    | none => rw [hd] at this; cases this
    | some d => rw [hd] at this; exact ⟨d, rfl, by simpa using this⟩
  · have := h2 i (dst_lt hi) j (dst_lt hj)
    rw [hi, hj] at this
    simpa using this
  · have := h3 i (Array.getElem?_eq_some_iff.1 ho).1
    rw [ho] at this
    simp only [Option.all_some, Bool.and_eq_true] at this
    simpa using this.1
  · have := h3 i (Array.getElem?_eq_some_iff.1 ho).1
    rw [ho] at this
    simp only [Option.all_some, Bool.and_eq_true, Array.all_eq_true_iff_forall_mem] at this
    have := this.2 e he
    rw [hb] at this
    simpa using this
/-- What is asked of each operation, and at the end. -/
def Step (P : Program) (md : Region.Mode) (ops : Array Oper) (a0 : Act) (w0 : World) (V : Nat → World → Value → Prop) (i : Nat) (o : Oper) : Prop :=
  ∀ (a : Act) (w : World), Below w0.heap.size w0 w → a.tmps.size = a0.tmps.size → (∀ s, keepB md ops i s = true → a.tmps[s]? = a0.tmps[s]?) →
    (∀ j d, Region.waitsFor md ops i j = true → dstAt ops j = some d → ∃ v, a.tmps[d]? = some v ∧ V j w v) → Does P o a w (V i)
theorem waits_of {i : Nat} {o : Oper} (ho : ops[i]? = some o) {j : Nat} (h : Region.waitsFor md ops i j = true) : ∃ e ∈ o.after, Region.binds md e = true ∧ e.on = j := by
  obtain ⟨oc, hoc, e, he, hb, hon⟩ := Region.waitsFor_spec h
  rw [ho] at hoc; cases hoc
  exact ⟨e, he, hb, hon⟩
theorem Inv.next {t : Array Bool} {a : Act} {w w' : World} {i d : Nat} {v : Value} (hI : Inv md ops a0 w0 V t a w) (hF : Fine md ops a0.tmps.size) (hst : ∀ i, Stable (V i)) (hr : i ∈ Region.ready md ops t) (hd : dstAt ops i = some d)
    (hb : Below w.heap.size w w') (hv : V i w' v) : Inv md ops a0 w0 V (t.setIfInBounds i true) (a.put (some d) v) w' := by
  have hi := dst_lt hd
  have hdn : d < a0.tmps.size := by obtain ⟨d', h1, h2⟩ := hF.dst i hi; rw [hd] at h1; cases h1; exact h2
  refine ⟨hI.below.trans (hb.mono hI.below.size), ?_, hI.defers, fun s hs => ?_, fun j e hj ht => ?_, shut_set hI.shut hr, by simp [hI.all]⟩
  · rw [put_size]; exact hI.size
  · have hne : d ≠ s := by
      rintro rfl
      have := hs i hd
      rw [Array.getD_eq_getD_getElem?, Array.getElem?_setIfInBounds_self_of_lt (by rw [hI.all]; exact hi)] at this
      cases this
    rw [put_ne _ _ hne]
    refine hI.same s fun j hj => ?_
    have := hs j hj
    by_cases hij : i = j
    · subst hij; rw [hd] at hj; cases hj; exact absurd rfl hne
    · rwa [Array.getD_eq_getD_getElem?, Array.getElem?_setIfInBounds_ne hij, ← Array.getD_eq_getD_getElem?] at this
  · by_cases hij : i = j
    · subst hij
      rw [hd] at hj; cases hj
      exact ⟨v, put_at _ _ _ (by rw [hI.size]; exact hdn), hv⟩
    · rw [Array.getD_eq_getD_getElem?, Array.getElem?_setIfInBounds_ne hij, ← Array.getD_eq_getD_getElem?] at ht
      obtain ⟨u, h1, h2⟩ := hI.done j e hj ht
      have hne : d ≠ e := by rintro rfl; exact hij (hF.one i j d hd hj)
      exact ⟨u, by rw [put_ne _ _ hne]; exact h1, hst j _ _ _ hb h2⟩
def left (t : Array Bool) (n : Nat) : Nat := (List.range n).countP fun i => !t.getD i false
theorem left_set {t : Array Bool} {n i : Nat} (hn : t.size = n) (hi : i < n) (ht : t.getD i false = false) : left (t.setIfInBounds i true) n + 1 = left t n := by
  unfold left
  have key : ∀ l : List Nat, l.Nodup → (l.countP fun j => !(t.setIfInBounds i true).getD j false) + (if i ∈ l then 1 else 0) = l.countP fun j => !t.getD j false := by
    intro l hl
    induction l with
    | nil => rfl
    | cons x l ih =>
      have hx := List.nodup_cons.1 hl
      have h2 := ih hx.2
      rw [List.countP_cons, List.countP_cons]
      by_cases hxi : i = x
      · subst hxi
        rw [if_neg hx.1] at h2
        have e1 : (t.setIfInBounds i true).getD i false = true := by rw [Array.getD_eq_getD_getElem?, Array.getElem?_setIfInBounds_self_of_lt (by omega)]; rfl
        rw [if_pos (List.mem_cons_self), e1, ht]
        simp only [Bool.not_true, Bool.not_false, if_true, Bool.false_eq_true, if_false]
        omega
      · have e1 : (t.setIfInBounds i true).getD x false = t.getD x false := by rw [Array.getD_eq_getD_getElem?, Array.getElem?_setIfInBounds_ne hxi, ← Array.getD_eq_getD_getElem?]
        have e2 : (i ∈ x :: l) ↔ (i ∈ l) := by simp [hxi]
        rw [e1]
        simp only [e2]
        omega
  have := key (List.range n) List.nodup_range
  rwa [if_pos (List.mem_range.2 hi)] at this
theorem least_open {t : Array Bool} (hF : Fine md ops a0.tmps.size) (ht : t.size = ops.size) (hr : Region.ready md ops t = []) : ∀ i, i < ops.size → t.getD i false = true := by
  intro i
  induction i using Nat.strongRecOn with
  | ind i ih =>
    intro hi
    cases hti : t.getD i false with
    | true => rfl
    | false =>
      exfalso
      have : i ∈ Region.ready md ops t := by
        rw [mem_ready]
        refine ⟨?_, ops[i], Array.getElem?_eq_getElem hi, fun e he hb => ?_⟩
        · rw [Array.getD_eq_getD_getElem?] at hti ⊢
          rw [Array.getElem?_eq_getElem (by omega)] at hti ⊢
          exact hti
        · have h1 := hF.lex i _ (Array.getElem?_eq_getElem hi) e he hb
          exact ih e.on h1 (by omega)
      rw [hr] at this; cases this
theorem wpAny_flow (hF : Fine md ops a0.tmps.size) (hst : ∀ i, Stable (V i)) (hstep : ∀ (i : Nat) (o : Oper), ops[i]? = some o → Step P md ops a0 w0 V i o)
    (hfin : ∀ a w, Below w0.heap.size w0 w → a.tmps.size = a0.tmps.size → a.defers = a0.defers → (∀ s, (∀ j, dstAt ops j ≠ some s) → a.tmps[s]? = a0.tmps[s]?) → (∀ j d, dstAt ops j = some d → ∃ v, a.tmps[d]? = some v ∧ V j w v) → Q .normal a w) :
    ∀ (n : Nat) (t : Array Bool) (a : Act) (w : World), left t ops.size ≤ n → Inv md ops a0 w0 V t a w → wpAny P md ops Q n t a w := by
  have fin : ∀ (t : Array Bool) (a : Act) (w : World), (∀ i, i < ops.size → t.getD i false = true) → Inv md ops a0 w0 V t a w → Q .normal a w := fun t a w hall hI =>
    hfin a w hI.below hI.size hI.defers (fun s hs => hI.same s fun j hj => absurd hj (hs j)) (fun j d hj => hI.done j d hj (hall j (dst_lt hj)))
  intro n
  induction n with
  | zero =>
    intro t a w hn hI
    have hall : ∀ i, i < ops.size → t.getD i false = true := by
      intro i hi
      unfold left at hn
      have := List.countP_eq_zero.1 (Nat.le_zero.1 hn) i (List.mem_range.2 hi)
      simpa using this
    refine ⟨?_, fin t a w hall hI⟩
    cases hr : Region.ready md ops t with
    | nil => rfl
    | cons i l =>
      exfalso
      have hm : i ∈ Region.ready md ops t := by rw [hr]; simp
      obtain ⟨h1, o, ho, _⟩ := mem_ready.1 hm
      have hi := (Array.getElem?_eq_some_iff.1 ho).1
      have h2 := hall i hi
      rw [Array.getD_eq_getD_getElem?] at h1 h2
      rw [Array.getElem?_eq_getElem (by rw [hI.all]; exact hi)] at h1 h2
      rw [Option.getD_some] at h1 h2
      rw [h1] at h2; cases h2
  | succ n ih =>
    intro t a w hn hI
    refine ⟨fun hr => fin t a w (least_open hF hI.all hr) hI, fun i hm => ?_⟩
    obtain ⟨h1, o, ho, hpre⟩ := mem_ready.1 hm
    have hi := (Array.getElem?_eq_some_iff.1 ho).1
    obtain ⟨d, hd, hdn⟩ := hF.dst i hi
    have hod : o.dst = some d := by unfold dstAt at hd; rw [ho] at hd; exact hd
    have hti : t.getD i false = false := by
      rw [Array.getD_eq_getD_getElem?] at h1 ⊢
      rw [Array.getElem?_eq_getElem (by rw [hI.all]; exact hi)] at h1 ⊢
      exact h1
    have hleft := left_set hI.all hi hti
    have hdoes := hstep i o ho a w hI.below hI.size (fun s hs => hI.same s fun j hj => by
        have hs' := List.all_eq_true.1 hs j (List.mem_range.2 (dst_lt hj))
        rw [hj] at hs'
        simp only [bne_self_eq_false, Bool.false_or, Bool.or_eq_true, beq_iff_eq] at hs'
        rcases hs' with hs' | rfl
        · cases htj : t.getD j false with
          | false => rfl
          | true =>
            exfalso
            obtain ⟨oj, hoj, e, he, hb, hon⟩ := Region.waitsFor_spec hs'
            have := hI.shut j oj hoj htj e he hb
            rw [hon, hti] at this; cases this
        · exact hti) (fun j e hw hj => by
        obtain ⟨x, hx, hb, hon⟩ := waits_of ho hw
        exact hI.done j e hj (by rw [← hon]; exact hpre x hx hb))
    unfold wpOp
    rw [ho]
    simp only
    rw [if_pos (by unfold Region.wanted; rw [hF.guard i o ho])]
    refine .inl ?_
    show o.upon P a _ Q ((execOp a.eval o).run P w)
    rcases hdoes with ⟨v, w', hrun, hb, hv⟩ | ⟨f, args, hrun, hC⟩
    · rw [hrun]
      show wpAny P md ops Q n _ (a.put o.dst v) w'
      rw [hod]
      exact ih _ _ _ (by omega) (hI.next hF hst hm hd hb hv)
    · rw [hrun, Oper.upon_enter]
      refine hC.mono ?_
      rintro e w' ⟨v, rfl, hb, hv⟩
      show wpAny P md ops Q n _ (a.put o.dst v) w'
      rw [hod]
      exact ih _ _ _ (by omega) (hI.next hF hst hm hd hb hv)
/-! ### For a region that is written out -/
def putsFrom : List Oper → Nat → (Nat → Value) → Act → Act
  | [], _, _, a => a
  | o :: l, k, vs, a => putsFrom l (k + 1) vs (a.put o.dst (vs k))
theorem putsFrom_frame : ∀ (l : List Oper) (k : Nat) (vs : Nat → Value) (a : Act), (putsFrom l k vs a).tmps.size = a.tmps.size ∧ (putsFrom l k vs a).defers = a.defers
  | [], _, _, _ => ⟨rfl, rfl⟩
  | o :: l, k, vs, a => by
    have h := putsFrom_frame l (k + 1) vs (a.put o.dst (vs k))
    unfold putsFrom
    rw [h.1, h.2]
    cases o.dst with
    | none => exact ⟨rfl, rfl⟩
    | some d => exact ⟨put_size _ _ _, rfl⟩
theorem putsFrom_ne : ∀ (l : List Oper) (k : Nat) (vs : Nat → Value) (a : Act) (s : Nat), (∀ o ∈ l, o.dst ≠ some s) → (putsFrom l k vs a).tmps[s]? = a.tmps[s]?
  | [], _, _, _, _, _ => rfl
  | o :: l, k, vs, a, s, h => by
    unfold putsFrom
    rw [putsFrom_ne l (k + 1) vs _ s (fun o ho => h o (by simp [ho]))]
    have := h o (by simp)
    cases hd : o.dst with
    | none => rfl
    | some d => rw [hd] at this; exact put_ne _ _ (fun e => this (by rw [e]))
theorem putsFrom_at : ∀ (l : List Oper) (k : Nat) (vs : Nat → Value) (a : Act) (j d : Nat) (o : Oper), l[j]? = some o → o.dst = some d → d < a.tmps.size → (∀ i o', j < i → l[i]? = some o' → o'.dst ≠ some d) → (putsFrom l k vs a).tmps[d]? = some (vs (k + j))
  | [], _, _, _, _, _, _, h, _, _, _ => by simp at h
  | o :: l, k, vs, a, 0, d, o', h, hd, hlt, hn => by
    simp at h; subst h
    unfold putsFrom
    rw [putsFrom_ne l (k + 1) vs _ d (fun x hx => by
      obtain ⟨i, hi⟩ := List.getElem?_of_mem hx
      exact hn (i + 1) x (by omega) (by simpa using hi)), hd]
    exact put_at _ _ _ hlt
  | o :: l, k, vs, a, j + 1, d, o', h, hd, hlt, hn => by
    unfold putsFrom
    have h2 := putsFrom_at l (k + 1) vs (a.put o.dst (vs k)) j d o' (by simpa using h) hd (by cases o.dst with | none => exact hlt | some x => rw [put_size]; exact hlt) (fun i x hi hx => hn (i + 1) x (by omega) (by simpa using hx))
    rw [h2]; congr 2; omega
def vAt (Vs : List (World → Value → Prop)) (i : Nat) : World → Value → Prop := Vs.getD i fun _ _ => True
theorem vAt_stable {Vs : List (World → Value → Prop)} (h : ∀ V ∈ Vs, Stable V) (i : Nat) : Stable (vAt Vs i) := by
  unfold vAt
  rw [List.getD_eq_getElem?_getD]
  cases hv : Vs[i]? with
  | none => exact fun _ _ _ _ _ => trivial
  | some V => exact h V (List.mem_of_getElem? hv)
/-- The steps, one after the other. -/
def Steps (P : Program) (ops : Array Oper) (a0 : Act) (w0 : World) (V : Nat → World → Value → Prop) : List Oper → Nat → Prop
  | [], _ => True
  | o :: l, k => (∀ (a : Act) (w : World), Below w0.heap.size w0 w → (∀ s, keepB .any ops k s = true → a.tmps[s]? = a0.tmps[s]?) →
      (∀ j d, Region.waitsFor .any ops k j = true → dstAt ops j = some d → ∃ v, a.tmps[d]? = some v ∧ V j w v) → Does P o a w (V k)) ∧ Steps P ops a0 w0 V l (k + 1)
theorem steps_at : ∀ {l : List Oper} {k : Nat}, Steps P ops a0 w0 V l k → ∀ (i : Nat) (o : Oper), l[i]? = some o → ∀ (a : Act) (w : World), Below w0.heap.size w0 w → (∀ s, keepB .any ops (k + i) s = true → a.tmps[s]? = a0.tmps[s]?) →
      (∀ j d, Region.waitsFor .any ops (k + i) j = true → dstAt ops j = some d → ∃ v, a.tmps[d]? = some v ∧ V j w v) → Does P o a w (V (k + i))
  | [], _, _, _, _, h => by simp at h
  | o :: l, k, hs, 0, o', h => by simp at h; subst h; exact hs.1
  | o :: l, k, hs, i + 1, o', h => by
    have := steps_at hs.2 i o' (by simpa using h)
    rwa [show k + 1 + i = k + (i + 1) by omega] at this
theorem rep_false (n j : Nat) : (Array.replicate n false).getD j false = false := by
  rw [Array.getD_eq_getD_getElem?, Array.getElem?_replicate]
  split <;> rfl
theorem region_flow {id : Nat} {l : List Oper} {w : World} {a : Act} (Vs : List (World → Value → Prop)) (hm : P.follows .mixedOrders = true) (hF : fineB .any l.toArray a.tmps.size = true) (hst : ∀ V ∈ Vs, Stable V)
    (hstep : Steps P l.toArray a w (vAt Vs) l 0)
    (hfin : ∀ (vs : Nat → Value) (w' : World), Below w.heap.size w w' → (∀ i, i < l.length → vAt Vs i w' (vs i)) → Q .normal (putsFrom l 0 vs a) w') : (Code.region id l.toArray true).wp P Q a w := by
  have hFF := fine_of hF
  refine wp_region_any hm ?_
  have hw : Below w.heap.size w { w with drawn := w.drawn + 1 } := ⟨rfl, rfl, rfl, Nat.le_refl _, fun _ _ => rfl⟩
  refine wpAny_flow (a0 := a) (w0 := { w with drawn := w.drawn + 1 }) (V := vAt Vs) hFF (vAt_stable hst) ?_ ?_ _ _ _ _ (Nat.le_trans List.countP_le_length (by simp)) ?_
  · intro i o ho a' w' hb _ hsame hpre
    have h := steps_at hstep i o (by simpa using ho) a' w' (hw.trans hb)
    rw [Nat.zero_add] at h
    exact h hsame hpre
  · intro a' w' hb hsz hdf hsame hdone
    have h := hfin (fun j => ((dstAt l.toArray j).bind fun d => a'.tmps[d]?).getD undef) w' (hw.trans hb) (fun i hi => by
      obtain ⟨d, hd, _⟩ := hFF.dst i (by simpa using hi)
      obtain ⟨v, h1, h2⟩ := hdone i d hd
      rw [hd, Option.bind_some, h1, Option.getD_some]; exact h2)
    have e : putsFrom l 0 (fun j => ((dstAt l.toArray j).bind fun d => a'.tmps[d]?).getD undef) a = a' := by
      obtain ⟨h1, h2⟩ := putsFrom_frame l 0 (fun j => ((dstAt l.toArray j).bind fun d => a'.tmps[d]?).getD undef) a
      have ht : (putsFrom l 0 (fun j => ((dstAt l.toArray j).bind fun d => a'.tmps[d]?).getD undef) a).tmps = a'.tmps := by
        apply Array.ext_getElem?
        intro s
        by_cases hs : ∃ j, dstAt l.toArray j = some s
        · obtain ⟨j, hj⟩ := hs
          have hjl := dst_lt hj
          obtain ⟨v, hv, _⟩ := hdone j s hj
          obtain ⟨o, ho⟩ : ∃ o, l[j]? = some o := ⟨_, List.getElem?_eq_getElem (by simpa using hjl)⟩
          have hod : o.dst = some s := by unfold dstAt at hj; simpa [ho] using hj
          obtain ⟨d', hd', hlt⟩ := hFF.dst j hjl
          rw [hj] at hd'; cases hd'
          rw [putsFrom_at l 0 _ a j s o ho hod hlt (fun i o' hi ho' hd => by
            have : dstAt l.toArray i = some s := by unfold dstAt; simp [ho', hd]
            have := hFF.one i j s this hj
            omega), Nat.zero_add]
          simp only [hj, Option.bind_some, hv, Option.getD_some]
        · rw [putsFrom_ne l 0 _ a s (fun o ho hd => by
            obtain ⟨j, hj⟩ := List.getElem?_of_mem ho
            exact hs ⟨j, by unfold dstAt; simp [hj, hd]⟩)]
          exact (hsame s fun j hj => hs ⟨j, hj⟩).symm
      cases hp : putsFrom l 0 (fun j => ((dstAt l.toArray j).bind fun d => a'.tmps[d]?).getD undef) a with
      | mk t1 d1 =>
        rw [hp] at ht h2
        cases a' with
        | mk t2 d2 =>
          simp only at ht h2 hdf
          rw [ht, h2, hdf]
    rw [e] at h
    exact h
  · refine ⟨Below.refl _ _, rfl, rfl, fun _ _ => rfl, fun j d hj ht => ?_, fun j oj hoj ht => ?_, by simp⟩
    · rw [rep_false] at ht; cases ht
    · rw [rep_false] at ht; cases ht
end
end Ch
end Go.Proofs.YtlefgffnjcmfoaaGreatDoor
namespace Go.Proofs.YtlefgffnjcmfoaaGreatDoor
open Go.RowKit Go.Maps Go.ChangeMaps Go.MapKept
namespace Ch
abbrev S8 := List UInt8
def isV (v : Value) : World → Value → Prop := fun _ u => u = v
theorem stable_isV (v : Value) : Stable (isV v) := fun _ _ _ _ h => h
/-- A slice of texts, of a block of its own. -/
def isTx (ws : List S8) : World → Value → Prop := fun w u => ∃ b, u = .slice (some ⟨b, 0, none⟩) ws.length ws.length ∧ ∀ (k : Nat) (z : S8), ws[k]? = some z → w.cell? ⟨b, k, none⟩ = some (.string (bs z))
theorem stable_isTx (ws : List S8) : Stable (isTx ws) := by
  rintro w w' v hb ⟨b, h1, h2⟩
  exact ⟨b, h1, fun k z hz => below_cell (h2 k z hz) hb⟩
/-- The place of a text. -/
def isEl (s : S8) : World → Value → Prop := fun w u => ∃ b off, u = .pointer (some ⟨b, off, none⟩) ∧ w.cell? ⟨b, off, none⟩ = some (.string (bs s))
theorem stable_isEl (s : S8) : Stable (isEl s) := by
  rintro w w' v hb ⟨b, off, h1, h2⟩
  exact ⟨b, off, h1, below_cell h2 hb⟩
section
variable {a : Act} {w : World} {d : Nat} {v : Value}
theorem got {V : World → Value → Prop} (h : ∃ u, a.tmps[d]? = some u ∧ V w u) (e : V = isV v) : a.tmps[d]? = some v := by
  subst e
  obtain ⟨u, h1, h2⟩ := h
  cases h2; exact h1
theorem does_val {P : Program} {o : Oper} {V : World → Value → Prop} (h : (execOp a.eval o).run P w = .ok (.value v) w) (hV : V = isV v) : Does P o a w V := .inl ⟨v, w, h, Below.refl _ _, by subst hV; rfl⟩
theorem does_call {P : Program} {o : Oper} {V : World → Value → Prop} {f : FuncId} {args : Array Value} (h : (execOp a.eval o).run P w = .ok (.enter f args) w) (hC : Calls P f args w fun e w' => e = .returned v ∧ w' = w) (hV : V = isV v) : Does P o a w V :=
  .inr ⟨f, args, h, hC.mono fun e w' ⟨h1, h2⟩ => ⟨v, h1, by rw [h2]; exact Below.refl _ _, by subst hV; rfl⟩⟩
theorem ev_assign {P : Program} {o : Oper} {s : Nat} (ho : o.op = .assign (.tmp s)) (h : a.tmps[s]? = some v) : (execOp a.eval o).run P w = .ok (.value v) w := by
  rw [BigFrame.run_assign _ ho, eval_at h]
def AddIs (P : Program) (t : TypeId) (u v r : Value) : Prop := ∀ (x y : Operand) (w : World), (do eqGuard .add t x y u v; binOp .add t u v : Sem Value).run P w = .ok r w
theorem ev_add {P : Program} {o : Oper} {t t2 : Nat} {x y : Operand} {u u2 r : Value} (ho : o.op = .binOp .add t x y t2) (h1 : a.eval x = u) (h2 : a.eval y = u2) (h : AddIs P t u u2 r) : (execOp a.eval o).run P w = .ok (.value r) w := by
  unfold execOp; rw [ho]; simp only [h1, h2]
  exact run_val (h x y w)
theorem add_str {x y z : S8} (hl : x.length + y.length ≤ 1000000) (hz : x ++ y = z) : AddIs Tryz.prog 9 (.string (bs x)) (.string (bs y)) (.string (bs z)) := fun o1 o2 w => by
  have z1 := bs_size x
  have z2 := bs_size y
  have e : bs x ++ bs y = bs z := by rw [← hz]; exact bs_append _ _
  go_simp
  omega
theorem ev_call1 {P : Program} {fn : FuncId} {d : Option Tmp} {ats : Array TypeId} {ty : TypeId} {po : String} {af : Array Edge} {gd : Option (Nat × Bool)} {s2 : Nat} {u : Value} (hs : a.tmps[s2]? = some u) (he : ∀ args w, (callFunc fn args).run P w = .ok (.enter fn args) w) :
    (execOp a.eval { dst := d, op := .call { callee := .value (.func fn), args := #[.tmp s2], argTypes := ats }, type := ty, pos := po, after := af, guard := gd }).run P w = .ok (.enter fn #[u]) w := by
  have this := he #[u] w
  simp [go_sem]
  rw [hs, Option.getD_some]
  exact this
theorem ev_call0 {P : Program} {fn : FuncId} {d : Option Tmp} {ats : Array TypeId} {ty : TypeId} {po : String} {af : Array Edge} {gd : Option (Nat × Bool)} (he : ∀ args w, (callFunc fn args).run P w = .ok (.enter fn args) w) :
    (execOp a.eval { dst := d, op := .call { callee := .value (.func fn), args := #[], argTypes := ats }, type := ty, pos := po, after := af, guard := gd }).run P w = .ok (.enter fn #[]) w := by
  have this := he #[] w
  simp [go_sem]
  exact this
theorem index_is (b n : Nat) (k : Nat) (hk : k < n) (w : World) : (Instr.indexAt 22 (.slice (some ⟨b, 0, none⟩) n n) (.int .i64 (k : Int))).run Tryz.prog w = .ok (.pointer (some ⟨b, k, none⟩)) w := by
  have h1 : (k : Int) < (n : Int) := by omega
  go_simp
theorem get_some {ws : List S8} {k : Nat} (h : k < ws.length) : ws[k]? = some (ws.getD k []) := by rw [List.getD_eq_getElem?_getD, List.getElem?_eq_getElem h]; rfl
theorem does_index {o : Oper} {s1 s2 : Nat} {ws : List S8} {k : Int} {z : S8} {V V' : World → Value → Prop} (ho : o.op = .indexAddr 22 (.tmp s1) (.tmp s2)) (h1 : ∃ u, a.tmps[s1]? = some u ∧ V' w u) (hV' : V' = isTx ws) (h2 : a.tmps[s2]? = some (.int .i64 k)) (h0 : 0 ≤ k) (hz : ws[k.toNat]? = some z) (hV : V = isEl z) : Does Tryz.prog o a w V := by
  subst hV; subst hV'
  obtain ⟨k, rfl⟩ : ∃ n : Nat, k = n := ⟨k.toNat, by omega⟩
  rw [Int.toNat_natCast] at hz
  obtain ⟨u, h3, b, rfl, h4⟩ := h1
  refine .inl ⟨.pointer (some ⟨b, k, none⟩), w, ?_, Below.refl _ _, b, k, rfl, h4 k z hz⟩
  unfold execOp; rw [ho]; simp only [eval_at h2, eval_at h3]
  exact run_val (index_is b ws.length k (List.getElem?_eq_some_iff.1 hz).1 w)
theorem does_loadS {o : Oper} {s1 : Nat} {z : S8} {V V' : World → Value → Prop} (ho : o.op = .load 9 (.tmp s1)) (h1 : ∃ u, a.tmps[s1]? = some u ∧ V' w u) (hV' : V' = isEl z) (hV : V = isV (.string (bs z))) : Does Tryz.prog o a w V := by
  subst hV'
  obtain ⟨u, h3, b, off, rfl, h4⟩ := h1
  exact does_val (ev_load ho h3 (load_str _) h4) hV
theorem does_build {o : Oper} {ws : List S8} {V : World → Value → Prop} (h : (execOp a.eval o).run Tryz.prog w = .ok (.value (.slice (some ⟨w.heap.size, 0, none⟩) ws.length ws.length)) (w.alloc (.cells (txVs ws).toArray 9))) (hV : V = isTx ws) : Does Tryz.prog o a w V := by
  subst hV
  refine .inl ⟨_, _, h, (Below.refl _ _).alloc (Nat.le_refl _) _, w.heap.size, rfl, fun k z hz => ?_⟩
  rw [Lib.cell_of_heap (heap_alloc_new w _)]
  simp [txVs, hz]
end
end Ch
end Go.Proofs.YtlefgffnjcmfoaaGreatDoor
namespace Go.Proofs.YtlefgffnjcmfoaaGreatDoor
open Go.RowKit
namespace Ch
theorem wanted_on {ops : Array Oper} {a : Act} {w : World} {o : Oper} {g d : Nat} {b : Bool} {V : World → Value → Prop} (ho : o.guard = some (g, b)) (hd : (ops[g]?).bind (·.dst) = some d) (hp : ∃ u, a.tmps[d]? = some u ∧ V w u) (e : V = isV (.bool b)) : Region.wanted o (yielded ops a.tmps) = true :=
  (want_at ho hd (got hp e)).trans (by cases b <;> rfl)
section
variable {P : Program} {ops : Array Oper} {Q : Exit → Act → World → Prop} {md : Region.Mode} {a0 : Act} {w0 : World} {V : Nat → World → Value → Prop}
structure FineG (md : Region.Mode) (ops : Array Oper) (n : Nat) : Prop where
  dst : ∀ j, j < ops.size → ∃ d, dstAt ops j = some d ∧ d < n
  one : ∀ i j d, dstAt ops i = some d → dstAt ops j = some d → i = j
  lex : ∀ (i : Nat) (o : Oper), ops[i]? = some o → ∀ e ∈ o.after, Region.binds md e = true → e.on < i
def fineGB (md : Region.Mode) (ops : Array Oper) (n : Nat) : Bool :=
  (List.range ops.size).all (fun j => (dstAt ops j).any fun d => decide (d < n)) &&
  (List.range ops.size).all (fun i => (List.range ops.size).all fun j => i == j || dstAt ops i != dstAt ops j) &&
  (List.range ops.size).all (fun i => (ops[i]?).all fun o => o.after.all fun e => !Region.binds md e || decide (e.on < i))
theorem fineG_of {n : Nat} (h : fineGB md ops n = true) : FineG md ops n := by
  unfold fineGB at h
  simp only [Bool.and_eq_true, List.all_eq_true, List.mem_range] at h
  obtain ⟨⟨h1, h2⟩, h3⟩ := h
  refine ⟨fun j hj => ?_, fun i j d hi hj => ?_, fun i o ho e he hb => ?_⟩
  · have := h1 j hj
    cases hd : dstAt ops j with
    | none => rw [hd] at this; cases this
    | some d => rw [hd] at this; exact ⟨d, rfl, by simpa using this⟩
  · have := h2 i (dst_lt hi) j (dst_lt hj)
    rw [hi, hj] at this
    simpa using this
  · have := h3 i (Array.getElem?_eq_some_iff.1 ho).1
    rw [ho] at this
    simp only [Option.all_some, Array.all_eq_true_iff_forall_mem] at this
    have := this e he
    rw [hb] at this
    simpa using this
/-- What is asked of each operation, and at the end. -/
def StepG (P : Program) (md : Region.Mode) (ops : Array Oper) (a0 : Act) (w0 : World) (V : Nat → World → Value → Prop) (i : Nat) (o : Oper) : Prop :=
  ∀ (a : Act) (w : World), Below w0.heap.size w0 w → a.tmps.size = a0.tmps.size → (∀ s, keepB md ops i s = true → a.tmps[s]? = a0.tmps[s]?) →
    (∀ j d, Region.waitsFor md ops i j = true → dstAt ops j = some d → ∃ v, a.tmps[d]? = some v ∧ V j w v) → Region.wanted o (yielded ops a.tmps) = true ∧ Does P o a w (V i)
theorem Inv.nextG {t : Array Bool} {a : Act} {w w' : World} {i d : Nat} {v : Value} (hI : Inv md ops a0 w0 V t a w) (hF : FineG md ops a0.tmps.size) (hst : ∀ i, Stable (V i)) (hr : i ∈ Region.ready md ops t) (hd : dstAt ops i = some d)
    (hb : Below w.heap.size w w') (hv : V i w' v) : Inv md ops a0 w0 V (t.setIfInBounds i true) (a.put (some d) v) w' := by
  have hi := dst_lt hd
  have hdn : d < a0.tmps.size := by obtain ⟨d', h1, h2⟩ := hF.dst i hi; rw [hd] at h1; cases h1; exact h2
  refine ⟨hI.below.trans (hb.mono hI.below.size), ?_, hI.defers, fun s hs => ?_, fun j e hj ht => ?_, shut_set hI.shut hr, by simp [hI.all]⟩
  · rw [put_size]; exact hI.size
  · have hne : d ≠ s := by
      rintro rfl
      have := hs i hd
      rw [Array.getD_eq_getD_getElem?, Array.getElem?_setIfInBounds_self_of_lt (by rw [hI.all]; exact hi)] at this
      cases this
    rw [put_ne _ _ hne]
    refine hI.same s fun j hj => ?_
    have := hs j hj
    by_cases hij : i = j
    · subst hij; rw [hd] at hj; cases hj; exact absurd rfl hne
    · rwa [Array.getD_eq_getD_getElem?, Array.getElem?_setIfInBounds_ne hij, ← Array.getD_eq_getD_getElem?] at this
  · by_cases hij : i = j
    · subst hij
      rw [hd] at hj; cases hj
      exact ⟨v, put_at _ _ _ (by rw [hI.size]; exact hdn), hv⟩
    · rw [Array.getD_eq_getD_getElem?, Array.getElem?_setIfInBounds_ne hij, ← Array.getD_eq_getD_getElem?] at ht
      obtain ⟨u, h1, h2⟩ := hI.done j e hj ht
      have hne : d ≠ e := by rintro rfl; exact hij (hF.one i j d hd hj)
      exact ⟨u, by rw [put_ne _ _ hne]; exact h1, hst j _ _ _ hb h2⟩
theorem least_openG {t : Array Bool} (hF : FineG md ops a0.tmps.size) (ht : t.size = ops.size) (hr : Region.ready md ops t = []) : ∀ i, i < ops.size → t.getD i false = true := by
  intro i
  induction i using Nat.strongRecOn with
  | ind i ih =>
    intro hi
    cases hti : t.getD i false with
    | true => rfl
    | false =>
      exfalso
      have : i ∈ Region.ready md ops t := by
        rw [mem_ready]
        refine ⟨?_, ops[i], Array.getElem?_eq_getElem hi, fun e he hb => ?_⟩
        · rw [Array.getD_eq_getD_getElem?] at hti ⊢
          rw [Array.getElem?_eq_getElem (by omega)] at hti ⊢
          exact hti
        · have h1 := hF.lex i _ (Array.getElem?_eq_getElem hi) e he hb
          exact ih e.on h1 (by omega)
      rw [hr] at this; cases this
theorem wpAny_flowG (hF : FineG md ops a0.tmps.size) (hst : ∀ i, Stable (V i)) (hstep : ∀ (i : Nat) (o : Oper), ops[i]? = some o → StepG P md ops a0 w0 V i o)
    (hfin : ∀ a w, Below w0.heap.size w0 w → a.tmps.size = a0.tmps.size → a.defers = a0.defers → (∀ s, (∀ j, dstAt ops j ≠ some s) → a.tmps[s]? = a0.tmps[s]?) → (∀ j d, dstAt ops j = some d → ∃ v, a.tmps[d]? = some v ∧ V j w v) → Q .normal a w) :
    ∀ (n : Nat) (t : Array Bool) (a : Act) (w : World), left t ops.size ≤ n → Inv md ops a0 w0 V t a w → wpAny P md ops Q n t a w := by
  have fin : ∀ (t : Array Bool) (a : Act) (w : World), (∀ i, i < ops.size → t.getD i false = true) → Inv md ops a0 w0 V t a w → Q .normal a w := fun t a w hall hI =>
    hfin a w hI.below hI.size hI.defers (fun s hs => hI.same s fun j hj => absurd hj (hs j)) (fun j d hj => hI.done j d hj (hall j (dst_lt hj)))
  intro n
  induction n with
  | zero =>
    intro t a w hn hI
    have hall : ∀ i, i < ops.size → t.getD i false = true := by
      intro i hi
      unfold left at hn
      have := List.countP_eq_zero.1 (Nat.le_zero.1 hn) i (List.mem_range.2 hi)
      simpa using this
    refine ⟨?_, fin t a w hall hI⟩
    cases hr : Region.ready md ops t with
    | nil => rfl
    | cons i l =>
      exfalso
      have hm : i ∈ Region.ready md ops t := by rw [hr]; simp
      obtain ⟨h1, o, ho, _⟩ := mem_ready.1 hm
      have hi := (Array.getElem?_eq_some_iff.1 ho).1
      have h2 := hall i hi
      rw [Array.getD_eq_getD_getElem?] at h1 h2
      rw [Array.getElem?_eq_getElem (by rw [hI.all]; exact hi)] at h1 h2
      rw [Option.getD_some] at h1 h2
      rw [h1] at h2; cases h2
  | succ n ih =>
    intro t a w hn hI
    refine ⟨fun hr => fin t a w (least_openG hF hI.all hr) hI, fun i hm => ?_⟩
    obtain ⟨h1, o, ho, hpre⟩ := mem_ready.1 hm
    have hi := (Array.getElem?_eq_some_iff.1 ho).1
    obtain ⟨d, hd, hdn⟩ := hF.dst i hi
    have hod : o.dst = some d := by unfold dstAt at hd; rw [ho] at hd; exact hd
    have hti : t.getD i false = false := by
      rw [Array.getD_eq_getD_getElem?] at h1 ⊢
      rw [Array.getElem?_eq_getElem (by rw [hI.all]; exact hi)] at h1 ⊢
      exact h1
    have hleft := left_set hI.all hi hti
    have hdoes := hstep i o ho a w hI.below hI.size (fun s hs => hI.same s fun j hj => by
        have hs' := List.all_eq_true.1 hs j (List.mem_range.2 (dst_lt hj))
        rw [hj] at hs'
        simp only [bne_self_eq_false, Bool.false_or, Bool.or_eq_true, beq_iff_eq] at hs'
        rcases hs' with hs' | rfl
        · cases htj : t.getD j false with
          | false => rfl
          | true =>
            exfalso
            obtain ⟨oj, hoj, e, he, hb, hon⟩ := Region.waitsFor_spec hs'
            have := hI.shut j oj hoj htj e he hb
            rw [hon, hti] at this; cases this
        · exact hti) (fun j e hw hj => by
        obtain ⟨x, hx, hb, hon⟩ := waits_of ho hw
        exact hI.done j e hj (by rw [← hon]; exact hpre x hx hb))
    unfold wpOp
    rw [ho]
    simp only
    rw [if_pos hdoes.1]
    refine .inl ?_
    show o.upon P a _ Q ((execOp a.eval o).run P w)
    rcases hdoes.2 with ⟨v, w', hrun, hb, hv⟩ | ⟨f, args, hrun, hC⟩
    · rw [hrun]
      show wpAny P md ops Q n _ (a.put o.dst v) w'
      rw [hod]
      exact ih _ _ _ (by omega) (hI.nextG hF hst hm hd hb hv)
    · rw [hrun, Oper.upon_enter]
      refine hC.mono ?_
      rintro e w' ⟨v, rfl, hb, hv⟩
      show wpAny P md ops Q n _ (a.put o.dst v) w'
      rw [hod]
      exact ih _ _ _ (by omega) (hI.nextG hF hst hm hd hb hv)
/-- The steps, one after the other. -/
def StepsG (P : Program) (ops : Array Oper) (a0 : Act) (w0 : World) (V : Nat → World → Value → Prop) : List Oper → Nat → Prop
  | [], _ => True
  | o :: l, k => (∀ (a : Act) (w : World), Below w0.heap.size w0 w → (∀ s, keepB .any ops k s = true → a.tmps[s]? = a0.tmps[s]?) →
      (∀ j d, Region.waitsFor .any ops k j = true → dstAt ops j = some d → ∃ v, a.tmps[d]? = some v ∧ V j w v) → Region.wanted o (yielded ops a.tmps) = true ∧ Does P o a w (V k)) ∧ StepsG P ops a0 w0 V l (k + 1)
theorem stepsG_at : ∀ {l : List Oper} {k : Nat}, StepsG P ops a0 w0 V l k → ∀ (i : Nat) (o : Oper), l[i]? = some o → ∀ (a : Act) (w : World), Below w0.heap.size w0 w → (∀ s, keepB .any ops (k + i) s = true → a.tmps[s]? = a0.tmps[s]?) →
      (∀ j d, Region.waitsFor .any ops (k + i) j = true → dstAt ops j = some d → ∃ v, a.tmps[d]? = some v ∧ V j w v) → Region.wanted o (yielded ops a.tmps) = true ∧ Does P o a w (V (k + i))
  | [], _, _, _, _, h => by simp at h
  | o :: l, k, hs, 0, o', h => by simp at h; subst h; exact hs.1
  | o :: l, k, hs, i + 1, o', h => by
    have := stepsG_at hs.2 i o' (by simpa using h)
    rwa [show k + 1 + i = k + (i + 1) by omega] at this
theorem region_flowG {id : Nat} {l : List Oper} {w : World} {a : Act} (Vs : List (World → Value → Prop)) (hm : P.follows .mixedOrders = true) (hF : fineGB .any l.toArray a.tmps.size = true) (hst : ∀ V ∈ Vs, Stable V)
    (hstep : StepsG P l.toArray a w (vAt Vs) l 0)
    (hfin : ∀ (vs : Nat → Value) (w' : World), Below w.heap.size w w' → (∀ i, i < l.length → vAt Vs i w' (vs i)) → Q .normal (putsFrom l 0 vs a) w') : (Code.region id l.toArray true).wp P Q a w := by
  have hFF := fineG_of hF
  refine wp_region_any hm ?_
  have hw : Below w.heap.size w { w with drawn := w.drawn + 1 } := ⟨rfl, rfl, rfl, Nat.le_refl _, fun _ _ => rfl⟩
  refine wpAny_flowG (a0 := a) (w0 := { w with drawn := w.drawn + 1 }) (V := vAt Vs) hFF (vAt_stable hst) ?_ ?_ _ _ _ _ (Nat.le_trans List.countP_le_length (by simp)) ?_
  · intro i o ho a' w' hb _ hsame hpre
    have h := stepsG_at hstep i o (by simpa using ho) a' w' (hw.trans hb)
    rw [Nat.zero_add] at h
    exact h hsame hpre
  · intro a' w' hb hsz hdf hsame hdone
    have h := hfin (fun j => ((dstAt l.toArray j).bind fun d => a'.tmps[d]?).getD undef) w' (hw.trans hb) (fun i hi => by
      obtain ⟨d, hd, _⟩ := hFF.dst i (by simpa using hi)
      obtain ⟨v, h1, h2⟩ := hdone i d hd
      rw [hd, Option.bind_some, h1, Option.getD_some]; exact h2)
    have e : putsFrom l 0 (fun j => ((dstAt l.toArray j).bind fun d => a'.tmps[d]?).getD undef) a = a' := by
      obtain ⟨h1, h2⟩ := putsFrom_frame l 0 (fun j => ((dstAt l.toArray j).bind fun d => a'.tmps[d]?).getD undef) a
      have ht : (putsFrom l 0 (fun j => ((dstAt l.toArray j).bind fun d => a'.tmps[d]?).getD undef) a).tmps = a'.tmps := by
        apply Array.ext_getElem?
        intro s
        by_cases hs : ∃ j, dstAt l.toArray j = some s
        · obtain ⟨j, hj⟩ := hs
          have hjl := dst_lt hj
          obtain ⟨v, hv, _⟩ := hdone j s hj
          obtain ⟨o, ho⟩ : ∃ o, l[j]? = some o := ⟨_, List.getElem?_eq_getElem (by simpa using hjl)⟩
          have hod : o.dst = some s := by unfold dstAt at hj; simpa [ho] using hj
          obtain ⟨d', hd', hlt⟩ := hFF.dst j hjl
          rw [hj] at hd'; cases hd'
          rw [putsFrom_at l 0 _ a j s o ho hod hlt (fun i o' hi ho' hd => by
            have : dstAt l.toArray i = some s := by unfold dstAt; simp [ho', hd]
            have := hFF.one i j s this hj
            omega), Nat.zero_add]
          simp only [hj, Option.bind_some, hv, Option.getD_some]
        · rw [putsFrom_ne l 0 _ a s (fun o ho hd => by
            obtain ⟨j, hj⟩ := List.getElem?_of_mem ho
            exact hs ⟨j, by unfold dstAt; simp [hj, hd]⟩)]
          exact (hsame s fun j hj => hs ⟨j, hj⟩).symm
      cases hp : putsFrom l 0 (fun j => ((dstAt l.toArray j).bind fun d => a'.tmps[d]?).getD undef) a with
      | mk t1 d1 =>
        rw [hp] at ht h2
        cases a' with
        | mk t2 d2 =>
          simp only at ht h2 hdf
          rw [ht, h2, hdf]
    rw [e] at h
    exact h
  · refine ⟨Below.refl _ _, rfl, rfl, fun _ _ => rfl, fun j d hj ht => ?_, fun j oj hoj ht => ?_, by simp⟩
    · rw [rep_false] at ht; cases ht
    · rw [rep_false] at ht; cases ht
end
end Ch
end Go.Proofs.YtlefgffnjcmfoaaGreatDoor
namespace Go.Proofs.YtlefgffnjcmfoaaGreatDoor
open Go.RowKit Go.Maps Go.ChangeMaps Go.MapKept
open Lx Sy Ch
attribute [local go_sem ↓] Go.wp_at_zero Go.wp_at_succ
theorem wl (T : List S) (n : Nat) (h : ∀ x ∈ T, x.length ≤ n) (k : Nat) : (T.getD k []).length ≤ n := by
  rw [List.getD_eq_getElem?_getD]
  cases hk : T[k]? with
  | none => simp
  | some x => exact h x (List.mem_of_getElem? hk)
theorem wlen_deW (k : Nat) : (deW.getD k []).length ≤ 40 := wl _ _ (by decide) _
theorem wlen_thW (k : Nat) : (thW.getD k []).length ≤ 40 := wl _ _ (by decide) _
theorem wlen_joW (k : Nat) : (joW.getD k []).length ≤ 40 := wl _ _ (by decide) _
theorem wlen_hiW (k : Nat) : (hiW.getD k []).length ≤ 40 := wl _ _ (by decide) _
theorem wlen_reW (k : Nat) : (reW.getD k []).length ≤ 40 := wl _ _ (by decide) _
theorem wlen_leW (k : Nat) : (leW.getD k []).length ≤ 40 := wl _ _ (by decide) _
theorem words_cell (w : World) {ws : List S} {k : Nat} {z : S} (hz : ws[k]? = some z) : (w.alloc (wordsO ws)).cell? ⟨w.heap.size, k, none⟩ = some (.string (bs z)) := by
  unfold wordsO
  rw [Lib.cell_of_heap (heap_alloc_new w _)]
  simp [txVs, hz]
theorem num_ok {w : World} {n : Int} (h : 0 ≤ n ∧ n ≤ 1073741824) : Calls Tryz.prog 30 #[.int .i64 n] w fun e w' => e = .returned (.string (bs (Lib.decDigits n.toNat))) ∧ w' = w := by
  have := y_num (w := w) (n0 := n.toNat) (by omega)
  rwa [show ((n.toNat : Nat) : Int) = n by omega] at this
set_option maxHeartbeats 4000000 in
set_option maxRecDepth 100000 in
theorem y_print {w : World} {x : Value} {p : Pf} (hx : PfAt w x p) (hf : fewP p = true) : Calls Tryz.prog 9 #[x] w fun e w' => e = .returned (.tuple #[.string (bs (printS p).1), .int .i64 (printS p).2]) ∧ Below w.heap.size w w' := by
  have hfw := of_decide_eq_true hf
  have HX := Lib.hid hx
  obtain ⟨tv, rfl, ht⟩ := hx
  obtain ⟨ta, tc, rfl⟩ := ht.slice
  obtain ⟨cs, hcs⟩ : ∃ cs, cs = (#[.string (bs p.name), .int .i64 p.edit, .int .i64 p.within, .int .i64 p.delete, .bool p.react, .int .i64 p.thread, .bool p.quote, .bool p.mention, .int .i64 p.size, .int .i64 p.parts, .int .i64 p.files, .int .i64 p.bytes, .slice ta p.types.length tc, .int .i64 p.join, .int .i64 p.history, .int .i64 p.remove, .int .i64 p.level, .bool p.batch, .int .i64 p.rate, .int .i64 p.down, .int .i64 p.window, .int .i64 p.keep] : Array Value) := ⟨_, rfl⟩
  rw [show pfV p (.slice ta p.types.length tc) = .agg cs by rw [hcs]; rfl] at HX ⊢
  have hsz : cs.size = 22 := by rw [hcs]; rfl
  have hb0 : Below w.heap.size w (w.alloc (.cells cs 24)) := (Below.refl _ _).alloc (Nat.le_refl _) _
  have HB0 := Lib.hid hb0
  have HT := Lib.hid (ht.keep hb0)
  have HFW := Lib.hid hfw
  have hh : (w.alloc (.cells cs 24)).heap[w.heap.size]? = some (.cells cs 24) := heap_alloc_new w _
  have G0 := Lib.hid (show (w.alloc (.cells cs 24)).cell? ⟨w.heap.size, 0, none⟩ = some (.string (bs p.name)) by rw [Lib.cell_of_heap hh, hcs]; rfl)
  have G1 := Lib.hid (show (w.alloc (.cells cs 24)).cell? ⟨w.heap.size, 1, none⟩ = some (.int .i64 p.edit) by rw [Lib.cell_of_heap hh, hcs]; rfl)
  have G2 := Lib.hid (show (w.alloc (.cells cs 24)).cell? ⟨w.heap.size, 2, none⟩ = some (.int .i64 p.within) by rw [Lib.cell_of_heap hh, hcs]; rfl)
  have G3 := Lib.hid (show (w.alloc (.cells cs 24)).cell? ⟨w.heap.size, 3, none⟩ = some (.int .i64 p.delete) by rw [Lib.cell_of_heap hh, hcs]; rfl)
  have G4 := Lib.hid (show (w.alloc (.cells cs 24)).cell? ⟨w.heap.size, 4, none⟩ = some (.bool p.react) by rw [Lib.cell_of_heap hh, hcs]; rfl)
  have G5 := Lib.hid (show (w.alloc (.cells cs 24)).cell? ⟨w.heap.size, 5, none⟩ = some (.int .i64 p.thread) by rw [Lib.cell_of_heap hh, hcs]; rfl)
  have G6 := Lib.hid (show (w.alloc (.cells cs 24)).cell? ⟨w.heap.size, 6, none⟩ = some (.bool p.quote) by rw [Lib.cell_of_heap hh, hcs]; rfl)
  have G7 := Lib.hid (show (w.alloc (.cells cs 24)).cell? ⟨w.heap.size, 7, none⟩ = some (.bool p.mention) by rw [Lib.cell_of_heap hh, hcs]; rfl)
  have G8 := Lib.hid (show (w.alloc (.cells cs 24)).cell? ⟨w.heap.size, 8, none⟩ = some (.int .i64 p.size) by rw [Lib.cell_of_heap hh, hcs]; rfl)
  have G9 := Lib.hid (show (w.alloc (.cells cs 24)).cell? ⟨w.heap.size, 9, none⟩ = some (.int .i64 p.parts) by rw [Lib.cell_of_heap hh, hcs]; rfl)
  have G10 := Lib.hid (show (w.alloc (.cells cs 24)).cell? ⟨w.heap.size, 10, none⟩ = some (.int .i64 p.files) by rw [Lib.cell_of_heap hh, hcs]; rfl)
  have G11 := Lib.hid (show (w.alloc (.cells cs 24)).cell? ⟨w.heap.size, 11, none⟩ = some (.int .i64 p.bytes) by rw [Lib.cell_of_heap hh, hcs]; rfl)
  have G12 := Lib.hid (show (w.alloc (.cells cs 24)).cell? ⟨w.heap.size, 12, none⟩ = some (.slice ta p.types.length tc) by rw [Lib.cell_of_heap hh, hcs]; rfl)
  have G13 := Lib.hid (show (w.alloc (.cells cs 24)).cell? ⟨w.heap.size, 13, none⟩ = some (.int .i64 p.join) by rw [Lib.cell_of_heap hh, hcs]; rfl)
  have G14 := Lib.hid (show (w.alloc (.cells cs 24)).cell? ⟨w.heap.size, 14, none⟩ = some (.int .i64 p.history) by rw [Lib.cell_of_heap hh, hcs]; rfl)
  have G15 := Lib.hid (show (w.alloc (.cells cs 24)).cell? ⟨w.heap.size, 15, none⟩ = some (.int .i64 p.remove) by rw [Lib.cell_of_heap hh, hcs]; rfl)
  have G16 := Lib.hid (show (w.alloc (.cells cs 24)).cell? ⟨w.heap.size, 16, none⟩ = some (.int .i64 p.level) by rw [Lib.cell_of_heap hh, hcs]; rfl)
  have G17 := Lib.hid (show (w.alloc (.cells cs 24)).cell? ⟨w.heap.size, 17, none⟩ = some (.bool p.batch) by rw [Lib.cell_of_heap hh, hcs]; rfl)
  have G18 := Lib.hid (show (w.alloc (.cells cs 24)).cell? ⟨w.heap.size, 18, none⟩ = some (.int .i64 p.rate) by rw [Lib.cell_of_heap hh, hcs]; rfl)
  have G19 := Lib.hid (show (w.alloc (.cells cs 24)).cell? ⟨w.heap.size, 19, none⟩ = some (.int .i64 p.down) by rw [Lib.cell_of_heap hh, hcs]; rfl)
  have G20 := Lib.hid (show (w.alloc (.cells cs 24)).cell? ⟨w.heap.size, 20, none⟩ = some (.int .i64 p.window) by rw [Lib.cell_of_heap hh, hcs]; rfl)
  have G21 := Lib.hid (show (w.alloc (.cells cs 24)).cell? ⟨w.heap.size, 21, none⟩ = some (.int .i64 p.keep) by rw [Lib.cell_of_heap hh, hcs]; rfl)
  have HR := Lib.hid (y_right (HX.out.keep hb0) hf)
  have HH := Lib.hid hh
  clear ht hb0 hfw hf hcs hh
  go_enter Tryz.func9, Tryz.ntmps9
  go_upto_region 1 with fail
  refine wp_region_lit ?_
  refine list_ev (v := .agg cs) rfl (ev_whole rfl rfl HH.out Tryz.underlying24 rfl (by rw [hsz]; kernel_rfl)) ?_
  simp only [Act.put, List.setIfInBounds_toArray, List.set_cons_zero, List.set_cons_succ]
  generalize (Value.agg cs : Value) = xv at *
  generalize w.alloc (.cells cs 24) = w1 at *
  clear HX HH hsz
  by_cases hrt : Rt p
  · have HRT := Lib.hid hrt
    rw [decide_eq_true hrt] at HR
    obtain ⟨hk, hn, -, -, hfo⟩ := hrt
    obtain ⟨hk0, hk1, hk2, hk3, hk4, hk5, hk6⟩ := hk
    obtain ⟨hn0, hn1, hn2, hn3, hn4, hn5, hn6, hn7, hn8⟩ := hn
    have HN_within := Lib.hid (show 0 ≤ p.within ∧ p.within ≤ 1073741824 from hn0)
    have HN_size := Lib.hid (show 0 ≤ p.size ∧ p.size ≤ 1073741824 from hn1)
    have HN_parts := Lib.hid (show 0 ≤ p.parts ∧ p.parts ≤ 1073741824 from hn2)
    have HN_files := Lib.hid (show 0 ≤ p.files ∧ p.files ≤ 1073741824 from hn3)
    have HN_bytes := Lib.hid (show 0 ≤ p.bytes ∧ p.bytes ≤ 1073741824 from hn4)
    have HN_rate := Lib.hid (show 0 ≤ p.rate ∧ p.rate ≤ 1073741824 from hn5)
    have HN_down := Lib.hid (show 0 ≤ p.down ∧ p.down ≤ 1073741824 from hn6)
    have HN_window := Lib.hid (show 0 ≤ p.window ∧ p.window ≤ 1073741824 from hn7)
    have HN_keep := Lib.hid (show 0 ≤ p.keep ∧ p.keep ≤ 1073741824 from hn8)
    have HK0 := Lib.hid hk0
    have HK_delete := Lib.hid hk1
    have HK_thread := Lib.hid hk2
    have HK_join := Lib.hid hk3
    have HK_history := Lib.hid hk4
    have HK_remove := Lib.hid hk5
    have HK_level := Lib.hid hk6
    have HFO := Lib.hid hfo
    clear hk0 hk1 hk2 hk3 hk4 hk5 hk6 hn0 hn1 hn2 hn3 hn4 hn5 hn6 hn7 hn8 hfo
    go_wp2_with (go_at_call 12; refine (HR.out).mono ?_; rintro e w9 ⟨rfl, b9⟩; refine Hid.out ?_)
    refine Lib.hid ?_
    have BX := Lib.hid b9
    clear b9 HR
    go_upto_region 3 with fail
    go_cut [4] from 9 to 17 (fun v wx => v = .string (bs (pr0 p)) ∧ Hid (Below w1.heap.size w1 wx))
    case first =>
      have lP1 : List.length (p.name) ≤ 40 := HFW.out.2.1
      obtain ⟨X1, hX1⟩ : ∃ q, q = [110, 101, 116, 119, 111, 114, 107, 32] ++ p.name := ⟨_, rfl⟩
      have l1 : X1.length ≤ 48 := by rw [hX1]; simp only [List.length_append, List.length_cons, List.length_nil]; omega
      obtain ⟨X2, hX2⟩ : ∃ q, q = X1 ++ [32, 59, 10, 101, 100, 105, 116, 32] := ⟨_, rfl⟩
      have l2 : X2.length ≤ 56 := by rw [hX2]; simp only [List.length_append, List.length_cons, List.length_nil]; omega
      have lP3 : List.length (ynw (decide (p.edit = 2))) ≤ 40 := Nat.le_trans (ynw3 _) (by omega)
      obtain ⟨X3, hX3⟩ : ∃ q, q = X2 ++ ynw (decide (p.edit = 2)) := ⟨_, rfl⟩
      have l3 : X3.length ≤ 96 := by rw [hX3]; simp only [List.length_append]; omega
      have HX9 := Lib.hid (show X3 = pr0 p by rw [hX3, hX2, hX1]; rfl)
      refine region_flow [isV (.pointer (some ⟨w.heap.size, 0, none⟩)), isV (.string (bs p.name)), isV (.string (bs X1)), isV (.string (bs X2)), isV (.pointer (some ⟨w.heap.size, 1, none⟩)), isV (.int .i64 p.edit), isV (.bool (decide (p.edit = 2))), isV (.string (bs (ynw (decide (p.edit = 2))))), isV (.string (bs X3)), isV (.string (bs X3))] (by kernel_rfl) (by kernel_rfl) ?_ ?_ ?_
      · intro V hV
        simp only [List.mem_cons, List.mem_nil_iff, or_false] at hV
        rcases hV with rfl | rfl | rfl | rfl | rfl | rfl | rfl | rfl | rfl | rfl
        · exact stable_isV _
        · exact stable_isV _
        · exact stable_isV _
        · exact stable_isV _
        · exact stable_isV _
        · exact stable_isV _
        · exact stable_isV _
        · exact stable_isV _
        · exact stable_isV _
        · exact stable_isV _
      · refine ⟨?_, ?_, ?_, ?_, ?_, ?_, ?_, ?_, ?_, ?_, trivial⟩
        · exact fun a wx hb hs hp => does_val (ev_field rfl ((hs 1 (by kernel_rfl)).trans rfl) (pf0)) rfl
        · exact fun a wx hb hs hp => does_val (ev_load rfl (got (hp 0 9 (by kernel_rfl) rfl) rfl) (load_str _) (below_cell G0.out (BX.out.trans (hb.mono BX.out.size)))) rfl
        · exact fun a wx hb hs hp => does_val (ev_add rfl rfl (eval_at (got (hp 1 10 (by kernel_rfl) rfl) rfl)) (add_str (x := [110, 101, 116, 119, 111, 114, 107, 32]) (y := p.name) (by first | omega | (simp only [List.length_cons, List.length_nil]; omega)) hX1.symm)) rfl
        · exact fun a wx hb hs hp => does_val (ev_add rfl (eval_at (got (hp 2 11 (by kernel_rfl) rfl) rfl)) rfl (add_str (x := X1) (y := [32, 59, 10, 101, 100, 105, 116, 32]) (by first | omega | (simp only [List.length_cons, List.length_nil]; omega)) hX2.symm)) rfl
        · exact fun a wx hb hs hp => does_val (ev_field rfl ((hs 1 (by kernel_rfl)).trans rfl) (pf1)) rfl
        · exact fun a wx hb hs hp => does_val (ev_load rfl (got (hp 4 13 (by kernel_rfl) rfl) rfl) (load_int _) (below_cell G1.out (BX.out.trans (hb.mono BX.out.size)))) rfl
        · exact fun a wx hb hs hp => does_val (ev_bin rfl (got (hp 5 14 (by kernel_rfl) rfl) rfl) (eqz _ _)) rfl
        · exact fun a wx hb hs hp => does_call (ev_call1 (got (hp 6 15 (by kernel_rfl) rfl) rfl) (enters_of Tryz.func29 (by kernel_rfl) rfl)) (y_word (w := wx) _) rfl
        · exact fun a wx hb hs hp => does_val (ev_add rfl (eval_at (got (hp 3 12 (by kernel_rfl) rfl) rfl)) (eval_at (got (hp 7 16 (by kernel_rfl) rfl) rfl)) (add_str (x := X2) (y := ynw (decide (p.edit = 2))) (by first | omega | (simp only [List.length_cons, List.length_nil]; omega)) hX3.symm)) rfl
        · exact fun a wx hb hs hp => does_val (ev_assign rfl (got (hp 8 17 (by kernel_rfl) rfl) rfl)) rfl
      · intro vs w7 b7 hv
        have hvN := hv 9 (by simp)
        simp only [putsFrom, Act.put, List.setIfInBounds_toArray, List.set_cons_zero, List.set_cons_succ]
        rw [show vs 9 = .string (bs X3) from hvN]
        go_wp2
        go_meet
        exact ⟨by rw [HX9.out], Lib.hid (BX.out.trans (b7.mono BX.out.size))⟩
    case rest =>
      obtain ⟨rfl, BY⟩ := hcut
      clear BX
      have BX := BY
      clear BY
      have f2 := below_cell G2.out BX.out
      go_upto_if 20 with fail
      go_cut [4] from 18 to 26 (fun v wx => v = .string (bs (pr1 p)) ∧ Hid (Below w1.heap.size w1 wx))
      case first =>
        by_cases h : p.within = 0
        · have hb : (p.within != 0) = false := by rw [h]; rfl
          have HN9 := Lib.hid (pr1_no h)
          clear h
          rw [hb]
          clear hb f2
          go_wp2
          go_meet
          exact ⟨by rw [HN9.out], BX⟩
        · have hb : (p.within != 0) = true := by simpa using h
          rw [hb]
          clear hb
          obtain ⟨X0, hX0⟩ : ∃ q, q = pr0 p := ⟨_, rfl⟩
          have l0 : X0.length ≤ 1000 := by rw [hX0]; exact len0 HRT.out
          obtain ⟨X1, hX1⟩ : ∃ q, q = X0 ++ [32, 119, 105, 116, 104, 105, 110, 32] := ⟨_, rfl⟩
          have l1 : X1.length ≤ 1008 := by rw [hX1]; simp only [List.length_append, List.length_cons, List.length_nil]; omega
          have lP2 : List.length (Lib.decDigits p.within.toNat) ≤ 40 := Nat.le_trans (dec10 HN_within.out.2) (by omega)
          obtain ⟨X2, hX2⟩ : ∃ q, q = X1 ++ Lib.decDigits p.within.toNat := ⟨_, rfl⟩
          have l2 : X2.length ≤ 1048 := by rw [hX2]; simp only [List.length_append]; omega
          rw [← hX0]
          have HX9 := Lib.hid (show X2 = pr1 p by rw [hX2, hX1, hX0]; exact (pr1_yes h).symm)
          have z0 := bs_size X0
          have z1 := bs_size X1
          have e1 : bs X0 ++ ({ data := #[32, 119, 105, 116, 104, 105, 110, 32] } : ByteArray) = bs X1 := by rw [hX1]; exact bs_append _ _
          have zP2 := bs_size (Lib.decDigits p.within.toNat)
          have z2 := bs_size X2
          have e2 : bs X1 ++ bs (Lib.decDigits p.within.toNat) = bs X2 := by rw [hX2]; exact bs_append _ _
          clear hX0 hX1 hX2
          have HC := Lib.hid (fun w => num_ok (w := w) HN_within.out)
          go_wp2_with (go_at_call 30; refine (HC.out _).mono ?_; rintro e w9 ⟨rfl, rfl⟩)
          go_meet
          exact ⟨by rw [HX9.out], BX⟩
      case rest =>
        obtain ⟨rfl, BY⟩ := hcut
        clear BX f2
        have BX := BY
        clear BY
        go_upto_region 6 with fail
        go_cut [4] from 27 to 46 (fun v wx => v = .string (bs (pr2 p)) ∧ Hid (Below w1.heap.size w1 wx))
        case first =>
          obtain ⟨X0, hX0⟩ : ∃ q, q = pr1 p := ⟨_, rfl⟩
          have l0 : X0.length ≤ 1000 := by rw [hX0]; exact len1 HRT.out
          obtain ⟨X1, hX1⟩ : ∃ q, q = X0 ++ [32, 59, 10, 100, 101, 108, 101, 116, 101, 32] := ⟨_, rfl⟩
          have l1 : X1.length ≤ 1010 := by rw [hX1]; simp only [List.length_append, List.length_cons, List.length_nil]; omega
          have lP2 : List.length (deW.getD p.delete.toNat []) ≤ 40 := wlen_deW _
          obtain ⟨X2, hX2⟩ : ∃ q, q = X1 ++ deW.getD p.delete.toNat [] := ⟨_, rfl⟩
          have l2 : X2.length ≤ 1050 := by rw [hX2]; simp only [List.length_append]; omega
          obtain ⟨X3, hX3⟩ : ∃ q, q = X2 ++ [32, 59, 10, 114, 101, 97, 99, 116, 32] := ⟨_, rfl⟩
          have l3 : X3.length ≤ 1059 := by rw [hX3]; simp only [List.length_append, List.length_cons, List.length_nil]; omega
          have lP4 : List.length (ynw p.react) ≤ 40 := Nat.le_trans (ynw3 _) (by omega)
          obtain ⟨X4, hX4⟩ : ∃ q, q = X3 ++ ynw p.react := ⟨_, rfl⟩
          have l4 : X4.length ≤ 1099 := by rw [hX4]; simp only [List.length_append]; omega
          obtain ⟨X5, hX5⟩ : ∃ q, q = X4 ++ [32, 59, 10, 116, 104, 114, 101, 97, 100, 32] := ⟨_, rfl⟩
          have l5 : X5.length ≤ 1109 := by rw [hX5]; simp only [List.length_append, List.length_cons, List.length_nil]; omega
          have lP6 : List.length (thW.getD p.thread.toNat []) ≤ 40 := wlen_thW _
          obtain ⟨X6, hX6⟩ : ∃ q, q = X5 ++ thW.getD p.thread.toNat [] := ⟨_, rfl⟩
          have l6 : X6.length ≤ 1149 := by rw [hX6]; simp only [List.length_append]; omega
          rw [← hX0]
          have HX9 := Lib.hid (show X6 = pr2 p by rw [hX6, hX5, hX4, hX3, hX2, hX1, hX0]; rfl)
          refine region_flow [isV (.string (bs X0)), isV (.string (bs X1)), isTx deW, isV (.pointer (some ⟨w.heap.size, 3, none⟩)), isV (.int .i64 p.delete), isEl (deW.getD p.delete.toNat []), isV (.string (bs (deW.getD p.delete.toNat []))), isV (.string (bs X2)), isV (.string (bs X3)), isV (.pointer (some ⟨w.heap.size, 4, none⟩)), isV (.bool p.react), isV (.string (bs (ynw p.react))), isV (.string (bs X4)), isV (.string (bs X5)), isTx thW, isV (.pointer (some ⟨w.heap.size, 5, none⟩)), isV (.int .i64 p.thread), isEl (thW.getD p.thread.toNat []), isV (.string (bs (thW.getD p.thread.toNat []))), isV (.string (bs X6)), isV (.string (bs X6))] (by kernel_rfl) (by kernel_rfl) ?_ ?_ ?_
          · intro V hV
            simp only [List.mem_cons, List.mem_nil_iff, or_false] at hV
            rcases hV with rfl | rfl | rfl | rfl | rfl | rfl | rfl | rfl | rfl | rfl | rfl | rfl | rfl | rfl | rfl | rfl | rfl | rfl | rfl | rfl | rfl
            · exact stable_isV _
            · exact stable_isV _
            · exact stable_isTx _
            · exact stable_isV _
            · exact stable_isV _
            · exact stable_isEl _
            · exact stable_isV _
            · exact stable_isV _
            · exact stable_isV _
            · exact stable_isV _
            · exact stable_isV _
            · exact stable_isV _
            · exact stable_isV _
            · exact stable_isV _
            · exact stable_isTx _
            · exact stable_isV _
            · exact stable_isV _
            · exact stable_isEl _
            · exact stable_isV _
            · exact stable_isV _
            · exact stable_isV _
          · refine ⟨?_, ?_, ?_, ?_, ?_, ?_, ?_, ?_, ?_, ?_, ?_, ?_, ?_, ?_, ?_, ?_, ?_, ?_, ?_, ?_, ?_, trivial⟩
            · exact fun a wx hb hs hp => does_val (ev_move rfl ((hs 4 (by kernel_rfl)).trans rfl)) rfl
            · exact fun a wx hb hs hp => does_val (ev_add rfl (eval_at (got (hp 0 27 (by kernel_rfl) rfl) rfl)) rfl (add_str (x := X0) (y := [32, 59, 10, 100, 101, 108, 101, 116, 101, 32]) (by first | omega | (simp only [List.length_cons, List.length_nil]; omega)) hX1.symm)) rfl
            · exact fun a wx hb hs hp => does_build (ws := deW) (by unfold deW txVs; go_simp; rfl) rfl
            · exact fun a wx hb hs hp => does_val (ev_field rfl ((hs 1 (by kernel_rfl)).trans rfl) (pf3)) rfl
            · exact fun a wx hb hs hp => does_val (ev_load rfl (got (hp 3 30 (by kernel_rfl) rfl) rfl) (load_int _) (below_cell G3.out (BX.out.trans (hb.mono BX.out.size)))) rfl
            · exact fun a wx hb hs hp => does_index rfl (hp 2 29 (by kernel_rfl) rfl) rfl (got (hp 4 31 (by kernel_rfl) rfl) rfl) HK_delete.out.1 (get_some (by have h9 : 0 ≤ p.delete ∧ p.delete ≤ 2 := HK_delete.out; show p.delete.toNat < 3; omega)) rfl
            · exact fun a wx hb hs hp => does_loadS rfl (hp 5 32 (by kernel_rfl) rfl) rfl rfl
            · exact fun a wx hb hs hp => does_val (ev_add rfl (eval_at (got (hp 1 28 (by kernel_rfl) rfl) rfl)) (eval_at (got (hp 6 33 (by kernel_rfl) rfl) rfl)) (add_str (x := X1) (y := deW.getD p.delete.toNat []) (by first | omega | (simp only [List.length_cons, List.length_nil]; omega)) hX2.symm)) rfl
            · exact fun a wx hb hs hp => does_val (ev_add rfl (eval_at (got (hp 7 34 (by kernel_rfl) rfl) rfl)) rfl (add_str (x := X2) (y := [32, 59, 10, 114, 101, 97, 99, 116, 32]) (by first | omega | (simp only [List.length_cons, List.length_nil]; omega)) hX3.symm)) rfl
            · exact fun a wx hb hs hp => does_val (ev_field rfl ((hs 1 (by kernel_rfl)).trans rfl) (pf4)) rfl
            · exact fun a wx hb hs hp => does_val (ev_load rfl (got (hp 9 36 (by kernel_rfl) rfl) rfl) (load_bool _) (below_cell G4.out (BX.out.trans (hb.mono BX.out.size)))) rfl
            · exact fun a wx hb hs hp => does_call (ev_call1 (got (hp 10 37 (by kernel_rfl) rfl) rfl) (enters_of Tryz.func29 (by kernel_rfl) rfl)) (y_word (w := wx) _) rfl
            · exact fun a wx hb hs hp => does_val (ev_add rfl (eval_at (got (hp 8 35 (by kernel_rfl) rfl) rfl)) (eval_at (got (hp 11 38 (by kernel_rfl) rfl) rfl)) (add_str (x := X3) (y := ynw p.react) (by first | omega | (simp only [List.length_cons, List.length_nil]; omega)) hX4.symm)) rfl
            · exact fun a wx hb hs hp => does_val (ev_add rfl (eval_at (got (hp 12 39 (by kernel_rfl) rfl) rfl)) rfl (add_str (x := X4) (y := [32, 59, 10, 116, 104, 114, 101, 97, 100, 32]) (by first | omega | (simp only [List.length_cons, List.length_nil]; omega)) hX5.symm)) rfl
            · exact fun a wx hb hs hp => does_build (ws := thW) (by unfold thW txVs; go_simp; rfl) rfl
            · exact fun a wx hb hs hp => does_val (ev_field rfl ((hs 1 (by kernel_rfl)).trans rfl) (pf5)) rfl
            · exact fun a wx hb hs hp => does_val (ev_load rfl (got (hp 15 42 (by kernel_rfl) rfl) rfl) (load_int _) (below_cell G5.out (BX.out.trans (hb.mono BX.out.size)))) rfl
            · exact fun a wx hb hs hp => does_index rfl (hp 14 41 (by kernel_rfl) rfl) rfl (got (hp 16 43 (by kernel_rfl) rfl) rfl) HK_thread.out.1 (get_some (by have h9 : 0 ≤ p.thread ∧ p.thread ≤ 2 := HK_thread.out; show p.thread.toNat < 3; omega)) rfl
            · exact fun a wx hb hs hp => does_loadS rfl (hp 17 44 (by kernel_rfl) rfl) rfl rfl
            · exact fun a wx hb hs hp => does_val (ev_add rfl (eval_at (got (hp 13 40 (by kernel_rfl) rfl) rfl)) (eval_at (got (hp 18 45 (by kernel_rfl) rfl) rfl)) (add_str (x := X5) (y := thW.getD p.thread.toNat []) (by first | omega | (simp only [List.length_cons, List.length_nil]; omega)) hX6.symm)) rfl
            · exact fun a wx hb hs hp => does_val (ev_assign rfl (got (hp 19 46 (by kernel_rfl) rfl) rfl)) rfl
          · intro vs w7 b7 hv
            have hvN := hv 20 (by simp)
            simp only [putsFrom, Act.put, List.setIfInBounds_toArray, List.set_cons_zero, List.set_cons_succ]
            rw [show vs 20 = .string (bs X6) from hvN]
            go_wp2
            go_meet
            exact ⟨by rw [HX9.out], Lib.hid (BX.out.trans (b7.mono BX.out.size))⟩
        case rest =>
          obtain ⟨rfl, BY⟩ := hcut
          clear BX
          have BX := BY
          clear BY
          go_upto_region 7 with fail
          go_cut [4] from 47 to 68 (fun v wx => v = .string (bs (pr3 p)) ∧ Hid (Below w1.heap.size w1 wx))
          case first =>
            obtain ⟨X0, hX0⟩ : ∃ q, q = pr2 p := ⟨_, rfl⟩
            have l0 : X0.length ≤ 1000 := by rw [hX0]; exact len2 HRT.out
            obtain ⟨X1, hX1⟩ : ∃ q, q = X0 ++ [32, 59, 10, 113, 117, 111, 116, 101, 32] := ⟨_, rfl⟩
            have l1 : X1.length ≤ 1009 := by rw [hX1]; simp only [List.length_append, List.length_cons, List.length_nil]; omega
            have lP2 : List.length (ynw p.quote) ≤ 40 := Nat.le_trans (ynw3 _) (by omega)
            obtain ⟨X2, hX2⟩ : ∃ q, q = X1 ++ ynw p.quote := ⟨_, rfl⟩
            have l2 : X2.length ≤ 1049 := by rw [hX2]; simp only [List.length_append]; omega
            obtain ⟨X3, hX3⟩ : ∃ q, q = X2 ++ [32, 59, 10, 109, 101, 110, 116, 105, 111, 110, 32] := ⟨_, rfl⟩
            have l3 : X3.length ≤ 1060 := by rw [hX3]; simp only [List.length_append, List.length_cons, List.length_nil]; omega
            have lP4 : List.length (ynw p.mention) ≤ 40 := Nat.le_trans (ynw3 _) (by omega)
            obtain ⟨X4, hX4⟩ : ∃ q, q = X3 ++ ynw p.mention := ⟨_, rfl⟩
            have l4 : X4.length ≤ 1100 := by rw [hX4]; simp only [List.length_append]; omega
            obtain ⟨X5, hX5⟩ : ∃ q, q = X4 ++ [32, 59, 10, 115, 105, 122, 101, 32] := ⟨_, rfl⟩
            have l5 : X5.length ≤ 1108 := by rw [hX5]; simp only [List.length_append, List.length_cons, List.length_nil]; omega
            have lP6 : List.length (Lib.decDigits p.size.toNat) ≤ 40 := Nat.le_trans (dec10 HN_size.out.2) (by omega)
            obtain ⟨X6, hX6⟩ : ∃ q, q = X5 ++ Lib.decDigits p.size.toNat := ⟨_, rfl⟩
            have l6 : X6.length ≤ 1148 := by rw [hX6]; simp only [List.length_append]; omega
            obtain ⟨X7, hX7⟩ : ∃ q, q = X6 ++ [32, 112, 97, 114, 116, 115, 32] := ⟨_, rfl⟩
            have l7 : X7.length ≤ 1155 := by rw [hX7]; simp only [List.length_append, List.length_cons, List.length_nil]; omega
            have lP8 : List.length (Lib.decDigits p.parts.toNat) ≤ 40 := Nat.le_trans (dec10 HN_parts.out.2) (by omega)
            obtain ⟨X8, hX8⟩ : ∃ q, q = X7 ++ Lib.decDigits p.parts.toNat := ⟨_, rfl⟩
            have l8 : X8.length ≤ 1195 := by rw [hX8]; simp only [List.length_append]; omega
            obtain ⟨X9, hX9⟩ : ∃ q, q = X8 ++ [32, 59, 10] := ⟨_, rfl⟩
            have l9 : X9.length ≤ 1198 := by rw [hX9]; simp only [List.length_append, List.length_cons, List.length_nil]; omega
            rw [← hX0]
            have HX9 := Lib.hid (show X9 = pr3 p by rw [hX9, hX8, hX7, hX6, hX5, hX4, hX3, hX2, hX1, hX0]; rfl)
            refine region_flow [isV (.string (bs X0)), isV (.string (bs X1)), isV (.pointer (some ⟨w.heap.size, 6, none⟩)), isV (.bool p.quote), isV (.string (bs (ynw p.quote))), isV (.string (bs X2)), isV (.string (bs X3)), isV (.pointer (some ⟨w.heap.size, 7, none⟩)), isV (.bool p.mention), isV (.string (bs (ynw p.mention))), isV (.string (bs X4)), isV (.string (bs X5)), isV (.pointer (some ⟨w.heap.size, 8, none⟩)), isV (.int .i64 p.size), isV (.string (bs (Lib.decDigits p.size.toNat))), isV (.string (bs X6)), isV (.string (bs X7)), isV (.pointer (some ⟨w.heap.size, 9, none⟩)), isV (.int .i64 p.parts), isV (.string (bs (Lib.decDigits p.parts.toNat))), isV (.string (bs X8)), isV (.string (bs X9)), isV (.string (bs X9))] (by kernel_rfl) (by kernel_rfl) ?_ ?_ ?_
            · intro V hV
              simp only [List.mem_cons, List.mem_nil_iff, or_false] at hV
              rcases hV with rfl | rfl | rfl | rfl | rfl | rfl | rfl | rfl | rfl | rfl | rfl | rfl | rfl | rfl | rfl | rfl | rfl | rfl | rfl | rfl | rfl | rfl | rfl
              · exact stable_isV _
              · exact stable_isV _
              · exact stable_isV _
              · exact stable_isV _
              · exact stable_isV _
              · exact stable_isV _
              · exact stable_isV _
              · exact stable_isV _
              · exact stable_isV _
              · exact stable_isV _
              · exact stable_isV _
              · exact stable_isV _
              · exact stable_isV _
              · exact stable_isV _
              · exact stable_isV _
              · exact stable_isV _
              · exact stable_isV _
              · exact stable_isV _
              · exact stable_isV _
              · exact stable_isV _
              · exact stable_isV _
              · exact stable_isV _
              · exact stable_isV _
            · refine ⟨?_, ?_, ?_, ?_, ?_, ?_, ?_, ?_, ?_, ?_, ?_, ?_, ?_, ?_, ?_, ?_, ?_, ?_, ?_, ?_, ?_, ?_, ?_, trivial⟩
              · exact fun a wx hb hs hp => does_val (ev_move rfl ((hs 4 (by kernel_rfl)).trans rfl)) rfl
              · exact fun a wx hb hs hp => does_val (ev_add rfl (eval_at (got (hp 0 47 (by kernel_rfl) rfl) rfl)) rfl (add_str (x := X0) (y := [32, 59, 10, 113, 117, 111, 116, 101, 32]) (by first | omega | (simp only [List.length_cons, List.length_nil]; omega)) hX1.symm)) rfl
              · exact fun a wx hb hs hp => does_val (ev_field rfl ((hs 1 (by kernel_rfl)).trans rfl) (pf6)) rfl
              · exact fun a wx hb hs hp => does_val (ev_load rfl (got (hp 2 49 (by kernel_rfl) rfl) rfl) (load_bool _) (below_cell G6.out (BX.out.trans (hb.mono BX.out.size)))) rfl
              · exact fun a wx hb hs hp => does_call (ev_call1 (got (hp 3 50 (by kernel_rfl) rfl) rfl) (enters_of Tryz.func29 (by kernel_rfl) rfl)) (y_word (w := wx) _) rfl
              · exact fun a wx hb hs hp => does_val (ev_add rfl (eval_at (got (hp 1 48 (by kernel_rfl) rfl) rfl)) (eval_at (got (hp 4 51 (by kernel_rfl) rfl) rfl)) (add_str (x := X1) (y := ynw p.quote) (by first | omega | (simp only [List.length_cons, List.length_nil]; omega)) hX2.symm)) rfl
              · exact fun a wx hb hs hp => does_val (ev_add rfl (eval_at (got (hp 5 52 (by kernel_rfl) rfl) rfl)) rfl (add_str (x := X2) (y := [32, 59, 10, 109, 101, 110, 116, 105, 111, 110, 32]) (by first | omega | (simp only [List.length_cons, List.length_nil]; omega)) hX3.symm)) rfl
              · exact fun a wx hb hs hp => does_val (ev_field rfl ((hs 1 (by kernel_rfl)).trans rfl) (pf7)) rfl
              · exact fun a wx hb hs hp => does_val (ev_load rfl (got (hp 7 54 (by kernel_rfl) rfl) rfl) (load_bool _) (below_cell G7.out (BX.out.trans (hb.mono BX.out.size)))) rfl
              · exact fun a wx hb hs hp => does_call (ev_call1 (got (hp 8 55 (by kernel_rfl) rfl) rfl) (enters_of Tryz.func29 (by kernel_rfl) rfl)) (y_word (w := wx) _) rfl
              · exact fun a wx hb hs hp => does_val (ev_add rfl (eval_at (got (hp 6 53 (by kernel_rfl) rfl) rfl)) (eval_at (got (hp 9 56 (by kernel_rfl) rfl) rfl)) (add_str (x := X3) (y := ynw p.mention) (by first | omega | (simp only [List.length_cons, List.length_nil]; omega)) hX4.symm)) rfl
              · exact fun a wx hb hs hp => does_val (ev_add rfl (eval_at (got (hp 10 57 (by kernel_rfl) rfl) rfl)) rfl (add_str (x := X4) (y := [32, 59, 10, 115, 105, 122, 101, 32]) (by first | omega | (simp only [List.length_cons, List.length_nil]; omega)) hX5.symm)) rfl
              · exact fun a wx hb hs hp => does_val (ev_field rfl ((hs 1 (by kernel_rfl)).trans rfl) (pf8)) rfl
              · exact fun a wx hb hs hp => does_val (ev_load rfl (got (hp 12 59 (by kernel_rfl) rfl) rfl) (load_int _) (below_cell G8.out (BX.out.trans (hb.mono BX.out.size)))) rfl
              · exact fun a wx hb hs hp => does_call (ev_call1 (got (hp 13 60 (by kernel_rfl) rfl) rfl) (enters_of Tryz.func30 (by kernel_rfl) rfl)) (num_ok (w := wx) HN_size.out) rfl
              · exact fun a wx hb hs hp => does_val (ev_add rfl (eval_at (got (hp 11 58 (by kernel_rfl) rfl) rfl)) (eval_at (got (hp 14 61 (by kernel_rfl) rfl) rfl)) (add_str (x := X5) (y := Lib.decDigits p.size.toNat) (by first | omega | (simp only [List.length_cons, List.length_nil]; omega)) hX6.symm)) rfl
              · exact fun a wx hb hs hp => does_val (ev_add rfl (eval_at (got (hp 15 62 (by kernel_rfl) rfl) rfl)) rfl (add_str (x := X6) (y := [32, 112, 97, 114, 116, 115, 32]) (by first | omega | (simp only [List.length_cons, List.length_nil]; omega)) hX7.symm)) rfl
              · exact fun a wx hb hs hp => does_val (ev_field rfl ((hs 1 (by kernel_rfl)).trans rfl) (pf9)) rfl
              · exact fun a wx hb hs hp => does_val (ev_load rfl (got (hp 17 64 (by kernel_rfl) rfl) rfl) (load_int _) (below_cell G9.out (BX.out.trans (hb.mono BX.out.size)))) rfl
              · exact fun a wx hb hs hp => does_call (ev_call1 (got (hp 18 65 (by kernel_rfl) rfl) rfl) (enters_of Tryz.func30 (by kernel_rfl) rfl)) (num_ok (w := wx) HN_parts.out) rfl
              · exact fun a wx hb hs hp => does_val (ev_add rfl (eval_at (got (hp 16 63 (by kernel_rfl) rfl) rfl)) (eval_at (got (hp 19 66 (by kernel_rfl) rfl) rfl)) (add_str (x := X7) (y := Lib.decDigits p.parts.toNat) (by first | omega | (simp only [List.length_cons, List.length_nil]; omega)) hX8.symm)) rfl
              · exact fun a wx hb hs hp => does_val (ev_add rfl (eval_at (got (hp 20 67 (by kernel_rfl) rfl) rfl)) rfl (add_str (x := X8) (y := [32, 59, 10]) (by first | omega | (simp only [List.length_cons, List.length_nil]; omega)) hX9.symm)) rfl
              · exact fun a wx hb hs hp => does_val (ev_assign rfl (got (hp 21 68 (by kernel_rfl) rfl) rfl)) rfl
            · intro vs w7 b7 hv
              have hvN := hv 22 (by simp)
              simp only [putsFrom, Act.put, List.setIfInBounds_toArray, List.set_cons_zero, List.set_cons_succ]
              rw [show vs 22 = .string (bs X9) from hvN]
              go_wp2
              go_meet
              exact ⟨by rw [HX9.out], Lib.hid (BX.out.trans (b7.mono BX.out.size))⟩
          case rest =>
            obtain ⟨rfl, BY⟩ := hcut
            clear BX
            have BX := BY
            clear BY
            have f10 := below_cell G10.out BX.out
            go_upto_if 71 with fail
            go_cut [4] from 69 to 100 (fun v wx => v = .string (bs (pr4 p)) ∧ Hid (Below w1.heap.size w1 wx))
            case first =>
              by_cases h : p.files = 0
              · have hb : (p.files != 0) = false := by rw [h]; rfl
                have HN9 := Lib.hid (pr4_no h)
                rw [hb]
                clear h hb f10
                go_wp2
                go_meet
                exact ⟨by rw [HN9.out], BX⟩
              · have hb : (p.files != 0) = true := by simpa using h
                rw [hb]
                clear hb
                obtain ⟨X0, hX0⟩ : ∃ q, q = pr3 p := ⟨_, rfl⟩
                have l0 : X0.length ≤ 1000 := by rw [hX0]; exact len3 HRT.out
                obtain ⟨X1, hX1⟩ : ∃ q, q = X0 ++ [102, 105, 108, 101, 115, 32] := ⟨_, rfl⟩
                have l1 : X1.length ≤ 1006 := by rw [hX1]; simp only [List.length_append, List.length_cons, List.length_nil]; omega
                have lP2 : List.length (Lib.decDigits p.files.toNat) ≤ 40 := Nat.le_trans (dec10 HN_files.out.2) (by omega)
                obtain ⟨X2, hX2⟩ : ∃ q, q = X1 ++ Lib.decDigits p.files.toNat := ⟨_, rfl⟩
                have l2 : X2.length ≤ 1046 := by rw [hX2]; simp only [List.length_append]; omega
                obtain ⟨X3, hX3⟩ : ∃ q, q = X2 ++ [32, 98, 121, 116, 101, 115, 32] := ⟨_, rfl⟩
                have l3 : X3.length ≤ 1053 := by rw [hX3]; simp only [List.length_append, List.length_cons, List.length_nil]; omega
                have lP4 : List.length (Lib.decDigits p.bytes.toNat) ≤ 40 := Nat.le_trans (dec10 HN_bytes.out.2) (by omega)
                obtain ⟨X4, hX4⟩ : ∃ q, q = X3 ++ Lib.decDigits p.bytes.toNat := ⟨_, rfl⟩
                have l4 : X4.length ≤ 1093 := by rw [hX4]; simp only [List.length_append]; omega
                obtain ⟨X5, hX5⟩ : ∃ q, q = X4 ++ [32, 116, 121, 112, 101, 115] := ⟨_, rfl⟩
                have l5 : X5.length ≤ 1099 := by rw [hX5]; simp only [List.length_append, List.length_cons, List.length_nil]; omega
                rw [← hX0]
                have HX9 := Lib.hid (show X5 ++ tys p.types ++ [32, 59, 10] = pr4 p by rw [hX5, hX4, hX3, hX2, hX1, hX0]; exact (pr4_yes h).symm)
                go_upto_region 9 with fail
                refine region_flow [isV (.string (bs X0)), isV (.string (bs X1)), isV (.pointer (some ⟨w.heap.size, 10, none⟩)), isV (.int .i64 p.files), isV (.string (bs (Lib.decDigits p.files.toNat))), isV (.string (bs X2)), isV (.string (bs X3)), isV (.pointer (some ⟨w.heap.size, 11, none⟩)), isV (.int .i64 p.bytes), isV (.string (bs (Lib.decDigits p.bytes.toNat))), isV (.string (bs X4)), isV (.string (bs X5)), isV (.string (bs X5))] (by kernel_rfl) (by kernel_rfl) ?_ ?_ ?_
                · intro V hV
                  simp only [List.mem_cons, List.mem_nil_iff, or_false] at hV
                  rcases hV with rfl | rfl | rfl | rfl | rfl | rfl | rfl | rfl | rfl | rfl | rfl | rfl | rfl
                  · exact stable_isV _
                  · exact stable_isV _
                  · exact stable_isV _
                  · exact stable_isV _
                  · exact stable_isV _
                  · exact stable_isV _
                  · exact stable_isV _
                  · exact stable_isV _
                  · exact stable_isV _
                  · exact stable_isV _
                  · exact stable_isV _
                  · exact stable_isV _
                  · exact stable_isV _
                · refine ⟨?_, ?_, ?_, ?_, ?_, ?_, ?_, ?_, ?_, ?_, ?_, ?_, ?_, trivial⟩
                  · exact fun a wx hb hs hp => does_val (ev_move rfl ((hs 4 (by kernel_rfl)).trans rfl)) rfl
                  · exact fun a wx hb hs hp => does_val (ev_add rfl (eval_at (got (hp 0 72 (by kernel_rfl) rfl) rfl)) rfl (add_str (x := X0) (y := [102, 105, 108, 101, 115, 32]) (by first | omega | (simp only [List.length_cons, List.length_nil]; omega)) hX1.symm)) rfl
                  · exact fun a wx hb hs hp => does_val (ev_field rfl ((hs 1 (by kernel_rfl)).trans rfl) (pf10)) rfl
                  · exact fun a wx hb hs hp => does_val (ev_load rfl (got (hp 2 74 (by kernel_rfl) rfl) rfl) (load_int _) (below_cell G10.out (BX.out.trans (hb.mono BX.out.size)))) rfl
                  · exact fun a wx hb hs hp => does_call (ev_call1 (got (hp 3 75 (by kernel_rfl) rfl) rfl) (enters_of Tryz.func30 (by kernel_rfl) rfl)) (num_ok (w := wx) HN_files.out) rfl
                  · exact fun a wx hb hs hp => does_val (ev_add rfl (eval_at (got (hp 1 73 (by kernel_rfl) rfl) rfl)) (eval_at (got (hp 4 76 (by kernel_rfl) rfl) rfl)) (add_str (x := X1) (y := Lib.decDigits p.files.toNat) (by first | omega | (simp only [List.length_cons, List.length_nil]; omega)) hX2.symm)) rfl
                  · exact fun a wx hb hs hp => does_val (ev_add rfl (eval_at (got (hp 5 77 (by kernel_rfl) rfl) rfl)) rfl (add_str (x := X2) (y := [32, 98, 121, 116, 101, 115, 32]) (by first | omega | (simp only [List.length_cons, List.length_nil]; omega)) hX3.symm)) rfl
                  · exact fun a wx hb hs hp => does_val (ev_field rfl ((hs 1 (by kernel_rfl)).trans rfl) (pf11)) rfl
                  · exact fun a wx hb hs hp => does_val (ev_load rfl (got (hp 7 79 (by kernel_rfl) rfl) rfl) (load_int _) (below_cell G11.out (BX.out.trans (hb.mono BX.out.size)))) rfl
                  · exact fun a wx hb hs hp => does_call (ev_call1 (got (hp 8 80 (by kernel_rfl) rfl) rfl) (enters_of Tryz.func30 (by kernel_rfl) rfl)) (num_ok (w := wx) HN_bytes.out) rfl
                  · exact fun a wx hb hs hp => does_val (ev_add rfl (eval_at (got (hp 6 78 (by kernel_rfl) rfl) rfl)) (eval_at (got (hp 9 81 (by kernel_rfl) rfl) rfl)) (add_str (x := X3) (y := Lib.decDigits p.bytes.toNat) (by first | omega | (simp only [List.length_cons, List.length_nil]; omega)) hX4.symm)) rfl
                  · exact fun a wx hb hs hp => does_val (ev_add rfl (eval_at (got (hp 10 82 (by kernel_rfl) rfl) rfl)) rfl (add_str (x := X4) (y := [32, 116, 121, 112, 101, 115]) (by first | omega | (simp only [List.length_cons, List.length_nil]; omega)) hX5.symm)) rfl
                  · exact fun a wx hb hs hp => does_val (ev_assign rfl (got (hp 11 83 (by kernel_rfl) rfl) rfl)) rfl
                · intro vs w7 b7 hv
                  have hvN := hv 12 (by simp)
                  simp only [putsFrom, Act.put, List.setIfInBounds_toArray, List.set_cons_zero, List.set_cons_succ]
                  rw [show vs 12 = .string (bs X5) from hvN]
                  have B3 := Lib.hid (BX.out.trans (b7.mono BX.out.size))
                  have HT3 := Lib.hid (HT.out.keep B3.out)
                  have f12 := below_cell G12.out B3.out
                  have hl24 : p.types.length ≤ 24 := HFW.out.1
                  clear h hv hvN b7 hX0 hX1 hX2 hX3 hX4 hX5 l0 l1 l2 l3 l4 lP2 lP4 f10
                  go_wp2
                  go_loopw [4, 5] (fun s i wr => ∃ (k : Nat) (S0 : S), k ≤ p.types.length ∧ i = .int .i64 k ∧ s = .string (bs S0) ∧ S0.length ≤ 1300 + 50 * k ∧ Hid (S0 = X5 ++ tys (p.types.take k)) ∧ w7 = wr) (fun _ i _ => p.types.length - (intOf i).toNat)
                  case atStart => exact ⟨0, X5, Nat.zero_le _, rfl, rfl, by omega, Lib.hid (by simp [tys]), by trivial⟩
                  case round =>
                    obtain ⟨k, S0, hk, rfl, rfl, hsl, HS, rfl⟩ := hrel
                    have zs := bs_size S0
                    by_cases hlt : k < p.types.length
                    · obtain ⟨s, hs⟩ : ∃ s, p.types[k]? = some s := ⟨_, List.getElem?_eq_getElem hlt⟩
                      obtain ⟨g, off, cap, h1x, _, hc⟩ := HT3.out.form (by omega)
                      cases h1x
                      have c0 := hc k s hs
                      have lt := HFW.out.2.2 s (List.mem_of_getElem? hs)
                      have zt := bs_size s
                      obtain ⟨S1, hS1⟩ : ∃ q, q = S0 ++ [32] := ⟨_, rfl⟩
                      obtain ⟨S2, hS2⟩ : ∃ q, q = S1 ++ s := ⟨_, rfl⟩
                      have ls1 : S1.length = S0.length + 1 := by rw [hS1]; simp
                      have ls2 : S2.length = S1.length + s.length := by rw [hS2]; simp
                      have zs1 := bs_size S1
                      have q1 : bs S0 ++ ({ data := #[32] } : ByteArray) = bs S1 := by rw [hS1]; exact bs_append _ _
                      have q2 : bs S1 ++ bs s = bs S2 := by rw [hS2]; exact bs_append _ _
                      have HS2 := Lib.hid (show S2 = X5 ++ tys (p.types.take (k + 1)) by rw [hS2, hS1, HS.out, tys_take hs]; simp)
                      have l2 : S2.length ≤ 1300 + 50 * (k + 1) := by omega
                      rw [ls1] at zs1
                      clear hS1 hS2 hs hc ls1 ls2
                      go_wp2
                      go_roundw
                      case rel => exact ⟨k + 1, S2, by omega, by go_num, rfl, l2, HS2, by trivial⟩
                      case measure => simp [intOf]; omega
                    · obtain rfl : k = p.types.length := by omega
                      have q1 : bs S0 ++ ({ data := #[32, 59, 10] } : ByteArray) = bs (pr4 p) := by rw [← HX9.out]; have := HS.out; rw [List.take_length] at this; rw [this]; exact bs_append _ _
                      go_wp2
                      go_meet
                      exact ⟨rfl, B3⟩
            case rest =>
              obtain ⟨rfl, BY⟩ := hcut
              clear BX f10
              have BX := BY
              clear BY
              go_upto_region 15 with fail
              go_cut [4] from 101 to 122 (fun v wx => v = .string (bs (pr5 p)) ∧ Hid (Below w1.heap.size w1 wx))
              case first =>
                obtain ⟨X0, hX0⟩ : ∃ q, q = pr4 p := ⟨_, rfl⟩
                have l0 : X0.length ≤ 1000 := by rw [hX0]; exact len4 HRT.out
                obtain ⟨X1, hX1⟩ : ∃ q, q = X0 ++ [106, 111, 105, 110, 32] := ⟨_, rfl⟩
                have l1 : X1.length ≤ 1005 := by rw [hX1]; simp only [List.length_append, List.length_cons, List.length_nil]; omega
                have lP2 : List.length (joW.getD p.join.toNat []) ≤ 40 := wlen_joW _
                obtain ⟨X2, hX2⟩ : ∃ q, q = X1 ++ joW.getD p.join.toNat [] := ⟨_, rfl⟩
                have l2 : X2.length ≤ 1045 := by rw [hX2]; simp only [List.length_append]; omega
                obtain ⟨X3, hX3⟩ : ∃ q, q = X2 ++ [32, 59, 10, 104, 105, 115, 116, 111, 114, 121, 32] := ⟨_, rfl⟩
                have l3 : X3.length ≤ 1056 := by rw [hX3]; simp only [List.length_append, List.length_cons, List.length_nil]; omega
                have lP4 : List.length (hiW.getD p.history.toNat []) ≤ 40 := wlen_hiW _
                obtain ⟨X4, hX4⟩ : ∃ q, q = X3 ++ hiW.getD p.history.toNat [] := ⟨_, rfl⟩
                have l4 : X4.length ≤ 1096 := by rw [hX4]; simp only [List.length_append]; omega
                obtain ⟨X5, hX5⟩ : ∃ q, q = X4 ++ [32, 59, 10, 114, 101, 109, 111, 118, 101, 32] := ⟨_, rfl⟩
                have l5 : X5.length ≤ 1106 := by rw [hX5]; simp only [List.length_append, List.length_cons, List.length_nil]; omega
                have lP6 : List.length (reW.getD p.remove.toNat []) ≤ 40 := wlen_reW _
                obtain ⟨X6, hX6⟩ : ∃ q, q = X5 ++ reW.getD p.remove.toNat [] := ⟨_, rfl⟩
                have l6 : X6.length ≤ 1146 := by rw [hX6]; simp only [List.length_append]; omega
                rw [← hX0]
                have HX9 := Lib.hid (show X6 = pr5 p by rw [hX6, hX5, hX4, hX3, hX2, hX1, hX0]; rfl)
                refine region_flow [isV (.string (bs X0)), isV (.string (bs X1)), isTx joW, isV (.pointer (some ⟨w.heap.size, 13, none⟩)), isV (.int .i64 p.join), isEl (joW.getD p.join.toNat []), isV (.string (bs (joW.getD p.join.toNat []))), isV (.string (bs X2)), isV (.string (bs X3)), isTx hiW, isV (.pointer (some ⟨w.heap.size, 14, none⟩)), isV (.int .i64 p.history), isEl (hiW.getD p.history.toNat []), isV (.string (bs (hiW.getD p.history.toNat []))), isV (.string (bs X4)), isV (.string (bs X5)), isTx reW, isV (.pointer (some ⟨w.heap.size, 15, none⟩)), isV (.int .i64 p.remove), isEl (reW.getD p.remove.toNat []), isV (.string (bs (reW.getD p.remove.toNat []))), isV (.string (bs X6)), isV (.string (bs X6))] (by kernel_rfl) (by kernel_rfl) ?_ ?_ ?_
                · intro V hV
                  simp only [List.mem_cons, List.mem_nil_iff, or_false] at hV
                  rcases hV with rfl | rfl | rfl | rfl | rfl | rfl | rfl | rfl | rfl | rfl | rfl | rfl | rfl | rfl | rfl | rfl | rfl | rfl | rfl | rfl | rfl | rfl | rfl
                  · exact stable_isV _
                  · exact stable_isV _
                  · exact stable_isTx _
                  · exact stable_isV _
                  · exact stable_isV _
                  · exact stable_isEl _
                  · exact stable_isV _
                  · exact stable_isV _
                  · exact stable_isV _
                  · exact stable_isTx _
                  · exact stable_isV _
                  · exact stable_isV _
                  · exact stable_isEl _
                  · exact stable_isV _
                  · exact stable_isV _
                  · exact stable_isV _
                  · exact stable_isTx _
                  · exact stable_isV _
                  · exact stable_isV _
                  · exact stable_isEl _
                  · exact stable_isV _
                  · exact stable_isV _
                  · exact stable_isV _
                · refine ⟨?_, ?_, ?_, ?_, ?_, ?_, ?_, ?_, ?_, ?_, ?_, ?_, ?_, ?_, ?_, ?_, ?_, ?_, ?_, ?_, ?_, ?_, ?_, trivial⟩
                  · exact fun a wx hb hs hp => does_val (ev_move rfl ((hs 4 (by kernel_rfl)).trans rfl)) rfl
                  · exact fun a wx hb hs hp => does_val (ev_add rfl (eval_at (got (hp 0 101 (by kernel_rfl) rfl) rfl)) rfl (add_str (x := X0) (y := [106, 111, 105, 110, 32]) (by first | omega | (simp only [List.length_cons, List.length_nil]; omega)) hX1.symm)) rfl
                  · exact fun a wx hb hs hp => does_build (ws := joW) (by unfold joW txVs; go_simp; rfl) rfl
                  · exact fun a wx hb hs hp => does_val (ev_field rfl ((hs 1 (by kernel_rfl)).trans rfl) (pf13)) rfl
                  · exact fun a wx hb hs hp => does_val (ev_load rfl (got (hp 3 104 (by kernel_rfl) rfl) rfl) (load_int _) (below_cell G13.out (BX.out.trans (hb.mono BX.out.size)))) rfl
                  · exact fun a wx hb hs hp => does_index rfl (hp 2 103 (by kernel_rfl) rfl) rfl (got (hp 4 105 (by kernel_rfl) rfl) rfl) HK_join.out.1 (get_some (by have h9 : 0 ≤ p.join ∧ p.join ≤ 2 := HK_join.out; show p.join.toNat < 3; omega)) rfl
                  · exact fun a wx hb hs hp => does_loadS rfl (hp 5 106 (by kernel_rfl) rfl) rfl rfl
                  · exact fun a wx hb hs hp => does_val (ev_add rfl (eval_at (got (hp 1 102 (by kernel_rfl) rfl) rfl)) (eval_at (got (hp 6 107 (by kernel_rfl) rfl) rfl)) (add_str (x := X1) (y := joW.getD p.join.toNat []) (by first | omega | (simp only [List.length_cons, List.length_nil]; omega)) hX2.symm)) rfl
                  · exact fun a wx hb hs hp => does_val (ev_add rfl (eval_at (got (hp 7 108 (by kernel_rfl) rfl) rfl)) rfl (add_str (x := X2) (y := [32, 59, 10, 104, 105, 115, 116, 111, 114, 121, 32]) (by first | omega | (simp only [List.length_cons, List.length_nil]; omega)) hX3.symm)) rfl
                  · exact fun a wx hb hs hp => does_build (ws := hiW) (by unfold hiW txVs; go_simp; rfl) rfl
                  · exact fun a wx hb hs hp => does_val (ev_field rfl ((hs 1 (by kernel_rfl)).trans rfl) (pf14)) rfl
                  · exact fun a wx hb hs hp => does_val (ev_load rfl (got (hp 10 111 (by kernel_rfl) rfl) rfl) (load_int _) (below_cell G14.out (BX.out.trans (hb.mono BX.out.size)))) rfl
                  · exact fun a wx hb hs hp => does_index rfl (hp 9 110 (by kernel_rfl) rfl) rfl (got (hp 11 112 (by kernel_rfl) rfl) rfl) HK_history.out.1 (get_some (by have h9 : 0 ≤ p.history ∧ p.history ≤ 1 := HK_history.out; show p.history.toNat < 2; omega)) rfl
                  · exact fun a wx hb hs hp => does_loadS rfl (hp 12 113 (by kernel_rfl) rfl) rfl rfl
                  · exact fun a wx hb hs hp => does_val (ev_add rfl (eval_at (got (hp 8 109 (by kernel_rfl) rfl) rfl)) (eval_at (got (hp 13 114 (by kernel_rfl) rfl) rfl)) (add_str (x := X3) (y := hiW.getD p.history.toNat []) (by first | omega | (simp only [List.length_cons, List.length_nil]; omega)) hX4.symm)) rfl
                  · exact fun a wx hb hs hp => does_val (ev_add rfl (eval_at (got (hp 14 115 (by kernel_rfl) rfl) rfl)) rfl (add_str (x := X4) (y := [32, 59, 10, 114, 101, 109, 111, 118, 101, 32]) (by first | omega | (simp only [List.length_cons, List.length_nil]; omega)) hX5.symm)) rfl
                  · exact fun a wx hb hs hp => does_build (ws := reW) (by unfold reW txVs; go_simp; rfl) rfl
                  · exact fun a wx hb hs hp => does_val (ev_field rfl ((hs 1 (by kernel_rfl)).trans rfl) (pf15)) rfl
                  · exact fun a wx hb hs hp => does_val (ev_load rfl (got (hp 17 118 (by kernel_rfl) rfl) rfl) (load_int _) (below_cell G15.out (BX.out.trans (hb.mono BX.out.size)))) rfl
                  · exact fun a wx hb hs hp => does_index rfl (hp 16 117 (by kernel_rfl) rfl) rfl (got (hp 18 119 (by kernel_rfl) rfl) rfl) HK_remove.out.1 (get_some (by have h9 : 0 ≤ p.remove ∧ p.remove ≤ 1 := HK_remove.out; show p.remove.toNat < 2; omega)) rfl
                  · exact fun a wx hb hs hp => does_loadS rfl (hp 19 120 (by kernel_rfl) rfl) rfl rfl
                  · exact fun a wx hb hs hp => does_val (ev_add rfl (eval_at (got (hp 15 116 (by kernel_rfl) rfl) rfl)) (eval_at (got (hp 20 121 (by kernel_rfl) rfl) rfl)) (add_str (x := X5) (y := reW.getD p.remove.toNat []) (by first | omega | (simp only [List.length_cons, List.length_nil]; omega)) hX6.symm)) rfl
                  · exact fun a wx hb hs hp => does_val (ev_assign rfl (got (hp 21 122 (by kernel_rfl) rfl) rfl)) rfl
                · intro vs w7 b7 hv
                  have hvN := hv 22 (by simp)
                  simp only [putsFrom, Act.put, List.setIfInBounds_toArray, List.set_cons_zero, List.set_cons_succ]
                  rw [show vs 22 = .string (bs X6) from hvN]
                  go_wp2
                  go_meet
                  exact ⟨by rw [HX9.out], Lib.hid (BX.out.trans (b7.mono BX.out.size))⟩
              case rest =>
                obtain ⟨rfl, BY⟩ := hcut
                clear BX
                have BX := BY
                clear BY
                go_upto_region 16 with fail
                go_cut [4] from 123 to 130 (fun v wx => v = .string (bs (pr6 p)) ∧ Hid (Below w1.heap.size w1 wx))
                case first =>
                  obtain ⟨X0, hX0⟩ : ∃ q, q = pr5 p := ⟨_, rfl⟩
                  have l0 : X0.length ≤ 1000 := by rw [hX0]; exact len5 HRT.out
                  obtain ⟨X1, hX1⟩ : ∃ q, q = X0 ++ [32, 59, 10, 114, 101, 99, 101, 105, 112, 116, 115, 32] := ⟨_, rfl⟩
                  have l1 : X1.length ≤ 1012 := by rw [hX1]; simp only [List.length_append, List.length_cons, List.length_nil]; omega
                  have lP2 : List.length (leW.getD p.level.toNat []) ≤ 40 := wlen_leW _
                  obtain ⟨X2, hX2⟩ : ∃ q, q = X1 ++ leW.getD p.level.toNat [] := ⟨_, rfl⟩
                  have l2 : X2.length ≤ 1052 := by rw [hX2]; simp only [List.length_append]; omega
                  rw [← hX0]
                  have HX9 := Lib.hid (show X2 = pr6 p by rw [hX2, hX1, hX0]; rfl)
                  refine region_flow [isV (.string (bs X0)), isV (.string (bs X1)), isTx leW, isV (.pointer (some ⟨w.heap.size, 16, none⟩)), isV (.int .i64 p.level), isEl (leW.getD p.level.toNat []), isV (.string (bs (leW.getD p.level.toNat []))), isV (.string (bs X2)), isV (.string (bs X2))] (by kernel_rfl) (by kernel_rfl) ?_ ?_ ?_
                  · intro V hV
                    simp only [List.mem_cons, List.mem_nil_iff, or_false] at hV
                    rcases hV with rfl | rfl | rfl | rfl | rfl | rfl | rfl | rfl | rfl
                    · exact stable_isV _
                    · exact stable_isV _
                    · exact stable_isTx _
                    · exact stable_isV _
                    · exact stable_isV _
                    · exact stable_isEl _
                    · exact stable_isV _
                    · exact stable_isV _
                    · exact stable_isV _
                  · refine ⟨?_, ?_, ?_, ?_, ?_, ?_, ?_, ?_, ?_, trivial⟩
                    · exact fun a wx hb hs hp => does_val (ev_move rfl ((hs 4 (by kernel_rfl)).trans rfl)) rfl
                    · exact fun a wx hb hs hp => does_val (ev_add rfl (eval_at (got (hp 0 123 (by kernel_rfl) rfl) rfl)) rfl (add_str (x := X0) (y := [32, 59, 10, 114, 101, 99, 101, 105, 112, 116, 115, 32]) (by first | omega | (simp only [List.length_cons, List.length_nil]; omega)) hX1.symm)) rfl
                    · exact fun a wx hb hs hp => .inr ⟨_, #[], ev_call0 (enters_of Tryz.func26 (by kernel_rfl) rfl), (y_levels (w := wx)).mono fun e w' ⟨h1, h2⟩ => ⟨_, h1, by rw [h2]; exact (Below.refl _ _).alloc (Nat.le_refl _) _, wx.heap.size, rfl, fun k z hz => by rw [h2]; exact words_cell wx hz⟩⟩
                    · exact fun a wx hb hs hp => does_val (ev_field rfl ((hs 1 (by kernel_rfl)).trans rfl) (pf16)) rfl
                    · exact fun a wx hb hs hp => does_val (ev_load rfl (got (hp 3 126 (by kernel_rfl) rfl) rfl) (load_int _) (below_cell G16.out (BX.out.trans (hb.mono BX.out.size)))) rfl
                    · exact fun a wx hb hs hp => does_index rfl (hp 2 125 (by kernel_rfl) rfl) rfl (got (hp 4 127 (by kernel_rfl) rfl) rfl) HK_level.out.1 (get_some (by have h9 : 0 ≤ p.level ∧ p.level ≤ 4 := HK_level.out; show p.level.toNat < 5; omega)) rfl
                    · exact fun a wx hb hs hp => does_loadS rfl (hp 5 128 (by kernel_rfl) rfl) rfl rfl
                    · exact fun a wx hb hs hp => does_val (ev_add rfl (eval_at (got (hp 1 124 (by kernel_rfl) rfl) rfl)) (eval_at (got (hp 6 129 (by kernel_rfl) rfl) rfl)) (add_str (x := X1) (y := leW.getD p.level.toNat []) (by first | omega | (simp only [List.length_cons, List.length_nil]; omega)) hX2.symm)) rfl
                    · exact fun a wx hb hs hp => does_val (ev_assign rfl (got (hp 7 130 (by kernel_rfl) rfl) rfl)) rfl
                  · intro vs w7 b7 hv
                    have hvN := hv 8 (by simp)
                    simp only [putsFrom, Act.put, List.setIfInBounds_toArray, List.set_cons_zero, List.set_cons_succ]
                    rw [show vs 8 = .string (bs X2) from hvN]
                    go_wp2
                    go_meet
                    exact ⟨by rw [HX9.out], Lib.hid (BX.out.trans (b7.mono BX.out.size))⟩
                case rest =>
                  obtain ⟨rfl, BY⟩ := hcut
                  clear BX
                  have BX := BY
                  clear BY
                  have f17 := below_cell G17.out BX.out
                  go_upto_if 132 with fail
                  go_cut [4] from 131 to 134 (fun v wx => v = .string (bs (pr7 p)) ∧ Hid (Below w1.heap.size w1 wx))
                  case first =>
                    by_cases h : p.batch = true
                    · rw [h]
                      clear f17
                      obtain ⟨X0, hX0⟩ : ∃ q, q = pr6 p := ⟨_, rfl⟩
                      have l0 : X0.length ≤ 1000 := by rw [hX0]; exact len6 HRT.out
                      obtain ⟨X1, hX1⟩ : ∃ q, q = X0 ++ [32, 98, 97, 116, 99, 104] := ⟨_, rfl⟩
                      have l1 : X1.length ≤ 1006 := by rw [hX1]; simp only [List.length_append, List.length_cons, List.length_nil]; omega
                      rw [← hX0]
                      have HX9 := Lib.hid (show X1 = pr7 p by rw [hX1, hX0]; exact (pr7_yes h).symm)
                      have z0 := bs_size X0
                      have z1 := bs_size X1
                      have e1 : bs X0 ++ ({ data := #[32, 98, 97, 116, 99, 104] } : ByteArray) = bs X1 := by rw [hX1]; exact bs_append _ _
                      clear hX0 hX1
                      go_wp2
                      go_meet
                      exact ⟨by rw [HX9.out], BX⟩
                    · have hb : p.batch = false := by simpa using h
                      rw [hb]
                      clear f17
                      have HN9 := Lib.hid (pr7_no h)
                      clear h
                      go_wp2
                      go_meet
                      exact ⟨by rw [HN9.out], BX⟩
                  case rest =>
                    obtain ⟨rfl, BY⟩ := hcut
                    clear BX f17
                    have BX := BY
                    clear BY
                    go_upto_region 19 with fail
                    go_cut [4] from 135 to 151 (fun v wx => v = .string (bs (pr8 p)) ∧ Hid (Below w1.heap.size w1 wx))
                    case first =>
                      obtain ⟨X0, hX0⟩ : ∃ q, q = pr7 p := ⟨_, rfl⟩
                      have l0 : X0.length ≤ 1000 := by rw [hX0]; exact len7 HRT.out
                      obtain ⟨X1, hX1⟩ : ∃ q, q = X0 ++ [32, 59, 10, 114, 97, 116, 101, 32] := ⟨_, rfl⟩
                      have l1 : X1.length ≤ 1008 := by rw [hX1]; simp only [List.length_append, List.length_cons, List.length_nil]; omega
                      have lP2 : List.length (Lib.decDigits p.rate.toNat) ≤ 40 := Nat.le_trans (dec10 HN_rate.out.2) (by omega)
                      obtain ⟨X2, hX2⟩ : ∃ q, q = X1 ++ Lib.decDigits p.rate.toNat := ⟨_, rfl⟩
                      have l2 : X2.length ≤ 1048 := by rw [hX2]; simp only [List.length_append]; omega
                      obtain ⟨X3, hX3⟩ : ∃ q, q = X2 ++ [32, 100, 111, 119, 110, 32] := ⟨_, rfl⟩
                      have l3 : X3.length ≤ 1054 := by rw [hX3]; simp only [List.length_append, List.length_cons, List.length_nil]; omega
                      have lP4 : List.length (Lib.decDigits p.down.toNat) ≤ 40 := Nat.le_trans (dec10 HN_down.out.2) (by omega)
                      obtain ⟨X4, hX4⟩ : ∃ q, q = X3 ++ Lib.decDigits p.down.toNat := ⟨_, rfl⟩
                      have l4 : X4.length ≤ 1094 := by rw [hX4]; simp only [List.length_append]; omega
                      obtain ⟨X5, hX5⟩ : ∃ q, q = X4 ++ [32, 111, 102, 32] := ⟨_, rfl⟩
                      have l5 : X5.length ≤ 1098 := by rw [hX5]; simp only [List.length_append, List.length_cons, List.length_nil]; omega
                      have lP6 : List.length (Lib.decDigits p.window.toNat) ≤ 40 := Nat.le_trans (dec10 HN_window.out.2) (by omega)
                      obtain ⟨X6, hX6⟩ : ∃ q, q = X5 ++ Lib.decDigits p.window.toNat := ⟨_, rfl⟩
                      have l6 : X6.length ≤ 1138 := by rw [hX6]; simp only [List.length_append]; omega
                      obtain ⟨X7, hX7⟩ : ∃ q, q = X6 ++ [32, 59, 10] := ⟨_, rfl⟩
                      have l7 : X7.length ≤ 1141 := by rw [hX7]; simp only [List.length_append, List.length_cons, List.length_nil]; omega
                      rw [← hX0]
                      have HX9 := Lib.hid (show X7 = pr8 p by rw [hX7, hX6, hX5, hX4, hX3, hX2, hX1, hX0]; rfl)
                      refine region_flow [isV (.string (bs X0)), isV (.string (bs X1)), isV (.pointer (some ⟨w.heap.size, 18, none⟩)), isV (.int .i64 p.rate), isV (.string (bs (Lib.decDigits p.rate.toNat))), isV (.string (bs X2)), isV (.string (bs X3)), isV (.pointer (some ⟨w.heap.size, 19, none⟩)), isV (.int .i64 p.down), isV (.string (bs (Lib.decDigits p.down.toNat))), isV (.string (bs X4)), isV (.string (bs X5)), isV (.pointer (some ⟨w.heap.size, 20, none⟩)), isV (.int .i64 p.window), isV (.string (bs (Lib.decDigits p.window.toNat))), isV (.string (bs X6)), isV (.string (bs X7)), isV (.string (bs X7))] (by kernel_rfl) (by kernel_rfl) ?_ ?_ ?_
                      · intro V hV
                        simp only [List.mem_cons, List.mem_nil_iff, or_false] at hV
                        rcases hV with rfl | rfl | rfl | rfl | rfl | rfl | rfl | rfl | rfl | rfl | rfl | rfl | rfl | rfl | rfl | rfl | rfl | rfl
                        · exact stable_isV _
                        · exact stable_isV _
                        · exact stable_isV _
                        · exact stable_isV _
                        · exact stable_isV _
                        · exact stable_isV _
                        · exact stable_isV _
                        · exact stable_isV _
                        · exact stable_isV _
                        · exact stable_isV _
                        · exact stable_isV _
                        · exact stable_isV _
                        · exact stable_isV _
                        · exact stable_isV _
                        · exact stable_isV _
                        · exact stable_isV _
                        · exact stable_isV _
                        · exact stable_isV _
                      · refine ⟨?_, ?_, ?_, ?_, ?_, ?_, ?_, ?_, ?_, ?_, ?_, ?_, ?_, ?_, ?_, ?_, ?_, ?_, trivial⟩
                        · exact fun a wx hb hs hp => does_val (ev_move rfl ((hs 4 (by kernel_rfl)).trans rfl)) rfl
                        · exact fun a wx hb hs hp => does_val (ev_add rfl (eval_at (got (hp 0 135 (by kernel_rfl) rfl) rfl)) rfl (add_str (x := X0) (y := [32, 59, 10, 114, 97, 116, 101, 32]) (by first | omega | (simp only [List.length_cons, List.length_nil]; omega)) hX1.symm)) rfl
                        · exact fun a wx hb hs hp => does_val (ev_field rfl ((hs 1 (by kernel_rfl)).trans rfl) (pf18)) rfl
                        · exact fun a wx hb hs hp => does_val (ev_load rfl (got (hp 2 137 (by kernel_rfl) rfl) rfl) (load_int _) (below_cell G18.out (BX.out.trans (hb.mono BX.out.size)))) rfl
                        · exact fun a wx hb hs hp => does_call (ev_call1 (got (hp 3 138 (by kernel_rfl) rfl) rfl) (enters_of Tryz.func30 (by kernel_rfl) rfl)) (num_ok (w := wx) HN_rate.out) rfl
                        · exact fun a wx hb hs hp => does_val (ev_add rfl (eval_at (got (hp 1 136 (by kernel_rfl) rfl) rfl)) (eval_at (got (hp 4 139 (by kernel_rfl) rfl) rfl)) (add_str (x := X1) (y := Lib.decDigits p.rate.toNat) (by first | omega | (simp only [List.length_cons, List.length_nil]; omega)) hX2.symm)) rfl
                        · exact fun a wx hb hs hp => does_val (ev_add rfl (eval_at (got (hp 5 140 (by kernel_rfl) rfl) rfl)) rfl (add_str (x := X2) (y := [32, 100, 111, 119, 110, 32]) (by first | omega | (simp only [List.length_cons, List.length_nil]; omega)) hX3.symm)) rfl
                        · exact fun a wx hb hs hp => does_val (ev_field rfl ((hs 1 (by kernel_rfl)).trans rfl) (pf19)) rfl
                        · exact fun a wx hb hs hp => does_val (ev_load rfl (got (hp 7 142 (by kernel_rfl) rfl) rfl) (load_int _) (below_cell G19.out (BX.out.trans (hb.mono BX.out.size)))) rfl
                        · exact fun a wx hb hs hp => does_call (ev_call1 (got (hp 8 143 (by kernel_rfl) rfl) rfl) (enters_of Tryz.func30 (by kernel_rfl) rfl)) (num_ok (w := wx) HN_down.out) rfl
                        · exact fun a wx hb hs hp => does_val (ev_add rfl (eval_at (got (hp 6 141 (by kernel_rfl) rfl) rfl)) (eval_at (got (hp 9 144 (by kernel_rfl) rfl) rfl)) (add_str (x := X3) (y := Lib.decDigits p.down.toNat) (by first | omega | (simp only [List.length_cons, List.length_nil]; omega)) hX4.symm)) rfl
                        · exact fun a wx hb hs hp => does_val (ev_add rfl (eval_at (got (hp 10 145 (by kernel_rfl) rfl) rfl)) rfl (add_str (x := X4) (y := [32, 111, 102, 32]) (by first | omega | (simp only [List.length_cons, List.length_nil]; omega)) hX5.symm)) rfl
                        · exact fun a wx hb hs hp => does_val (ev_field rfl ((hs 1 (by kernel_rfl)).trans rfl) (pf20)) rfl
                        · exact fun a wx hb hs hp => does_val (ev_load rfl (got (hp 12 147 (by kernel_rfl) rfl) rfl) (load_int _) (below_cell G20.out (BX.out.trans (hb.mono BX.out.size)))) rfl
                        · exact fun a wx hb hs hp => does_call (ev_call1 (got (hp 13 148 (by kernel_rfl) rfl) rfl) (enters_of Tryz.func30 (by kernel_rfl) rfl)) (num_ok (w := wx) HN_window.out) rfl
                        · exact fun a wx hb hs hp => does_val (ev_add rfl (eval_at (got (hp 11 146 (by kernel_rfl) rfl) rfl)) (eval_at (got (hp 14 149 (by kernel_rfl) rfl) rfl)) (add_str (x := X5) (y := Lib.decDigits p.window.toNat) (by first | omega | (simp only [List.length_cons, List.length_nil]; omega)) hX6.symm)) rfl
                        · exact fun a wx hb hs hp => does_val (ev_add rfl (eval_at (got (hp 15 150 (by kernel_rfl) rfl) rfl)) rfl (add_str (x := X6) (y := [32, 59, 10]) (by first | omega | (simp only [List.length_cons, List.length_nil]; omega)) hX7.symm)) rfl
                        · exact fun a wx hb hs hp => does_val (ev_assign rfl (got (hp 16 151 (by kernel_rfl) rfl) rfl)) rfl
                      · intro vs w7 b7 hv
                        have hvN := hv 17 (by simp)
                        simp only [putsFrom, Act.put, List.setIfInBounds_toArray, List.set_cons_zero, List.set_cons_succ]
                        rw [show vs 17 = .string (bs X7) from hvN]
                        go_wp2
                        go_meet
                        exact ⟨by rw [HX9.out], Lib.hid (BX.out.trans (b7.mono BX.out.size))⟩
                    case rest =>
                      obtain ⟨rfl, BY⟩ := hcut
                      clear BX
                      have BX := BY
                      clear BY
                      have f21 := below_cell G21.out BX.out
                      go_upto_if 154 with fail
                      go_cut [4] from 152 to 161 (fun v wx => v = .string (bs (pr9 p)) ∧ Hid (Below w1.heap.size w1 wx))
                      case first =>
                        by_cases h : p.keep = 0
                        · have hb : (p.keep != 0) = false := by rw [h]; rfl
                          have HN9 := Lib.hid (pr9_no h)
                          clear h
                          rw [hb]
                          clear hb f21
                          go_wp2
                          go_meet
                          exact ⟨by rw [HN9.out], BX⟩
                        · have hb : (p.keep != 0) = true := by simpa using h
                          rw [hb]
                          clear hb
                          obtain ⟨X0, hX0⟩ : ∃ q, q = pr8 p := ⟨_, rfl⟩
                          have l0 : X0.length ≤ 1000 := by rw [hX0]; exact len8 HRT.out
                          obtain ⟨X1, hX1⟩ : ∃ q, q = X0 ++ [107, 101, 101, 112, 32] := ⟨_, rfl⟩
                          have l1 : X1.length ≤ 1005 := by rw [hX1]; simp only [List.length_append, List.length_cons, List.length_nil]; omega
                          have lP2 : List.length (Lib.decDigits p.keep.toNat) ≤ 40 := Nat.le_trans (dec10 HN_keep.out.2) (by omega)
                          obtain ⟨X2, hX2⟩ : ∃ q, q = X1 ++ Lib.decDigits p.keep.toNat := ⟨_, rfl⟩
                          have l2 : X2.length ≤ 1045 := by rw [hX2]; simp only [List.length_append]; omega
                          obtain ⟨X3, hX3⟩ : ∃ q, q = X2 ++ [32, 59, 10] := ⟨_, rfl⟩
                          have l3 : X3.length ≤ 1048 := by rw [hX3]; simp only [List.length_append, List.length_cons, List.length_nil]; omega
                          rw [← hX0]
                          have HX9 := Lib.hid (show X3 = pr9 p by rw [hX3, hX2, hX1, hX0]; exact (pr9_yes h).symm)
                          have z0 := bs_size X0
                          have z1 := bs_size X1
                          have e1 : bs X0 ++ ({ data := #[107, 101, 101, 112, 32] } : ByteArray) = bs X1 := by rw [hX1]; exact bs_append _ _
                          have zP2 := bs_size (Lib.decDigits p.keep.toNat)
                          have z2 := bs_size X2
                          have e2 : bs X1 ++ bs (Lib.decDigits p.keep.toNat) = bs X2 := by rw [hX2]; exact bs_append _ _
                          have z3 := bs_size X3
                          have e3 : bs X2 ++ ({ data := #[32, 59, 10] } : ByteArray) = bs X3 := by rw [hX3]; exact bs_append _ _
                          clear hX0 hX1 hX2 hX3
                          have HC := Lib.hid (fun w => num_ok (w := w) HN_keep.out)
                          go_wp2_with (go_at_call 30; refine (HC.out _).mono ?_; rintro e w9 ⟨rfl, rfl⟩)
                          go_meet
                          exact ⟨by rw [HX9.out], BX⟩
                      case rest =>
                        obtain ⟨rfl, BY⟩ := hcut
                        clear BX f21
                        have BX := BY
                        clear BY
                        have HP := Lib.hid (show printS p = (pr9 p, 0) by rw [printS_right HRT.out, prs_text HRT.out])
                        have l9 := len9 HRT.out
                        have z9 := bs_size (pr9 p)
                        have hlt : ¬ (2000 : Int) < ((pr9 p).length : Int) := by omega
                        go_wp2
                        go_ret2
                        exact ⟨by rw [HP.out]; rfl, HB0.out.trans (BX.out.mono HB0.out.size)⟩
  · have HP := Lib.hid (printS_wrong hrt)
    rw [decide_eq_false hrt] at HR
    go_wp2_with (go_at_call 12; refine (HR.out).mono ?_; rintro e w9 ⟨rfl, b9⟩)
    go_ret2
    exact ⟨by rw [HP.out]; rfl, HB0.out.trans (b9.mono HB0.out.size)⟩
end Go.Proofs.YtlefgffnjcmfoaaGreatDoor
