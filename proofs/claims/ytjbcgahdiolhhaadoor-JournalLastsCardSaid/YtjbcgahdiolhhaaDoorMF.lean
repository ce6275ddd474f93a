/- What JournalLasts keeps beside the disk and the journal: two lists, which may be one, and the operation in work. -/
import Derived.Test.YtjbcgahdiolhhaaDoorME
import Derived.Test.YtjbcgahdiolhhaaDoorMB
import Derived.Deep.Upon
namespace Go.Proofs.YtjbcgahdiolhhaaDoor.D2
open Go.RowKit Go.Maps Go.ChangeMaps Go.MapKept
open Dp Jp
attribute [local go_sem ↓] Go.wp_at_zero Go.wp_at_succ

/-- Two lists of strings, which may lie in one block. -/
def Ob.pair (va vs : Value) (la ls : List (List UInt8)) : Ob where
  In w lab id := (Ob.own 9 va (strVs la)).In w lab id ∧ (Ob.own 9 vs (strVs ls)).In w lab id
  kept := fun ⟨h1, h2⟩ lo hl hb => ⟨(Ob.own 9 _ _).kept h1 lo hl hb, (Ob.own 9 _ _).kept h2 lo hl hb⟩
/-- An operation in a block of its own. -/
def Ob.op (p : Nat) (x : Op1) (vk : Value) : Ob where
  In w lab id := OCells w p 0 x vk ∧ p < w.heap.size ∧ lab p = id
  kept := fun {w w' lab lab' id} ⟨h, hp, hl⟩ lo hll hb => by
    have hbp := hb p hp (by omega) (by omega)
    have hc : ∀ j, w'.cell? ⟨p, j, none⟩ = w.cell? ⟨p, j, none⟩ := fun j => by simp only [World.cell?, hbp]
    refine ⟨⟨(hc _).trans h.c0, (hc _).trans h.c1, (hc _).trans h.c2, (hc _).trans h.c3⟩, ?_, (hll p hp).trans hl⟩
    rcases Nat.lt_or_ge p w'.heap.size with h1 | h1
    · exact h1
    · have h2 : w'.heap[p]? = none := Array.getElem?_eq_none h1
      rw [hbp] at h2
      have := Array.getElem?_eq_none_iff.1 h2
      omega
section
variable {w0 w w' : World} {os : List Ob} {i k b d : Nat} {D : Dk} {J : Jn} {va vs v : Value} {la ls l : List (List UInt8)}
/-- A list that has been made takes the place of one of the two, or of both. -/
theorem OMem.pair_set (h : OMem w0 w os) (hi : os[i]? = some (.pair va vs la ls)) (hb : Below w.heap.size w w') (hf : w'.ownsRow 0 9 1 v (strVs l).length (strVs l)) (hn : ∀ k, v.ownBlock = some k → w.heap.size ≤ k) :
    OMem w0 w' (os.set i (.pair v vs l ls)) ∧ OMem w0 w' (os.set i (.pair va v la l)) ∧ OMem w0 w' (os.set i (.pair v v l l)) := by
  obtain ⟨lab, h⟩ := h
  obtain ⟨h1, h2⟩ := h.at_ i _ hi
  have lo : LabOk (relab lab w v (64 * (i + 1))) w' := fun x hx => by
    unfold relab
    rw [if_neg (by have := hb.size; omega), if_neg (fun q => by have := (hf.lt x q).2; omega)]
  have k : Chg (64 * (i + 1)) lab (relab lab w v (64 * (i + 1))) w w' := ⟨hb.os, hb.tape, hb.output, hb.size, fun x hx => by simp [relab, hx], fun x hx _ => hb.block x hx, fun x hx => by
    unfold relab
    rw [if_neg (by omega)]
    split
    · exact .inr ⟨by omega, by omega⟩
    · exact .inl rfl⟩
  have g1 := (Ob.own 9 va (strVs la)).kept h1 lo (fun x hx => by simp [relab, hx]) fun x hx _ _ => hb.block x hx
  have g2 := (Ob.own 9 vs (strVs ls)).kept h2 lo (fun x hx => by simp [relab, hx]) fun x hx _ _ => hb.block x hx
  have g3 : (Ob.own 9 v (strVs l)).In w' (relab lab w v (64 * (i + 1))) (64 * (i + 1)) := ⟨hf, fun k hk => by
    unfold relab
    rw [if_neg (by have := hn k hk; omega), if_pos hk]⟩
  exact ⟨⟨_, h.set (o' := .pair v vs l ls) ⟨g3, g2⟩ lo k⟩, ⟨_, h.set (o' := .pair va v la l) ⟨g1, g3⟩ lo k⟩, ⟨_, h.set (o' := .pair v v l l) ⟨g3, g3⟩ lo k⟩⟩
theorem OMem.pair_nil (h : OMem w0 w os) : OMem w0 w (os ++ [.pair (.slice none 0 0) (.slice none 0 0) [] []]) := by
  obtain ⟨lab, h⟩ := h
  have lo := h.lo
  refine ⟨lab, h.push ⟨⟨World.ownsRow_nil _ _ _ _, fun k hk => by cases hk⟩, ⟨World.ownsRow_nil _ _ _ _, fun k hk => by cases hk⟩⟩ lo ⟨rfl, rfl, rfl, Nat.le_refl _, fun _ _ => rfl, fun _ _ _ => rfl, fun x hx => .inl (lo x hx)⟩⟩
theorem OMem.pair_at (h : OMem w0 w os) (hi : os[i]? = some (.pair va vs la ls)) : w.ownsRow 0 9 1 va la.length (strVs la) ∧ w.ownsRow 0 9 1 vs ls.length (strVs ls) := by
  obtain ⟨lab, h⟩ := h
  obtain ⟨h1, h2⟩ := h.at_ i _ hi
  have e1 := h1.1
  have e2 := h2.1
  rw [strVs_length] at e1 e2
  exact ⟨e1, e2⟩
theorem texts_own (h : w.ownsRow 0 9 1 v l.length (strVs l)) : TextsAt w v l := by
  obtain ⟨a, cap, e1, e2⟩ := listFrom_own (lo := 0) (f := fun z : List UInt8 => Value.string (bs z)) h
  refine ⟨a, cap, e1, ?_⟩
  rcases e2 with h2 | ⟨b, h3, _, h5, h6⟩
  · exact .inl h2
  · exact .inr ⟨b, 0, h3, h5, fun k hk => by rw [Nat.zero_add, List.getD_eq_getElem?_getD, List.getElem?_eq_getElem hk]; exact h6 k _ (List.getElem?_eq_getElem hk)⟩
/-- An operation in a new block. -/
theorem OMem.op_new (h : OMem w0 w os) (hb : Below w.heap.size w w') {p : Nat} {x : Op1} {vk : Value} (hc : OCells w' p 0 x vk) (hp : w.heap.size ≤ p) (hp' : p < w'.heap.size) : OMem w0 w' (os ++ [.op p x vk]) := by
  obtain ⟨lab, h⟩ := h
  have lo : LabOk (fun y => if y = p then 64 * (os.length + 1) else lab y) w' := fun y hy => by
    show (if y = p then _ else lab y) = 0
    rw [if_neg (by omega)]
    exact h.lo y (by have := hb.size; omega)
  refine ⟨_, h.push (o' := .op p x vk) (lab' := fun y => if y = p then 64 * (os.length + 1) else lab y) ⟨hc, hp', if_pos rfl⟩ lo ⟨hb.os, hb.tape, hb.output, hb.size, fun y hy => ?_, fun y hy _ => hb.block y hy, fun y hy => ?_⟩⟩
  · exact if_neg (by omega)
  · show (if y = p then _ else lab y) = 0 ∨ _
    by_cases h1 : y = p
    · right
      simp only [h1, if_true]
      omega
    · left
      rw [if_neg h1]
      exact h.lo y hy
theorem OMem.op_at (h : OMem w0 w os) {p : Nat} {x : Op1} {vk : Value} (hi : os[i]? = some (.op p x vk)) : OCells w p 0 x vk := by
  obtain ⟨lab, h⟩ := h
  exact (h.at_ i _ hi).1
/-- All: the copy in a new block. -/
theorem o_all_raw (h : OMem w0 w os) (hk : os[k]? = some (.jour b d J)) :
    Calls Tryd.prog 13 #[.pointer (some ⟨b, 0, none⟩)] w fun e w' => ∃ v, e = .returned v ∧ w'.ownsRow 0 9 1 v J.l.length (strVs J.l) ∧ (∀ k, v.ownBlock = some k → w.heap.size ≤ k) ∧ Below w.heap.size w w' := by
  obtain ⟨v, hc⟩ := h.jour hk
  have c2 := hc.c2
  have hsz := hc.size
  have hfc := forms_count J.l
  have HX := Lib.hid (cloneT v J.l.length (strVs J.l) w (SrcIs.of_own hc.row (oneCell_strs _)) (by omega))
  clear h hc hsz hfc
  go_enter Tryd.func13, Tryd.ntmps13
  go_wp2_with (go_at_call 38; refine HX.out.mono ?_; rintro e w1 ⟨v1, rfl, f1, b1⟩)
  go_ret
  exact ⟨v1, rfl, f1.1, f1.2, b1⟩
theorem OMem.jsize (h : OMem w0 w os) (hk : os[k]? = some (.jour b d J)) : J.l.length ≤ 16777216 := by
  obtain ⟨v, hc⟩ := h.jour hk
  have := hc.size
  have := forms_count J.l
  omega
end
theorem wpList_append_run_g {P : Program} {ops : Array Oper} {rest : List Oper} {o : Oper} {a : Act} {w : World} {Q : Exit → Act → World → Prop} (hw : Region.wanted o (yielded ops a.tmps) = true) (s x : Operand) (t tn : TypeId) (ho : o.op = .call { callee := .builtin .append, args := #[s, x], argTypes := #[t, tn] }) (vs vx : Value) (hs : a.eval s = vs) (hx : a.eval x = vx)
    (v' : Value) (w' : World) (hr : (Builtin.append_ #[t, tn] o.type #[vs, vx]).run P w = .ok v' w') (h : wpList P ops Q rest (a.put o.dst v') w') : wpList P ops Q (o :: rest) a w :=
  wpList_step fun K hK => by rw [if_pos hw]; exact Lib.wp_append_run w s x t tn ho vs vx hs hx v' w' hr (hK _ _ h)
/-- append of what another slice of strings holds. -/
theorem run_append_strs (w : World) (v u : Value) (n : Nat) (xs : List Value) (l : List (List UInt8)) (hv : w.ownsRow 0 9 1 v n xs) (hu : w.ownsRow 0 9 1 u l.length (strVs l)) (hn : n + l.length ≤ 100000000) :
    ∃ v' w', (Builtin.append_ #[32, 32] 32 #[v, u]).run Tryd.prog w = .ok v' w' ∧ w'.ownsRow 0 9 1 v' (n + l.length) (xs ++ strVs l) ∧ w.grownBy w' v.ownBlock ∧ (v'.ownBlock = v.ownBlock ∨ ∀ k, v'.ownBlock = some k → w.heap.size ≤ k) := by
  obtain ⟨i0, hi, hz0, hz1, hz2⟩ := info_parts string_info
  rcases hu.2 with ⟨rfl, h0⟩ | ⟨g, cap, cur, hv', _⟩
  · obtain rfl : l = [] := List.eq_nil_of_length_eq_zero h0
    obtain ⟨a, c, rfl⟩ := own_form hv
    have hnc : n ≤ c := by
      rcases hv.2 with ⟨h1, h2⟩ | ⟨g, cap, cur, h1, _, _, h4, _⟩
      · omega
      · cases h1; exact h4
    refine ⟨_, w, run_append_nothing w _ _ _ _ i0 Tryd.underlying32 hi a n c hnc _ (Src.ofNil (w := w) Tryd.underlying32 0), by simpa [strVs] using hv, ⟨rfl, rfl, rfl, Nat.le_refl _, fun _ _ _ => rfl⟩, .inl rfl⟩
  · subst hv'
    obtain ⟨v', w', h1, h2, h3, _, h5⟩ := run_append_own_at (P := Tryd.prog) w 0 32 32 9 i0 (.string ⟨#[]⟩) 1 16 Tryd.underlying32 hi hz0 hz1 hz2 rfl (by decide) v n xs hv ⟨g, 0, none⟩ l.length cap (strVs l) (by rw [strVs_length]; omega) (fun j u hj => hu.cells (g := g) rfl j u hj) (oneCell_strs l) (by unfold maxLen; omega) (by omega) (Nat.zero_le _)
    exact ⟨v', w', h1, h2, h3, h5.imp id fun h k hk => by rw [h] at hk; cases hk; exact Nat.le_refl _⟩
/-- Onto an empty list that has been made. -/
theorem app1 {w7 w' : World} {e : Nat} {va : Value} {all : List (List UInt8)} (hb : Below w7.heap.size w7 w') (hE : w'.ownsRow 0 9 1 (.slice (some ⟨e, 0, none⟩) 0 0) 0 []) (he : w7.heap.size ≤ e) (hall : w7.ownsRow 0 9 1 va all.length (strVs all)) (hl : all.length ≤ 100000) :
    ∃ v1 wb, (Builtin.append_ #[32, 32] 32 #[.slice (some ⟨e, 0, none⟩) 0 0, va]).run Tryd.prog w' = .ok v1 wb ∧ wb.ownsRow 0 9 1 v1 all.length (strVs all) ∧ (∀ k, v1.ownBlock = some k → w7.heap.size ≤ k) ∧ Below w7.heap.size w7 wb ∧
      (∀ q, q < w'.heap.size → q ≠ e → wb.heap[q]? = w'.heap[q]?) ∧ w'.heap.size ≤ wb.heap.size := by
  obtain ⟨v1, wb, h1, h2, h3, h4⟩ := run_append_strs w' _ va 0 [] all hE (ownsRow_block (w' := w') hall fun k hk => hb.block k (hall.lt k hk).2) (by omega)
  rw [Nat.zero_add, List.nil_append] at h2
  refine ⟨v1, wb, h1, h2, fun k hk => ?_, hb.grown h3 hb.size (fun k hk => by cases hk; exact he), fun q hq hne => h3.block q hq (fun c => hne (by cases c; rfl)), h3.size⟩
  rcases h4 with h4 | h4
  · rw [h4] at hk; cases hk; exact he
  · have := h4 k hk; have := hb.size; omega
theorem moved_cell {w1 w2 : World} {q : Nat} {v : Value} (h : w1.cell? ⟨q, 0, none⟩ = some v) (hk : w2.heap[q]? = w1.heap[q]?) : w2.cell? ⟨q, 0, none⟩ = some v := by
  unfold World.cell? at *
  simp only [hk]
  exact h
/-- One string more. -/
theorem app2 {w7 w' : World} {q : Nat} {v1 : Value} {s : List UInt8} {all : List (List UInt8)} (hb : Below w7.heap.size w7 w') (ho : w'.ownsRow 0 9 1 v1 all.length (strVs all)) (hf : ∀ k, v1.ownBlock = some k → w7.heap.size ≤ k) (hq : w'.cell? ⟨q, 0, none⟩ = some (.string (bs s))) (hl : all.length ≤ 100000) :
    ∃ v2 wc, (Builtin.append_ #[32, 32] 32 #[v1, .slice (some ⟨q, 0, none⟩) 1 1]).run Tryd.prog w' = .ok v2 wc ∧ wc.ownsRow 0 9 1 v2 (strVs (all ++ [s])).length (strVs (all ++ [s])) ∧ (∀ k, v2.ownBlock = some k → w7.heap.size ≤ k) ∧ Below w7.heap.size w7 wc := by
  obtain ⟨i0, hi, hz0, hz1, hz2⟩ := info_parts string_info
  obtain ⟨v', w2, h1, h2, h3, _, h5⟩ := run_append_own_at (P := Tryd.prog) w' 0 32 32 9 i0 (.string ⟨#[]⟩) 1 16 Tryd.underlying32 hi hz0 hz1 hz2 rfl (by decide) v1 all.length _ ho ⟨q, 0, none⟩ 1 1 [.string (bs s)] rfl (fun j u hj => by
    match j, hj with
    | 0, hj => simp at hj; subst hj; rw [Lib.add_plain]; exact hq) (fun u hu => by simp at hu; subst hu; rfl) (by unfold maxLen; omega) (by omega) (Nat.zero_le _)
  refine ⟨v', w2, h1, by simpa [strVs] using h2, fun k hk => ?_, hb.grown h3 hb.size hf⟩
  rcases h5 with h5 | h5
  · exact hf k (h5.symm.trans hk)
  · have := h5.symm.trans hk; cases this; exact hb.size
/-- What is known at the head of a round. -/
structure Las (n : Nat) (D : Dk) (jx : Option (Nat × Jn)) (all sure : List (List UInt8)) : Prop where
  held : Held D 3 all sure
  small : ∀ r ∈ all, r.length ≤ 200
  few : all.length ≤ n
  jour : ∀ b J, jx = some (b, J) → J.file = 3 ∧ (J.bad = false → D.down = false ∧ D.now 3 = forms all ∧ J.l = all)
theorem Las.mono {n m : Nat} {D : Dk} {jx : Option (Nat × Jn)} {all sure : List (List UInt8)} (h : Las n D jx all sure) (hm : n ≤ m) : Las m D jx all sure := ⟨h.held, h.small, by have := h.few; omega, h.jour⟩
theorem Las.big {n : Nat} {D : Dk} {jx : Option (Nat × Jn)} {all sure : List (List UInt8)} (h : Las n D jx all sure) : ∀ r ∈ all, r.length ≤ 2000 := fun r hr => by have := h.small r hr; omega
theorem Las.lose {n : Nat} {D : Dk} {jx : Option (Nat × Jn)} {all sure : List (List UInt8)} (h : Las n D jx all sure) (k : Int) : Las n (D.lose k) jx all sure := ⟨h.held.of rfl rfl rfl, h.small, h.few, h.jour⟩
theorem Las.arm {n : Nat} {D : Dk} {jx : Option (Nat × Jn)} {all sure : List (List UInt8)} (h : Las n D jx all sure) (k : Int) (ks : List Int) : Las n (D.arm k ks) jx all sure := ⟨h.held.of rfl rfl rfl, h.small, h.few, h.jour⟩
theorem Las.crash {n : Nat} {D : Dk} {jx : Option (Nat × Jn)} {all sure : List (List UInt8)} (h : Las n D jx all sure) (ks : List Int) : Las n (D.crash ks) none all sure := ⟨h.held.crash (by decide) ks, h.small, h.few, fun b J e => by cases e⟩
theorem Las.start {n : Nat} {D : Dk} {jx : Option (Nat × Jn)} {all sure : List (List UInt8)} (h : Las n D jx all sure) : Las n D.start none all sure := ⟨h.held.of rfl rfl rfl, h.small, h.few, fun b J e => by cases e⟩
theorem Las.opened {n : Nat} {D : Dk} {jx : Option (Nat × Jn)} {all sure : List (List UInt8)} (h : Las n D jx all sure) :
    (∃ e D', jopen D 3 = (none, e, D') ∧ (e = 8 ∨ e = 9) ∧ Las n D' none all sure) ∨ ∃ l D', jopen D 3 = (some l, 0, D') ∧ l <+: all ∧ sure <+: l ∧ ∀ b, Las n D' (some (b, ⟨3, l, false⟩)) l l := by
  rcases h.held.opened (by decide) h.big with ⟨h1, h2, h3⟩ | ⟨l, h1, h2, h3, h4, h5, h6, h7⟩
  · exact .inl ⟨_, _, Prod.ext h1 (Prod.ext rfl rfl), h2, ⟨h3, h.small, h.few, fun b J e => by cases e⟩⟩
  · refine .inr ⟨l, _, Prod.ext h1 (Prod.ext h2 rfl), h3, h4, fun b => ⟨Held.still h5 h6, fun r hr => h.small r (h3.subset hr), by have := h3.length_le; have := h.few; omega, fun b J e => ?_⟩⟩
    cases e
    exact ⟨rfl, fun _ => ⟨h7, h6.now, rfl⟩⟩
/-- At last: nothing is lost, and nothing goes down. -/
theorem Las.last {n : Nat} {D : Dk} {jx : Option (Nat × Jn)} {all sure : List (List UInt8)} (h : Las n D jx all sure) (ks : List Int) :
    ∃ l D', jopen (((D.lose 0).arm 0 []).crash ks).start 3 = (some l, 0, D') ∧ l <+: all ∧ sure <+: l ∧ ∀ b, Las n D' (some (b, ⟨3, l, false⟩)) l l := by
  have hq : Quiet (((D.lose 0).arm 0 []).crash ks).start := by
    refine ⟨rfl, ?_, ?_⟩
    · show (((D.lose 0).arm 0 []).crash ks).calls = 0
      unfold Dk.crash
      split <;> rfl
    · show (((D.lose 0).arm 0 []).crash ks).lost = 0
      unfold Dk.crash
      split
      · rfl
      · exact (hardens_keeps _ _).2.2.2.1
  obtain ⟨D', h1, _⟩ := open_quiet ((((h.lose 0).arm 0 []).crash ks).start.held.good) hq (f := 3) (by decide)
  rcases (((h.lose 0).arm 0 []).crash ks).start.opened with ⟨e, D2, p, _, _⟩ | h2
  · have h1' : jopen (((D.lose 0).arm 0 []).crash ks).start 3 = _ := h1
    rw [h1'] at p; cases p
  · exact h2
theorem Las.appended {n b : Nat} {D : Dk} {J : Jn} {all sure : List (List UInt8)} (h : Las n D (some (b, J)) all sure) {s : List UInt8} (hs : s.length ≤ 200) :
    (∃ D', jappend D J s = (0, D', { J with l := J.l ++ [s] }) ∧ J.l = all ∧ Las (n + 1) D' (some (b, { J with l := J.l ++ [s] })) (all ++ [s]) sure) ∨
    (∃ D', jappend D J s = (8, D', { J with bad := true }) ∧ Las (n + 1) D' (some (b, { J with bad := true })) (all ++ [s]) sure) ∨
    ∃ e, jappend D J s = (e, D, J) ∧ (e = 3 ∨ e = 6 ∨ e = 7) ∧ Las (n + 1) D (some (b, J)) all sure := by
  obtain ⟨hf, hg⟩ := h.jour b J rfl
  cases hb : J.bad with
  | true => exact .inr (.inr ⟨7, by unfold jappend; rw [hb]; rfl, .inr (.inr rfl), h.mono (by omega)⟩)
  | false =>
    obtain ⟨g1, g2, g3⟩ := hg hb
    have hsm : ∀ r ∈ all ++ [s], r.length ≤ 200 := fun r hr => by
      rcases List.mem_append.1 hr with hr | hr
      · exact h.small r hr
      · rw [List.mem_singleton.1 hr]; exact hs
    have hfw : (all ++ [s]).length ≤ n + 1 := by have := h.few; simp; omega
    rcases h.held.appended (by decide) hf hb g3 g2 g1 s with ⟨a1, a2, a3, a4, a5⟩ | ⟨a1, a2, a3⟩ | ⟨a1, a2⟩
    · refine .inl ⟨(jappend D J s).2.1, ?_, g3, ⟨a2, hsm, hfw, fun b' J' e => ?_⟩⟩
      · refine Prod.ext a1 (Prod.ext rfl ?_)
        show (jappend D J s).2.2 = _
        rw [a5, g3, hb]
      · cases e; exact ⟨hf, fun _ => ⟨a4, a3, by simp only; rw [g3]⟩⟩
    · refine .inr (.inl ⟨(jappend D J s).2.1, Prod.ext a1 (Prod.ext rfl a3), ⟨a2, hsm, hfw, fun b' J' e => ?_⟩⟩)
      cases e; exact ⟨hf, fun e => by cases e⟩
    · refine .inr (.inr ⟨(jappend D J s).1, Prod.ext rfl a2, ?_, h.mono (by omega)⟩)
      omega
theorem Las.jsynced {n b : Nat} {D : Dk} {J : Jn} {all sure : List (List UInt8)} (h : Las n D (some (b, J)) all sure) :
    (∃ D', jsync D J = (0, D', J) ∧ Las n D' (some (b, J)) all J.l) ∨ ∃ e D' J', jsync D J = (e, D', J') ∧ e ≠ 0 ∧ Las n D' (some (b, J')) all sure := by
  obtain ⟨hf, hg⟩ := h.jour b J rfl
  cases hb : J.bad with
  | true => exact .inr ⟨7, D, J, by unfold jsync; rw [hb]; rfl, by decide, h⟩
  | false =>
    obtain ⟨g1, g2, g3⟩ := hg hb
    have hj : jsync D J = ((D.sync 3).1, (D.sync 3).2, { J with bad := decide ((D.sync 3).1 ≠ 0) }) := by unfold jsync; rw [hb, hf]; rfl
    by_cases h0 : (D.sync 3).1 = 0
    · obtain ⟨_, u1, _, u3⟩ := sync_ok h.held.good h0
      have hs := (h.held.sync (by decide : 3 < 16)).1.good
      rw [show (3 : Int).toNat = 3 from rfl, g2] at u3
      refine .inl ⟨(D.sync 3).2, ?_, ⟨?_, h.small, h.few, fun b' J' e => ?_⟩⟩
      · rw [hj, h0]
        exact Prod.ext rfl (Prod.ext rfl (by simp [← hb]))
      · rw [g3]; exact Held.still hs u3
      · cases e; exact ⟨hf, fun _ => ⟨u1, u3.now, g3⟩⟩
    · refine .inr ⟨(D.sync 3).1, (D.sync 3).2, { J with bad := decide ((D.sync 3).1 ≠ 0) }, hj, h0, ⟨(h.held.sync (by decide : 3 < 16)).1, h.small, h.few, fun b' J' e => ?_⟩⟩
      cases e
      exact ⟨hf, fun e => by simp [h0] at e⟩
end Go.Proofs.YtjbcgahdiolhhaaDoor.D2
