/- Several texts in one: Yz0, Yz, Box. -/
import Derived.Test.YtlefgffnjcmfoaaGreatDoorMD
import Derived.Test.YtlefgffnjcmfoaaGreatDoorMB
import Derived.Test.YtlefgffnjcmfoaaGreatDoorME
import Derived.Deep.WholeRow
import Derived.Laws.Tables
import Derived.Laws.CopyRow
import Derived.Laws.CopyOwn
import Derived.BigQuiet
namespace Go.Proofs.YtlefgffnjcmfoaaGreatDoor
open Lx Sy
theorem lex_len' {s : S} : ∀ {p : Int} {ts : List Tk}, lex s p = .ok ts → ts.length ≤ s.length + 1 ∧ (∀ t ∈ ts, t.text.length ≤ s.length) ∧ (textOf ts).length ≤ 2 * s.length := by
  induction s using lex_ind with
  | h0 => intro p ts h; cases h; exact ⟨by simp, fun t ht => by simp at ht; subst ht; simp, by simp [textOf, glue]⟩
  | h1 c r hb ih =>
    intro p ts h
    rw [lex_blank hb] at h
    obtain ⟨h1, h2, h3⟩ := ih h
    exact ⟨by simp; omega, fun t ht => by have := h2 t ht; simp; omega, by simp; omega⟩
  | h2 c r e hb ht => intro p ts h; rw [lex_bad hb ht] at h; cases h
  | h3 c r k w n hb ht ih =>
    intro p ts h
    rw [lex_tok hb ht] at h
    have hl := tok_len ht
    have hk := tok_kind ht
    cases hd : lex ((c :: r).drop w.length) (p + w.length) with
    | error v => rw [hd] at h; cases h
    | ok vs =>
      rw [hd] at h
      cases h
      obtain ⟨h1, h2, h3⟩ := ih hd
      rw [List.length_drop] at h1 h2 h3
      refine ⟨by rw [List.length_cons]; omega, fun t ht' => ?_, ?_⟩
      · rcases List.mem_cons.1 ht' with rfl | q
        · exact hl.2.1
        · have := h2 t q; omega
      · have e : textOf (⟨k, w, n, p⟩ :: vs) = glue (w :: (vs.filter fun t => t.kind != 3).map (·.text)) := by
          unfold textOf
          rw [List.filter_cons_of_pos (by simpa using hk.1), List.map_cons]
        rw [e]
        have hg : ∀ L : List S, (glue (w :: L)).length ≤ w.length + 1 + (glue L).length := by
          intro L
          by_cases hL : L = []
          · subst hL; simp [glue]
          · rw [glue_cons hL]; simp; omega
        have := hg ((vs.filter fun t => t.kind != 3).map (·.text))
        unfold textOf at h3
        omega
theorem res_ok {s : S} {ts : List Tk} {p : Int} (h : lexRes s = (ts, p, 0)) : ¬ 2000 < s.length ∧ lex s 0 = .ok ts := by
  unfold lexRes at h
  by_cases hb : 2000 < s.length
  · rw [if_pos hb] at h; cases h
  · rw [if_neg hb] at h
    refine ⟨hb, ?_⟩
    cases hl : lex s 0 with
    | ok us => rw [hl] at h; cases h; rfl
    | error v =>
      obtain ⟨i, e⟩ := v
      obtain ⟨_, _, _, _, _, he⟩ := lex_error hl
      rw [hl] at h
      cases h
      rcases he with he | he | he <;> cases he
theorem parse_of {s : S} {ts : List Tk} {p : Int} (h : lexRes s = (ts, p, 0)) : parseS s = out ts := by
  obtain ⟨h1, h2⟩ := res_ok h
  unfold parseS; rw [if_neg h1, h2]
theorem parse_bad {s : S} {ts : List Tk} {p e : Int} (h : lexRes s = (ts, p, e)) (he : e ≠ 0) : parseS s = (zero, p, e) := by
  unfold lexRes at h
  unfold parseS
  by_cases hb : 2000 < s.length
  · rw [if_pos hb] at h ⊢; cases h; rfl
  · rw [if_neg hb] at h ⊢
    cases hl : lex s 0 with
    | ok us => rw [hl] at h; cases h; exact absurd rfl he
    | error v => rw [hl] at h; obtain ⟨i, x⟩ := v; cases h; rfl
theorem res_ends {s : S} {ts : List Tk} {p : Int} (h : lexRes s = (ts, p, 0)) : Ends ts ∧ ts.length ≤ 3000 := by
  obtain ⟨h1, h2⟩ := res_ok h
  obtain ⟨us, rfl, h3⟩ := lex_toks h2
  refine ⟨⟨us, _, rfl, rfl, fun t ht => (tok_kind (h3 t ht)).1⟩, ?_⟩
  have := (lex_len' h2).1
  omega
/-- The end of Parse, plainly. -/
theorem out_bad {L l : List Tk} {e : Int} {f : Unit → R → Pf × R} {r : R} (hp : parse (.ok L) = bindR fin f r) (hf : ∀ u x, (f u (.error x)).2 = .error x) (hr : (fin r).2 = .error (l, e)) : out L = (zero, posOf l, e) := by
  unfold out
  rw [hp]
  have h2 : (bindR fin f r).2 = .error (l, e) := by unfold bindR; rw [hr]; exact hf _ _
  generalize bindR fin f r = q at h2
  obtain ⟨a, b⟩ := q
  simp only at h2
  subst h2; rfl
theorem out_good {L : List Tk} {PF : Pf} {r : R} {l : List Tk} (hp : parse (.ok L) = bindR fin (fun _ => retR PF) r) (hr : (fin r).2 = .ok l) : out L = (PF, 0, 0) := by
  unfold out
  rw [hp]
  unfold bindR
  rw [hr]; rfl
theorem fin_bad {x : List Tk × Int} : (fin (.error x)).2 = .error x := rfl
theorem fin_end {z : Tk} {l : List Tk} (h : z.kind = 3) : (fin (.ok (z :: l))).2 = .ok (z :: l) := by
  unfold fin iffR
  have : endO (hdR (.ok (z :: l))) = true := by simp [hdR, hd, endO, br, h]
  rw [this]; rfl
theorem fin_more {z : Tk} {l : List Tk} (h : z.kind ≠ 3) : (fin (.ok (z :: l))).2 = .error (z :: l, 12) := by
  unfold fin iffR
  have : endO (hdR (.ok (z :: l))) = false := by simp [hdR, hd, endO, br, h]
  rw [this]; rfl
end Go.Proofs.YtlefgffnjcmfoaaGreatDoor
namespace Go.Proofs.YtlefgffnjcmfoaaGreatDoor
open Go.RowKit Go.Maps Go.ChangeMaps Go.MapKept
open Lx Sy Ch
attribute [local go_sem ↓] Go.wp_at_zero Go.wp_at_succ
def zC : Array Value := #[.string (bs []), .int .i64 0, .int .i64 0, .int .i64 0, .bool false, .int .i64 0, .bool false, .bool false, .int .i64 0, .int .i64 0, .int .i64 0, .int .i64 0, .slice none 0 0, .int .i64 0, .int .i64 0, .int .i64 0, .int .i64 0, .bool false, .int .i64 0, .int .i64 0, .int .i64 0, .int .i64 0]
theorem bindR_eq {α β : Type} {f : R → α × R} {g : α → R → β × R} {r r' : R} {a : α} (h : f r = (a, r')) : bindR f g r = g a r' := by unfold bindR; rw [h]
theorem list_evw {P : Program} {ops : Array Oper} {Q : Exit → Act → World → Prop} {rest : List Oper} {w w' : World} {o : Oper} {a : Act} {v : Value} (hw : Region.wanted o (yielded ops a.tmps) = true) (h : (execOp a.eval o).run P w = .ok (.value v) w') (hr : wpList P ops Q rest (a.put o.dst v) w') : wpList P ops Q (o :: rest) a w :=
  wpList_step fun K hK => by
    rw [if_pos hw]
    show o.upon P a K Q ((execOp a.eval o).run P w)
    rw [h]
    exact hK _ _ hr
theorem ev_store {P : Program} {w w' : World} {a : Act} {o : Oper} {t s1 s2 : Nat} {u v : Value} (ho : o.op = .store t (.tmp s1) (.tmp s2)) (h1 : a.tmps[s1]? = some u) (h2 : a.tmps[s2]? = some v) (h : (Instr.storeAt t u v).run P w = .ok () w') : (execOp a.eval o).run P w = .ok .skip w' := by
  unfold execOp; rw [ho]; simp only [eval_at h1, eval_at h2]
  simp only [Sem.run_bind, h]; rfl
theorem ends_ne {L : List Tk} (h : Ends L) : L ≠ [] := by
  obtain ⟨us, E, rfl, _⟩ := h; simp
theorem list_skip {P : Program} {ops : Array Oper} {Q : Exit → Act → World → Prop} {rest : List Oper} {w w' : World} {o : Oper} {a : Act} (hw : Region.wanted o (yielded ops a.tmps) = true) (h : (execOp a.eval o).run P w = .ok .skip w') (hr : wpList P ops Q rest (a.put o.dst undef) w') : wpList P ops Q (o :: rest) a w :=
  wpList_step fun K hK => by
    rw [if_pos hw]
    show o.upon P a K Q ((execOp a.eval o).run P w)
    rw [h]
    exact hK _ _ hr
theorem results_cell_tmp2 {P : Program} {fn : Func} {p u v : Tmp} {ty : TypeId} (h : fn.results = #[.cell p ty, .tmp u, .tmp v]) (tmps : Array Value) (w : World) (g : Nat) (t : TypeId) (cs : Array Value) (fr : Nat × Nat) (d : TypeDesc)
    (hp : tmps.getD p undef = .pointer (some ⟨g, 0, none⟩)) (hg : w.heap[g]? = some (.cells cs t fr))
    (hu : P.underlying ty = some d) (hd : (match d with | .struct _ | .array _ _ => true | _ => false) = true) (hi : (P.info? ty).map (·.size) = some cs.size) :
    (results fn tmps).run P w = .ok (.tuple #[.agg cs, tmps.getD u undef, tmps.getD v undef]) w := by
  have hp' : tmps[p]?.getD undef = .pointer (some ⟨g, 0, none⟩) := by simpa using hp
  simp [results, h, hp', asAddr, run_loadVar_row w g t ty cs fr d hg hu hd hi]
theorem ok_back {α : Type} {f : R → α × R} (hf : Sy.Loc f) {r r' : R} {z : α} (e : f r = (z, r')) (h : isOk r' = true) : isOk r = true := by
  cases r with
  | ok l => rfl
  | error x =>
    have h2 := hf.1 x
    rw [e] at h2
    have h3 : r' = .error x := h2
    rw [h3] at h; cases h
theorem loc_sLevel : Sy.Loc sLevel := loc_bind (loc_want _) fun _ => loc_bind (loc_one _) fun _ => loc_bind (loc_opt (loc_ret _)) fun _ => loc_bind (loc_want _) fun _ => loc_ret _
theorem loc_sRate : Sy.Loc sRate := loc_bind (loc_want _) fun _ => loc_bind (loc_number _) fun _ => loc_bind (loc_want _) fun _ => loc_bind (loc_number _) fun _ => loc_bind (loc_want _) fun _ => loc_bind (loc_number _) fun _ => loc_bind (loc_want _) fun _ => loc_ret _
theorem loc_sKeep : Sy.Loc sKeep := loc_opt (loc_bind (loc_number _) fun _ => loc_bind (loc_want _) fun _ => loc_ret _)
theorem tx_setRow {w : World} {v : Value} {xs : List S} {g : Nat} {T : TypeId} {old cs : Array Value} {fr : Nat × Nat} (hown : w.ownsRow 0 9 1 v xs.length (txVs xs)) (hg : w.heap[g]? = some (.cells old T fr)) (hT : T ≠ 9) : TxAt (w.setRow g cs) v xs :=
  TxAt.of_own (hown.kept (row := some g) ⟨rfl, rfl, rfl, by simp, fun k _ hk => setRow_other w g k cs (fun e => hk (by rw [e]))⟩ (Or.inr (Lib.ownBlock_ne hown hg hT)))
theorem fit_ok {L : List Tk} {r : R} {a : Nat} {p : Int} {z : Tk} (h : Fit L r a p 0) (hz : L[a]? = some z) : r = .ok (z :: L.drop (a + 1)) := by
  cases r with
  | ok l => have h1 := h.1; rw [drop_of hz] at h1; rw [h1]
  | error x => exact absurd h.1.symm h.2.1
theorem region_tillD {P : Program} {ops : Array Oper} {Q : Exit → Act → World → Prop} {id : Nat} {a : Act} {w : World} (c : Nat) (S : World → Prop) (hm : P.follows .mixedOrders = true)
    (h : Till P .any ops Q c S ops.size (Array.replicate ops.size false) a w.drew) : (Code.region id ops true).wp P Q a w := region_till c S hm h
set_option maxHeartbeats 8000000 in
set_option maxRecDepth 100000 in
theorem y_parse {w : World} {s : S} (hs : s.length ≤ 10000) : Calls Tryz.prog 7 #[.string (bs s)] w fun e w' => ∃ x, e = .returned (.tuple #[x, .int .i64 (parseS s).2.1, .int .i64 (parseS s).2.2]) ∧ PfAt w' x (parseS s).1 ∧ Below w.heap.size w w' := by
  have HL := Lib.hid (fun w => q_lex (w := w) (s := s) (by omega))
  have HA0 := Lib.hid (show (w.alloc (.cells zC 24)).heap[w.heap.size]? = some (.cells zC 24) from heap_alloc_new w _)
  have HB0 := Lib.hid (show Below w.heap.size w (w.alloc (.cells zC 24)) from (Below.refl _ _).alloc (Nat.le_refl _) _)
  have hwa : w.heap.size < (w.alloc (.cells zC 24)).heap.size := by simp
  go_enter Tryz.func7, Tryz.ntmps7
  go_upto_region 1 with fail
  rw [show (w.alloc (.cells #[.string ⟨#[]⟩, .int .i64 0, .int .i64 0, .int .i64 0, .bool false, .int .i64 0, .bool false, .bool false, .int .i64 0, .int .i64 0, .int .i64 0, .int .i64 0, .slice none 0 0, .int .i64 0, .int .i64 0, .int .i64 0, .int .i64 0, .bool false, .int .i64 0, .int .i64 0, .int .i64 0, .int .i64 0] 24)) = w.alloc (.cells zC 24) from rfl]
  generalize w.alloc (.cells zC 24) = wa at *
  obtain ⟨⟨ts, p0, e0⟩, hlr⟩ : ∃ q, lexRes s = q := ⟨_, rfl⟩
  rw [hlr] at HL
  go_wp2_with (go_at_call 17; refine (HL.out _).mono ?_; rintro e w1 ⟨v, rfl, ht, b1⟩; refine Hid.out ?_)
  refine Lib.hid ?_
  obtain ⟨va, vc, rfl⟩ := ht.slice
  have HV := Lib.hid ht
  have HB1 := Lib.hid b1
  have HLR := Lib.hid hlr
  clear ht b1 hlr HL
  by_cases he : e0 = 0
  · subst he
    have hL : ts.length ≤ 3000 := (res_ends HLR.out).2
    have HE := Lib.hid (res_ends HLR.out).1
    have HP := Lib.hid (parse_of HLR.out)
    go_upto_region 4 with fail
    generalize hLd : ts = L at *
    clear hLd
    go_upto_region 5 with fail
    refine wp_region_lit ?_
    refine list_ev (v := .agg zC) rfl (by unfold zC; go_simp; try rfl) ?_
    refine list_evw (v := .pointer (some ⟨w1.heap.size + 1, 0, none⟩)) (w' := (w1.alloc (.cells #[.slice va L.length vc, .int .i64 0, .int .i64 0, .int .i64 0] 45)).alloc (.cells zC 24)) rfl (by unfold zC; go_simp; try rfl) ?_
    simp only [Act.put, List.setIfInBounds_toArray, List.set_cons_zero, List.set_cons_succ]
    refine list_skip (w' := (w1.alloc (.cells #[.slice va L.length vc, .int .i64 0, .int .i64 0, .int .i64 0] 45)).alloc (.cells zC 24)) rfl (ev_store (u := .pointer (some ⟨w1.heap.size + 1, 0, none⟩)) (v := .agg zC) rfl rfl rfl (by
      have h := run_storeAt_new (P := Tryz.prog) (w1.alloc (.cells #[.slice va L.length vc, .int .i64 0, .int .i64 0, .int .i64 0] 45)) 24 zC zC (by kernel_rfl) rfl (by kernel_rfl)
      simpa using h)) ?_
    obtain ⟨X, hX⟩ : ∃ X, X = pv w1.heap.size (.slice va L.length vc) 0 0 0 := ⟨_, rfl⟩
    have M := Lib.hid (show Left w1 [X, .raw (w1.heap.size + 1) (outO #[.string (bs []), .int .i64 0, .int .i64 0, .int .i64 0, .bool false, .int .i64 0, .bool false, .bool false, .int .i64 0, .int .i64 0, .int .i64 0, .int .i64 0, .slice none 0 0, .int .i64 0, .int .i64 0, .int .i64 0, .int .i64 0, .bool false, .int .i64 0, .int .i64 0, .int .i64 0, .int .i64 0]), rowT (.slice none 0 0) []] 0 w1.heap.size (.slice va L.length vc) L (.ok L) ((w1.alloc (.cells #[.slice va L.length vc, .int .i64 0, .int .i64 0, .int .i64 0] 45)).alloc (.cells zC 24)) from by
      subst hX
      refine ⟨0, 0, 0, ⟨rfl, ends_ne HE.out, rfl⟩, ?_⟩
      exact ((OMem.start w1).two (.cells #[.slice va L.length vc, .int .i64 0, .int .i64 0, .int .i64 0] 45 (0, 0)) (.cells zC 24 (0, 0))).rowNil 9 1)
    generalize (w1.alloc (.cells #[.slice va L.length vc, .int .i64 0, .int .i64 0, .int .i64 0] 45)).alloc (.cells zC 24) = w3 at *
    obtain ⟨ob, hob⟩ : ∃ ob, w1.heap.size + 1 = ob := ⟨_, rfl⟩
    obtain ⟨b, hb⟩ : ∃ b, w1.heap.size = b := ⟨_, rfl⟩
    rw [hob, hb] at M ⊢
    have HOB := Lib.hid hob
    have HBB := Lib.hid hb
    clear hob hb
    obtain ⟨v, hv⟩ : ∃ v, v = Value.slice va L.length vc := ⟨_, rfl⟩
    obtain ⟨R0, hR0⟩ : ∃ r : R, r = .ok L := ⟨_, rfl⟩
    rw [← hv] at HV
    rw [← hv, ← hR0] at M
    have HRZ := Lib.hid hR0
    have HVV := Lib.hid hv
    clear hX hv hR0
    have hil : ∀ {A B C : Ob}, 0 < [A, B, C].length := by intros; simp
    obtain ⟨R1, q1⟩ : ∃ r, r = (want [110, 101, 116, 119, 111, 114, 107] R0).2 := ⟨_, rfl⟩
    have H := Lib.hid (l_want hil HV.out hL HE.out M.out [110, 101, 116, 119, 111, 114, 107])
    rw [← q1] at H
    have Q1 := Lib.hid (show want [110, 101, 116, 119, 111, 114, 107] R0 = ((), R1) by rw [q1])
    clear M q1
    go_wp2_with (go_at_call 18; refine (H.out).mono ?_; rintro e1 v1 ⟨rfl, m⟩; refine Hid.out ?_)
    refine Lib.hid ?_
    have M := Lib.hid (show Left w1 [X, .raw ob (outO #[.string (bs []), .int .i64 0, .int .i64 0, .int .i64 0, .bool false, .int .i64 0, .bool false, .bool false, .int .i64 0, .int .i64 0, .int .i64 0, .int .i64 0, .slice none 0 0, .int .i64 0, .int .i64 0, .int .i64 0, .int .i64 0, .bool false, .int .i64 0, .int .i64 0, .int .i64 0, .int .i64 0]), rowT (.slice none 0 0) []] 0 b v L R1 (v1) from m)
    clear m H
    obtain ⟨R2, q2⟩ : ∃ r, r = (name R1).2 := ⟨_, rfl⟩
    obtain ⟨zn, y2⟩ : ∃ z, z = (name R1).1 := ⟨_, rfl⟩
    have H := Lib.hid (l_name hil HV.out hL HE.out M.out)
    rw [← q2, ← y2] at H
    have Q2 := Lib.hid (show name R1 = (zn, R2) by rw [q2, y2])
    clear M q2 y2
    go_wp2_with (go_at_call 19; refine (H.out).mono ?_; rintro e2 v2 ⟨rfl, m⟩; refine Hid.out ?_)
    refine Lib.hid ?_
    have M := Lib.hid (show Left w1 [X, .raw ob (outO #[.string (bs []), .int .i64 0, .int .i64 0, .int .i64 0, .bool false, .int .i64 0, .bool false, .bool false, .int .i64 0, .int .i64 0, .int .i64 0, .int .i64 0, .slice none 0 0, .int .i64 0, .int .i64 0, .int .i64 0, .int .i64 0, .bool false, .int .i64 0, .int .i64 0, .int .i64 0, .int .i64 0]), rowT (.slice none 0 0) []] 0 b v L R2 (v2) from m)
    clear m H
    have g1 := M.out.out_at
    have g2 : (v2).cell? ⟨ob, 0, none⟩ = some (.string (bs [])) := by rw [Lib.cell_of_heap g1]; rfl
    have g3 : (v2).frozen? ⟨ob, 0, none⟩ = false := Lib.frozen_of_heap g1 0
    clear g1
    have M := Lib.hid (show Left w1 [X, .raw ob (outO #[.string (bs zn), .int .i64 0, .int .i64 0, .int .i64 0, .bool false, .int .i64 0, .bool false, .bool false, .int .i64 0, .int .i64 0, .int .i64 0, .int .i64 0, .slice none 0 0, .int .i64 0, .int .i64 0, .int .i64 0, .int .i64 0, .bool false, .int .i64 0, .int .i64 0, .int .i64 0, .int .i64 0]), rowT (.slice none 0 0) []] 0 b v L R2 ((v2).setCell ⟨ob, 0, none⟩ (.string (bs zn))) from M.out.out_set 0 _)
    obtain ⟨R3, q3⟩ : ∃ r, r = (want [59] R2).2 := ⟨_, rfl⟩
    have H := Lib.hid (l_want hil HV.out hL HE.out M.out [59])
    rw [← q3] at H
    have Q3 := Lib.hid (show want [59] R2 = ((), R3) by rw [q3])
    clear M q3
    go_wp2_with (go_at_call 18; refine (H.out).mono ?_; rintro e3 v3 ⟨rfl, m⟩; refine Hid.out ?_)
    refine Lib.hid ?_
    have M := Lib.hid (show Left w1 [X, .raw ob (outO #[.string (bs zn), .int .i64 0, .int .i64 0, .int .i64 0, .bool false, .int .i64 0, .bool false, .bool false, .int .i64 0, .int .i64 0, .int .i64 0, .int .i64 0, .slice none 0 0, .int .i64 0, .int .i64 0, .int .i64 0, .int .i64 0, .bool false, .int .i64 0, .int .i64 0, .int .i64 0, .int .i64 0]), rowT (.slice none 0 0) []] 0 b v L R3 (v3) from m)
    clear m H
    clear g2 g3
    obtain ⟨R4, q4⟩ : ∃ r, r = (want [101, 100, 105, 116] R3).2 := ⟨_, rfl⟩
    have H := Lib.hid (l_want hil HV.out hL HE.out M.out [101, 100, 105, 116])
    rw [← q4] at H
    have Q4 := Lib.hid (show want [101, 100, 105, 116] R3 = ((), R4) by rw [q4])
    clear M q4
    go_wp2_with (go_at_call 18; refine (H.out).mono ?_; rintro e4 v4 ⟨rfl, m⟩; refine Hid.out ?_)
    refine Lib.hid ?_
    have M := Lib.hid (show Left w1 [X, .raw ob (outO #[.string (bs zn), .int .i64 0, .int .i64 0, .int .i64 0, .bool false, .int .i64 0, .bool false, .bool false, .int .i64 0, .int .i64 0, .int .i64 0, .int .i64 0, .slice none 0 0, .int .i64 0, .int .i64 0, .int .i64 0, .int .i64 0, .bool false, .int .i64 0, .int .i64 0, .int .i64 0, .int .i64 0]), rowT (.slice none 0 0) []] 0 b v L R4 (v4) from m)
    clear m H
    go_wp2_with (go_at_call 21; refine (y_yes).mono ?_; rintro e5 _ ⟨rfl, rfl⟩; refine Hid.out ?_)
    refine Lib.hid ?_
    obtain ⟨R5, q5⟩ : ∃ r, r = (one yn R4).2 := ⟨_, rfl⟩
    obtain ⟨ze, y5⟩ : ∃ z, z = (one yn R4).1 := ⟨_, rfl⟩
    have M2 := Left.raw hil M.out (o := wordsO yn)
    have H := Lib.hid (l_one (by simp) HV.out hL HE.out M2 (tx_of (Left.last hil M2)) (by decide))
    rw [← q5, ← y5] at H
    have Q5 := Lib.hid (show one yn R4 = (ze, R5) by rw [q5, y5])
    clear M M2 q5 y5
    go_wp2_with (go_at_call 20; refine (H.out).mono ?_; rintro e5 v5 ⟨rfl, m⟩; refine Hid.out ?_)
    refine Lib.hid ?_
    have M := Lib.hid (show Left w1 [X, .raw ob (outO #[.string (bs zn), .int .i64 0, .int .i64 0, .int .i64 0, .bool false, .int .i64 0, .bool false, .bool false, .int .i64 0, .int .i64 0, .int .i64 0, .int .i64 0, .slice none 0 0, .int .i64 0, .int .i64 0, .int .i64 0, .int .i64 0, .bool false, .int .i64 0, .int .i64 0, .int .i64 0, .int .i64 0]), rowT (.slice none 0 0) []] 0 b v L R5 (v5) from Left.drop hil m)
    clear m H
    obtain ⟨ed, hed⟩ : ∃ z : Int, z = if ze = 1 then 2 else 0 := ⟨_, rfl⟩
    have HED := Lib.hid hed
    clear hed
    obtain ⟨⟨wi, R6⟩, hwi⟩ : ∃ q : Int × R, q = (if ze = 1 then opt [119, 105, 116, 104, 105, 110] (number 1) 0 else retR (0 : Int)) R5 := ⟨_, rfl⟩
    have QE := Lib.hid hwi.symm
    clear hwi
    go_upto_if 37 with fail
    go_cut [37] from 38 to 50 (fun u wx => u = .bool (ze == 1) ∧ Hid (Left w1 [X, .raw ob (outO #[.string (bs zn), .int .i64 ed, .int .i64 wi, .int .i64 0, .bool false, .int .i64 0, .bool false, .bool false, .int .i64 0, .int .i64 0, .int .i64 0, .int .i64 0, .slice none 0 0, .int .i64 0, .int .i64 0, .int .i64 0, .int .i64 0, .bool false, .int .i64 0, .int .i64 0, .int .i64 0, .int .i64 0]), rowT (.slice none 0 0) []] 0 b v L R6 wx))
    case first =>
      by_cases h1 : ze = 1
      · have HZ := Lib.hid h1
        have hb : (ze == 1) = true := by rw [h1]; rfl
        rw [hb]
        have HBB1 := Lib.hid hb
        clear hb h1
        have g1 := M.out.out_at
        have g2 : (v5).cell? ⟨ob, 1, none⟩ = some (.int .i64 0) := by rw [Lib.cell_of_heap g1]; rfl
        have g3 : (v5).frozen? ⟨ob, 1, none⟩ = false := Lib.frozen_of_heap g1 1
        clear g1
        have M := Lib.hid (show Left w1 [X, .raw ob (outO #[.string (bs zn), .int .i64 2, .int .i64 0, .int .i64 0, .bool false, .int .i64 0, .bool false, .bool false, .int .i64 0, .int .i64 0, .int .i64 0, .int .i64 0, .slice none 0 0, .int .i64 0, .int .i64 0, .int .i64 0, .int .i64 0, .bool false, .int .i64 0, .int .i64 0, .int .i64 0, .int .i64 0]), rowT (.slice none 0 0) []] 0 b v L R5 ((v5).setCell ⟨ob, 1, none⟩ (.int .i64 2)) from M.out.out_set 1 _)
        cases ho : isO [119, 105, 116, 104, 105, 110] (hdR R5) with
        | false =>
          have HO := Lib.hid ho
          have H := Lib.hid (l_is hil HV.out hL M.out [119, 105, 116, 104, 105, 110])
          rw [ho] at H
          clear M
          go_wp2_with (go_at_call 22; refine (H.out).mono ?_; rintro e7 v7 ⟨rfl, m⟩; refine Hid.out ?_)
          refine Lib.hid ?_
          have M := Lib.hid (show Left w1 [X, .raw ob (outO #[.string (bs zn), .int .i64 2, .int .i64 0, .int .i64 0, .bool false, .int .i64 0, .bool false, .bool false, .int .i64 0, .int .i64 0, .int .i64 0, .int .i64 0, .slice none 0 0, .int .i64 0, .int .i64 0, .int .i64 0, .int .i64 0, .bool false, .int .i64 0, .int .i64 0, .int .i64 0, .int .i64 0]), rowT (.slice none 0 0) []] 0 b v L R5 (v7) from m)
          clear m H
          clear ho g2 g3
          have HQ := Lib.hid (show (0, R5) = (wi, R6) by rw [← QE.out, if_pos HZ.out]; unfold opt iffR; rw [HO.out]; rfl)
          have HW : 0 = wi ∧ R5 = R6 := by simpa using HQ.out
          have HE2 := Lib.hid (show (2 : Int) = ed by rw [HED.out, if_pos HZ.out])
          have M9 := Lib.hid (show Left w1 [X, .raw ob (outO #[.string (bs zn), .int .i64 ed, .int .i64 wi, .int .i64 0, .bool false, .int .i64 0, .bool false, .bool false, .int .i64 0, .int .i64 0, .int .i64 0, .int .i64 0, .slice none 0 0, .int .i64 0, .int .i64 0, .int .i64 0, .int .i64 0, .bool false, .int .i64 0, .int .i64 0, .int .i64 0, .int .i64 0]), rowT (.slice none 0 0) []] 0 b v L R6 (v7) by
            have h := M.out
            have e : outO #[.string (bs zn), .int .i64 2, .int .i64 0, .int .i64 0, .bool false, .int .i64 0, .bool false, .bool false, .int .i64 0, .int .i64 0, .int .i64 0, .int .i64 0, .slice none 0 0, .int .i64 0, .int .i64 0, .int .i64 0, .int .i64 0, .bool false, .int .i64 0, .int .i64 0, .int .i64 0, .int .i64 0] = outO #[.string (bs zn), .int .i64 ed, .int .i64 wi, .int .i64 0, .bool false, .int .i64 0, .bool false, .bool false, .int .i64 0, .int .i64 0, .int .i64 0, .int .i64 0, .slice none 0 0, .int .i64 0, .int .i64 0, .int .i64 0, .int .i64 0, .bool false, .int .i64 0, .int .i64 0, .int .i64 0, .int .i64 0] := by rw [← HW.1, ← HE2.out]
            rw [e, HW.2] at h
            exact h)
          clear M HW
          go_wp2
          go_meet
          exact ⟨by rw [HBB1.out], M9⟩
        | true =>
          have HO := Lib.hid ho
          have H := Lib.hid (l_is hil HV.out hL M.out [119, 105, 116, 104, 105, 110])
          rw [ho] at H
          clear M
          go_wp2_with (go_at_call 22; refine (H.out).mono ?_; rintro e8 v8 ⟨rfl, m⟩; refine Hid.out ?_)
          refine Lib.hid ?_
          have M := Lib.hid (show Left w1 [X, .raw ob (outO #[.string (bs zn), .int .i64 2, .int .i64 0, .int .i64 0, .bool false, .int .i64 0, .bool false, .bool false, .int .i64 0, .int .i64 0, .int .i64 0, .int .i64 0, .slice none 0 0, .int .i64 0, .int .i64 0, .int .i64 0, .int .i64 0, .bool false, .int .i64 0, .int .i64 0, .int .i64 0, .int .i64 0]), rowT (.slice none 0 0) []] 0 b v L R5 (v8) from m)
          clear m H
          clear ho g2 g3
          obtain ⟨a, p, m2, hf, hal⟩ := want_at [119, 105, 116, 104, 105, 110] M.out HE.out HO.out
          have r1 := m2.raw_at (i := 0) rfl
          have p1 : (v8).cell? ⟨b, 1, none⟩ = some (.int .i64 a) := by rw [Lib.cell_of_heap r1]; rfl
          have hz1 : (v8).frozen? ⟨b, 1, none⟩ = false := Lib.frozen_of_heap r1 1
          obtain ⟨R9, q9⟩ : ∃ r, r = (want [119, 105, 116, 104, 105, 110] R5).2 := ⟨_, rfl⟩
          rw [← q9] at hf
          have Q9 := Lib.hid q9
          clear q9
          have M := Lib.hid (show Left w1 [X, .raw ob (outO #[.string (bs zn), .int .i64 2, .int .i64 0, .int .i64 0, .bool false, .int .i64 0, .bool false, .bool false, .int .i64 0, .int .i64 0, .int .i64 0, .int .i64 0, .slice none 0 0, .int .i64 0, .int .i64 0, .int .i64 0, .int .i64 0, .bool false, .int .i64 0, .int .i64 0, .int .i64 0, .int .i64 0]), rowT (.slice none 0 0) []] 0 b v L R9 ((v8).setCell ⟨b, 1, none⟩ (.int .i64 ((a : Int) + 1))) from ⟨a + 1, p, 0, hf, by have := step_on (i := 0) m2 rfl; simpa using this⟩)
          clear m2 hf r1
          obtain ⟨R10, q10⟩ : ∃ r, r = (number 1 R9).2 := ⟨_, rfl⟩
          obtain ⟨zw, y10⟩ : ∃ z, z = (number 1 R9).1 := ⟨_, rfl⟩
          have H := Lib.hid (l_number hil HV.out hL HE.out M.out 1)
          rw [← q10, ← y10] at H
          have Q10 := Lib.hid (show number 1 R9 = (zw, R10) by rw [q10, y10])
          clear M q10 y10
          go_wp2_with (go_at_call 23; refine (H.out).mono ?_; rintro e10 v10 ⟨rfl, m⟩; refine Hid.out ?_)
          refine Lib.hid ?_
          have M := Lib.hid (show Left w1 [X, .raw ob (outO #[.string (bs zn), .int .i64 2, .int .i64 0, .int .i64 0, .bool false, .int .i64 0, .bool false, .bool false, .int .i64 0, .int .i64 0, .int .i64 0, .int .i64 0, .slice none 0 0, .int .i64 0, .int .i64 0, .int .i64 0, .int .i64 0, .bool false, .int .i64 0, .int .i64 0, .int .i64 0, .int .i64 0]), rowT (.slice none 0 0) []] 0 b v L R10 (v10) from m)
          clear m H
          clear p1 hz1
          have g1 := M.out.out_at
          have g2 : (v10).cell? ⟨ob, 2, none⟩ = some (.int .i64 0) := by rw [Lib.cell_of_heap g1]; rfl
          have g3 : (v10).frozen? ⟨ob, 2, none⟩ = false := Lib.frozen_of_heap g1 2
          clear g1
          have M := Lib.hid (show Left w1 [X, .raw ob (outO #[.string (bs zn), .int .i64 2, .int .i64 zw, .int .i64 0, .bool false, .int .i64 0, .bool false, .bool false, .int .i64 0, .int .i64 0, .int .i64 0, .int .i64 0, .slice none 0 0, .int .i64 0, .int .i64 0, .int .i64 0, .int .i64 0, .bool false, .int .i64 0, .int .i64 0, .int .i64 0, .int .i64 0]), rowT (.slice none 0 0) []] 0 b v L R10 ((v10).setCell ⟨ob, 2, none⟩ (.int .i64 zw)) from M.out.out_set 2 _)
          have HQ := Lib.hid (show (zw, R10) = (wi, R6) by rw [← QE.out, if_pos HZ.out]; unfold opt iffR; rw [HO.out]; show _ = number 1 (want [119, 105, 116, 104, 105, 110] R5).2; rw [← Q9.out, Q10.out])
          have HW : zw = wi ∧ R10 = R6 := by simpa using HQ.out
          have HE2 := Lib.hid (show (2 : Int) = ed by rw [HED.out, if_pos HZ.out])
          have HW2 := Lib.hid HW
          clear HW
          have M9 := Lib.hid (show Left w1 [X, .raw ob (outO #[.string (bs zn), .int .i64 ed, .int .i64 wi, .int .i64 0, .bool false, .int .i64 0, .bool false, .bool false, .int .i64 0, .int .i64 0, .int .i64 0, .int .i64 0, .slice none 0 0, .int .i64 0, .int .i64 0, .int .i64 0, .int .i64 0, .bool false, .int .i64 0, .int .i64 0, .int .i64 0, .int .i64 0]), rowT (.slice none 0 0) []] 0 b v L R6 ((v10).setCell ⟨ob, 2, none⟩ (.int .i64 zw)) by
            have h := M.out
            have e : outO #[.string (bs zn), .int .i64 2, .int .i64 zw, .int .i64 0, .bool false, .int .i64 0, .bool false, .bool false, .int .i64 0, .int .i64 0, .int .i64 0, .int .i64 0, .slice none 0 0, .int .i64 0, .int .i64 0, .int .i64 0, .int .i64 0, .bool false, .int .i64 0, .int .i64 0, .int .i64 0, .int .i64 0] = outO #[.string (bs zn), .int .i64 ed, .int .i64 wi, .int .i64 0, .bool false, .int .i64 0, .bool false, .bool false, .int .i64 0, .int .i64 0, .int .i64 0, .int .i64 0, .slice none 0 0, .int .i64 0, .int .i64 0, .int .i64 0, .int .i64 0, .bool false, .int .i64 0, .int .i64 0, .int .i64 0, .int .i64 0] := by rw [← HW2.out.1, ← HE2.out]
            rw [e, HW2.out.2] at h
            exact h)
          clear M
          go_wp2
          go_meet
          exact ⟨by rw [HBB1.out], M9⟩
      · have HZ := Lib.hid h1
        have hb : (ze == 1) = false := by simpa using h1
        rw [hb]
        have HBB1 := Lib.hid hb
        clear hb h1
        have HQ := Lib.hid (show (0, R5) = (wi, R6) by rw [← QE.out, if_neg HZ.out]; rfl)
        have HW : 0 = wi ∧ R5 = R6 := by simpa using HQ.out
        have HE2 := Lib.hid (show (0 : Int) = ed by rw [HED.out, if_neg HZ.out])
        have M9 := Lib.hid (show Left w1 [X, .raw ob (outO #[.string (bs zn), .int .i64 ed, .int .i64 wi, .int .i64 0, .bool false, .int .i64 0, .bool false, .bool false, .int .i64 0, .int .i64 0, .int .i64 0, .int .i64 0, .slice none 0 0, .int .i64 0, .int .i64 0, .int .i64 0, .int .i64 0, .bool false, .int .i64 0, .int .i64 0, .int .i64 0, .int .i64 0]), rowT (.slice none 0 0) []] 0 b v L R6 (v5) by
          have h := M.out
          have e : outO #[.string (bs zn), .int .i64 0, .int .i64 0, .int .i64 0, .bool false, .int .i64 0, .bool false, .bool false, .int .i64 0, .int .i64 0, .int .i64 0, .int .i64 0, .slice none 0 0, .int .i64 0, .int .i64 0, .int .i64 0, .int .i64 0, .bool false, .int .i64 0, .int .i64 0, .int .i64 0, .int .i64 0] = outO #[.string (bs zn), .int .i64 ed, .int .i64 wi, .int .i64 0, .bool false, .int .i64 0, .bool false, .bool false, .int .i64 0, .int .i64 0, .int .i64 0, .int .i64 0, .slice none 0 0, .int .i64 0, .int .i64 0, .int .i64 0, .int .i64 0, .bool false, .int .i64 0, .int .i64 0, .int .i64 0, .int .i64 0] := by rw [← HW.1, ← HE2.out]
          rw [e, HW.2] at h
          exact h)
        clear M HW
        go_wp2
        go_meet
        exact ⟨by rw [HBB1.out], M9⟩
    case rest =>
      obtain ⟨rfl, M⟩ := hcut
      obtain ⟨R11, q11⟩ : ∃ r, r = (want [59] R6).2 := ⟨_, rfl⟩
      have H := Lib.hid (l_want hil HV.out hL HE.out M.out [59])
      rw [← q11] at H
      have Q11 := Lib.hid (show want [59] R6 = ((), R11) by rw [q11])
      clear M q11
      go_wp2_with (go_at_call 18; refine (H.out).mono ?_; rintro e11 v11 ⟨rfl, m⟩; refine Hid.out ?_)
      refine Lib.hid ?_
      have M := Lib.hid (show Left w1 [X, .raw ob (outO #[.string (bs zn), .int .i64 ed, .int .i64 wi, .int .i64 0, .bool false, .int .i64 0, .bool false, .bool false, .int .i64 0, .int .i64 0, .int .i64 0, .int .i64 0, .slice none 0 0, .int .i64 0, .int .i64 0, .int .i64 0, .int .i64 0, .bool false, .int .i64 0, .int .i64 0, .int .i64 0, .int .i64 0]), rowT (.slice none 0 0) []] 0 b v L R11 (v11) from m)
      clear m H
      obtain ⟨R12, q12⟩ : ∃ r, r = (Sy.part [100, 101, 108, 101, 116, 101] deW R11).2 := ⟨_, rfl⟩
      obtain ⟨z3, y12⟩ : ∃ z, z = (Sy.part [100, 101, 108, 101, 116, 101] deW R11).1 := ⟨_, rfl⟩
      have H := Lib.hid (l_part hil HV.out hL HE.out (Left.raw hil M.out (o := wordsO deW)) (by decide) [100, 101, 108, 101, 116, 101])
      rw [← q12, ← y12] at H
      have H := Lib.hid (show Calls Tryz.prog 24 #[.pointer (some ⟨b, 0, none⟩), .string (bs [100, 101, 108, 101, 116, 101]), .slice (some ⟨v11.heap.size, 0, none⟩) 3 3] ((v11).alloc ((.cells #[.string ⟨#[110, 111]⟩, .string ⟨#[109, 97, 114, 107]⟩, .string ⟨#[121, 101, 115]⟩] 9))) _ from H.out)
      have Q12 := Lib.hid (show Sy.part [100, 101, 108, 101, 116, 101] deW R11 = (z3, R12) by rw [q12, y12])
      clear M q12 y12
      go_wp2_with (go_at_call 24; refine (H.out).mono ?_; rintro e12 v12 ⟨rfl, m⟩; refine Hid.out ?_)
      refine Lib.hid ?_
      have M := Lib.hid (show Left w1 [X, .raw ob (outO #[.string (bs zn), .int .i64 ed, .int .i64 wi, .int .i64 0, .bool false, .int .i64 0, .bool false, .bool false, .int .i64 0, .int .i64 0, .int .i64 0, .int .i64 0, .slice none 0 0, .int .i64 0, .int .i64 0, .int .i64 0, .int .i64 0, .bool false, .int .i64 0, .int .i64 0, .int .i64 0, .int .i64 0]), rowT (.slice none 0 0) []] 0 b v L R12 (v12) from m)
      clear m H
      have g1 := M.out.out_at
      have g2 : (v12).cell? ⟨ob, 3, none⟩ = some (.int .i64 0) := by rw [Lib.cell_of_heap g1]; rfl
      have g3 : (v12).frozen? ⟨ob, 3, none⟩ = false := Lib.frozen_of_heap g1 3
      clear g1
      have M := Lib.hid (show Left w1 [X, .raw ob (outO #[.string (bs zn), .int .i64 ed, .int .i64 wi, .int .i64 z3, .bool false, .int .i64 0, .bool false, .bool false, .int .i64 0, .int .i64 0, .int .i64 0, .int .i64 0, .slice none 0 0, .int .i64 0, .int .i64 0, .int .i64 0, .int .i64 0, .bool false, .int .i64 0, .int .i64 0, .int .i64 0, .int .i64 0]), rowT (.slice none 0 0) []] 0 b v L R12 ((v12).setCell ⟨ob, 3, none⟩ (.int .i64 z3)) from M.out.out_set 3 _)
      go_upto_region 17 with fail
      clear g2 g3
      generalize (v12).setCell ⟨ob, 3, none⟩ (.int .i64 z3) = u13 at *
      go_wp2_with (go_at_call 21; refine (y_yes).mono ?_; rintro e14 _ ⟨rfl, rfl⟩; refine Hid.out ?_)
      refine Lib.hid ?_
      obtain ⟨R14, q14⟩ : ∃ r, r = (Sy.part [114, 101, 97, 99, 116] yn R12).2 := ⟨_, rfl⟩
      obtain ⟨z4, y14⟩ : ∃ z, z = (Sy.part [114, 101, 97, 99, 116] yn R12).1 := ⟨_, rfl⟩
      have H := Lib.hid (l_part hil HV.out hL HE.out (Left.raw hil M.out (o := wordsO yn)) (by decide) [114, 101, 97, 99, 116])
      rw [← q14, ← y14] at H
      have H := Lib.hid (show Calls Tryz.prog 24 #[.pointer (some ⟨b, 0, none⟩), .string (bs [114, 101, 97, 99, 116]), .slice (some ⟨u13.heap.size, 0, none⟩) 2 2] ((u13).alloc (wordsO yn)) _ from H.out)
      have Q14 := Lib.hid (show Sy.part [114, 101, 97, 99, 116] yn R12 = (z4, R14) by rw [q14, y14])
      clear M q14 y14
      go_wp2_with (go_at_call 24; refine (H.out).mono ?_; rintro e14 v14 ⟨rfl, m⟩; refine Hid.out ?_)
      refine Lib.hid ?_
      have M := Lib.hid (show Left w1 [X, .raw ob (outO #[.string (bs zn), .int .i64 ed, .int .i64 wi, .int .i64 z3, .bool false, .int .i64 0, .bool false, .bool false, .int .i64 0, .int .i64 0, .int .i64 0, .int .i64 0, .slice none 0 0, .int .i64 0, .int .i64 0, .int .i64 0, .int .i64 0, .bool false, .int .i64 0, .int .i64 0, .int .i64 0, .int .i64 0]), rowT (.slice none 0 0) []] 0 b v L R14 (v14) from m)
      clear m H
      have g1 := M.out.out_at
      have g2 : (v14).cell? ⟨ob, 4, none⟩ = some (.bool false) := by rw [Lib.cell_of_heap g1]; rfl
      have g3 : (v14).frozen? ⟨ob, 4, none⟩ = false := Lib.frozen_of_heap g1 4
      clear g1
      have M := Lib.hid (show Left w1 [X, .raw ob (outO #[.string (bs zn), .int .i64 ed, .int .i64 wi, .int .i64 z3, .bool (z4 == 1), .int .i64 0, .bool false, .bool false, .int .i64 0, .int .i64 0, .int .i64 0, .int .i64 0, .slice none 0 0, .int .i64 0, .int .i64 0, .int .i64 0, .int .i64 0, .bool false, .int .i64 0, .int .i64 0, .int .i64 0, .int .i64 0]), rowT (.slice none 0 0) []] 0 b v L R14 ((v14).setCell ⟨ob, 4, none⟩ (.bool (z4 == 1))) from M.out.out_set 4 _)
      go_upto_region 18 with fail
      clear g2 g3
      generalize (v14).setCell ⟨ob, 4, none⟩ (.bool (z4 == 1)) = u15 at *
      obtain ⟨R16, q16⟩ : ∃ r, r = (Sy.part [116, 104, 114, 101, 97, 100] thW R14).2 := ⟨_, rfl⟩
      obtain ⟨z5, y16⟩ : ∃ z, z = (Sy.part [116, 104, 114, 101, 97, 100] thW R14).1 := ⟨_, rfl⟩
      have H := Lib.hid (l_part hil HV.out hL HE.out (Left.raw hil M.out (o := wordsO thW)) (by decide) [116, 104, 114, 101, 97, 100])
      rw [← q16, ← y16] at H
      have H := Lib.hid (show Calls Tryz.prog 24 #[.pointer (some ⟨b, 0, none⟩), .string (bs [116, 104, 114, 101, 97, 100]), .slice (some ⟨u15.heap.size, 0, none⟩) 3 3] ((u15).alloc ((.cells #[.string ⟨#[110, 111, 110, 101]⟩, .string ⟨#[102, 108, 97, 116]⟩, .string ⟨#[116, 114, 101, 101]⟩] 9))) _ from H.out)
      have Q16 := Lib.hid (show Sy.part [116, 104, 114, 101, 97, 100] thW R14 = (z5, R16) by rw [q16, y16])
      clear M q16 y16
      go_wp2_with (go_at_call 24; refine (H.out).mono ?_; rintro e16 v16 ⟨rfl, m⟩; refine Hid.out ?_)
      refine Lib.hid ?_
      have M := Lib.hid (show Left w1 [X, .raw ob (outO #[.string (bs zn), .int .i64 ed, .int .i64 wi, .int .i64 z3, .bool (z4 == 1), .int .i64 0, .bool false, .bool false, .int .i64 0, .int .i64 0, .int .i64 0, .int .i64 0, .slice none 0 0, .int .i64 0, .int .i64 0, .int .i64 0, .int .i64 0, .bool false, .int .i64 0, .int .i64 0, .int .i64 0, .int .i64 0]), rowT (.slice none 0 0) []] 0 b v L R16 (v16) from m)
      clear m H
      have g1 := M.out.out_at
      have g2 : (v16).cell? ⟨ob, 5, none⟩ = some (.int .i64 0) := by rw [Lib.cell_of_heap g1]; rfl
      have g3 : (v16).frozen? ⟨ob, 5, none⟩ = false := Lib.frozen_of_heap g1 5
      clear g1
      have M := Lib.hid (show Left w1 [X, .raw ob (outO #[.string (bs zn), .int .i64 ed, .int .i64 wi, .int .i64 z3, .bool (z4 == 1), .int .i64 z5, .bool false, .bool false, .int .i64 0, .int .i64 0, .int .i64 0, .int .i64 0, .slice none 0 0, .int .i64 0, .int .i64 0, .int .i64 0, .int .i64 0, .bool false, .int .i64 0, .int .i64 0, .int .i64 0, .int .i64 0]), rowT (.slice none 0 0) []] 0 b v L R16 ((v16).setCell ⟨ob, 5, none⟩ (.int .i64 z5)) from M.out.out_set 5 _)
      go_upto_region 19 with fail
      clear g2 g3
      generalize (v16).setCell ⟨ob, 5, none⟩ (.int .i64 z5) = u17 at *
      go_wp2_with (go_at_call 21; refine (y_yes).mono ?_; rintro e18 _ ⟨rfl, rfl⟩; refine Hid.out ?_)
      refine Lib.hid ?_
      obtain ⟨R18, q18⟩ : ∃ r, r = (Sy.part [113, 117, 111, 116, 101] yn R16).2 := ⟨_, rfl⟩
      obtain ⟨z6, y18⟩ : ∃ z, z = (Sy.part [113, 117, 111, 116, 101] yn R16).1 := ⟨_, rfl⟩
      have H := Lib.hid (l_part hil HV.out hL HE.out (Left.raw hil M.out (o := wordsO yn)) (by decide) [113, 117, 111, 116, 101])
      rw [← q18, ← y18] at H
      have H := Lib.hid (show Calls Tryz.prog 24 #[.pointer (some ⟨b, 0, none⟩), .string (bs [113, 117, 111, 116, 101]), .slice (some ⟨u17.heap.size, 0, none⟩) 2 2] ((u17).alloc (wordsO yn)) _ from H.out)
      have Q18 := Lib.hid (show Sy.part [113, 117, 111, 116, 101] yn R16 = (z6, R18) by rw [q18, y18])
      clear M q18 y18
      go_wp2_with (go_at_call 24; refine (H.out).mono ?_; rintro e18 v18 ⟨rfl, m⟩; refine Hid.out ?_)
      refine Lib.hid ?_
      have M := Lib.hid (show Left w1 [X, .raw ob (outO #[.string (bs zn), .int .i64 ed, .int .i64 wi, .int .i64 z3, .bool (z4 == 1), .int .i64 z5, .bool false, .bool false, .int .i64 0, .int .i64 0, .int .i64 0, .int .i64 0, .slice none 0 0, .int .i64 0, .int .i64 0, .int .i64 0, .int .i64 0, .bool false, .int .i64 0, .int .i64 0, .int .i64 0, .int .i64 0]), rowT (.slice none 0 0) []] 0 b v L R18 (v18) from m)
      clear m H
      have g1 := M.out.out_at
      have g2 : (v18).cell? ⟨ob, 6, none⟩ = some (.bool false) := by rw [Lib.cell_of_heap g1]; rfl
      have g3 : (v18).frozen? ⟨ob, 6, none⟩ = false := Lib.frozen_of_heap g1 6
      clear g1
      have M := Lib.hid (show Left w1 [X, .raw ob (outO #[.string (bs zn), .int .i64 ed, .int .i64 wi, .int .i64 z3, .bool (z4 == 1), .int .i64 z5, .bool (z6 == 1), .bool false, .int .i64 0, .int .i64 0, .int .i64 0, .int .i64 0, .slice none 0 0, .int .i64 0, .int .i64 0, .int .i64 0, .int .i64 0, .bool false, .int .i64 0, .int .i64 0, .int .i64 0, .int .i64 0]), rowT (.slice none 0 0) []] 0 b v L R18 ((v18).setCell ⟨ob, 6, none⟩ (.bool (z6 == 1))) from M.out.out_set 6 _)
      go_upto_region 20 with fail
      clear g2 g3
      generalize (v18).setCell ⟨ob, 6, none⟩ (.bool (z6 == 1)) = u19 at *
      go_wp2_with (go_at_call 21; refine (y_yes).mono ?_; rintro e20 _ ⟨rfl, rfl⟩; refine Hid.out ?_)
      refine Lib.hid ?_
      obtain ⟨R20, q20⟩ : ∃ r, r = (Sy.part [109, 101, 110, 116, 105, 111, 110] yn R18).2 := ⟨_, rfl⟩
      obtain ⟨z7, y20⟩ : ∃ z, z = (Sy.part [109, 101, 110, 116, 105, 111, 110] yn R18).1 := ⟨_, rfl⟩
      have H := Lib.hid (l_part hil HV.out hL HE.out (Left.raw hil M.out (o := wordsO yn)) (by decide) [109, 101, 110, 116, 105, 111, 110])
      rw [← q20, ← y20] at H
      have H := Lib.hid (show Calls Tryz.prog 24 #[.pointer (some ⟨b, 0, none⟩), .string (bs [109, 101, 110, 116, 105, 111, 110]), .slice (some ⟨u19.heap.size, 0, none⟩) 2 2] ((u19).alloc (wordsO yn)) _ from H.out)
      have Q20 := Lib.hid (show Sy.part [109, 101, 110, 116, 105, 111, 110] yn R18 = (z7, R20) by rw [q20, y20])
      clear M q20 y20
      go_wp2_with (go_at_call 24; refine (H.out).mono ?_; rintro e20 v20 ⟨rfl, m⟩; refine Hid.out ?_)
      refine Lib.hid ?_
      have M := Lib.hid (show Left w1 [X, .raw ob (outO #[.string (bs zn), .int .i64 ed, .int .i64 wi, .int .i64 z3, .bool (z4 == 1), .int .i64 z5, .bool (z6 == 1), .bool false, .int .i64 0, .int .i64 0, .int .i64 0, .int .i64 0, .slice none 0 0, .int .i64 0, .int .i64 0, .int .i64 0, .int .i64 0, .bool false, .int .i64 0, .int .i64 0, .int .i64 0, .int .i64 0]), rowT (.slice none 0 0) []] 0 b v L R20 (v20) from m)
      clear m H
      have g1 := M.out.out_at
      have g2 : (v20).cell? ⟨ob, 7, none⟩ = some (.bool false) := by rw [Lib.cell_of_heap g1]; rfl
      have g3 : (v20).frozen? ⟨ob, 7, none⟩ = false := Lib.frozen_of_heap g1 7
      clear g1
      have M := Lib.hid (show Left w1 [X, .raw ob (outO #[.string (bs zn), .int .i64 ed, .int .i64 wi, .int .i64 z3, .bool (z4 == 1), .int .i64 z5, .bool (z6 == 1), .bool (z7 == 1), .int .i64 0, .int .i64 0, .int .i64 0, .int .i64 0, .slice none 0 0, .int .i64 0, .int .i64 0, .int .i64 0, .int .i64 0, .bool false, .int .i64 0, .int .i64 0, .int .i64 0, .int .i64 0]), rowT (.slice none 0 0) []] 0 b v L R20 ((v20).setCell ⟨ob, 7, none⟩ (.bool (z7 == 1))) from M.out.out_set 7 _)
      obtain ⟨R21, q21⟩ : ∃ r, r = (want [115, 105, 122, 101] R20).2 := ⟨_, rfl⟩
      have H := Lib.hid (l_want hil HV.out hL HE.out M.out [115, 105, 122, 101])
      rw [← q21] at H
      have Q21 := Lib.hid (show want [115, 105, 122, 101] R20 = ((), R21) by rw [q21])
      clear M q21
      go_wp2_with (go_at_call 18; refine (H.out).mono ?_; rintro e21 v21 ⟨rfl, m⟩; refine Hid.out ?_)
      refine Lib.hid ?_
      have M := Lib.hid (show Left w1 [X, .raw ob (outO #[.string (bs zn), .int .i64 ed, .int .i64 wi, .int .i64 z3, .bool (z4 == 1), .int .i64 z5, .bool (z6 == 1), .bool (z7 == 1), .int .i64 0, .int .i64 0, .int .i64 0, .int .i64 0, .slice none 0 0, .int .i64 0, .int .i64 0, .int .i64 0, .int .i64 0, .bool false, .int .i64 0, .int .i64 0, .int .i64 0, .int .i64 0]), rowT (.slice none 0 0) []] 0 b v L R21 (v21) from m)
      clear m H
      clear g2 g3
      obtain ⟨R22, q22⟩ : ∃ r, r = (number 0 R21).2 := ⟨_, rfl⟩
      obtain ⟨z8, y22⟩ : ∃ z, z = (number 0 R21).1 := ⟨_, rfl⟩
      have H := Lib.hid (l_number hil HV.out hL HE.out M.out 0)
      rw [← q22, ← y22] at H
      have Q22 := Lib.hid (show number 0 R21 = (z8, R22) by rw [q22, y22])
      clear M q22 y22
      go_wp2_with (go_at_call 23; refine (H.out).mono ?_; rintro e22 v22 ⟨rfl, m⟩; refine Hid.out ?_)
      refine Lib.hid ?_
      have M := Lib.hid (show Left w1 [X, .raw ob (outO #[.string (bs zn), .int .i64 ed, .int .i64 wi, .int .i64 z3, .bool (z4 == 1), .int .i64 z5, .bool (z6 == 1), .bool (z7 == 1), .int .i64 0, .int .i64 0, .int .i64 0, .int .i64 0, .slice none 0 0, .int .i64 0, .int .i64 0, .int .i64 0, .int .i64 0, .bool false, .int .i64 0, .int .i64 0, .int .i64 0, .int .i64 0]), rowT (.slice none 0 0) []] 0 b v L R22 (v22) from m)
      clear m H
      have g1 := M.out.out_at
      have g2 : (v22).cell? ⟨ob, 8, none⟩ = some (.int .i64 0) := by rw [Lib.cell_of_heap g1]; rfl
      have g3 : (v22).frozen? ⟨ob, 8, none⟩ = false := Lib.frozen_of_heap g1 8
      clear g1
      have M := Lib.hid (show Left w1 [X, .raw ob (outO #[.string (bs zn), .int .i64 ed, .int .i64 wi, .int .i64 z3, .bool (z4 == 1), .int .i64 z5, .bool (z6 == 1), .bool (z7 == 1), .int .i64 z8, .int .i64 0, .int .i64 0, .int .i64 0, .slice none 0 0, .int .i64 0, .int .i64 0, .int .i64 0, .int .i64 0, .bool false, .int .i64 0, .int .i64 0, .int .i64 0, .int .i64 0]), rowT (.slice none 0 0) []] 0 b v L R22 ((v22).setCell ⟨ob, 8, none⟩ (.int .i64 z8)) from M.out.out_set 8 _)
      obtain ⟨R23, q23⟩ : ∃ r, r = (want [112, 97, 114, 116, 115] R22).2 := ⟨_, rfl⟩
      have H := Lib.hid (l_want hil HV.out hL HE.out M.out [112, 97, 114, 116, 115])
      rw [← q23] at H
      have Q23 := Lib.hid (show want [112, 97, 114, 116, 115] R22 = ((), R23) by rw [q23])
      clear M q23
      go_wp2_with (go_at_call 18; refine (H.out).mono ?_; rintro e23 v23 ⟨rfl, m⟩; refine Hid.out ?_)
      refine Lib.hid ?_
      have M := Lib.hid (show Left w1 [X, .raw ob (outO #[.string (bs zn), .int .i64 ed, .int .i64 wi, .int .i64 z3, .bool (z4 == 1), .int .i64 z5, .bool (z6 == 1), .bool (z7 == 1), .int .i64 z8, .int .i64 0, .int .i64 0, .int .i64 0, .slice none 0 0, .int .i64 0, .int .i64 0, .int .i64 0, .int .i64 0, .bool false, .int .i64 0, .int .i64 0, .int .i64 0, .int .i64 0]), rowT (.slice none 0 0) []] 0 b v L R23 (v23) from m)
      clear m H
      clear g2 g3
      obtain ⟨R24, q24⟩ : ∃ r, r = (number 0 R23).2 := ⟨_, rfl⟩
      obtain ⟨z9, y24⟩ : ∃ z, z = (number 0 R23).1 := ⟨_, rfl⟩
      have H := Lib.hid (l_number hil HV.out hL HE.out M.out 0)
      rw [← q24, ← y24] at H
      have Q24 := Lib.hid (show number 0 R23 = (z9, R24) by rw [q24, y24])
      clear M q24 y24
      go_wp2_with (go_at_call 23; refine (H.out).mono ?_; rintro e24 v24 ⟨rfl, m⟩; refine Hid.out ?_)
      refine Lib.hid ?_
      have M := Lib.hid (show Left w1 [X, .raw ob (outO #[.string (bs zn), .int .i64 ed, .int .i64 wi, .int .i64 z3, .bool (z4 == 1), .int .i64 z5, .bool (z6 == 1), .bool (z7 == 1), .int .i64 z8, .int .i64 0, .int .i64 0, .int .i64 0, .slice none 0 0, .int .i64 0, .int .i64 0, .int .i64 0, .int .i64 0, .bool false, .int .i64 0, .int .i64 0, .int .i64 0, .int .i64 0]), rowT (.slice none 0 0) []] 0 b v L R24 (v24) from m)
      clear m H
      have g1 := M.out.out_at
      have g2 : (v24).cell? ⟨ob, 9, none⟩ = some (.int .i64 0) := by rw [Lib.cell_of_heap g1]; rfl
      have g3 : (v24).frozen? ⟨ob, 9, none⟩ = false := Lib.frozen_of_heap g1 9
      clear g1
      have M := Lib.hid (show Left w1 [X, .raw ob (outO #[.string (bs zn), .int .i64 ed, .int .i64 wi, .int .i64 z3, .bool (z4 == 1), .int .i64 z5, .bool (z6 == 1), .bool (z7 == 1), .int .i64 z8, .int .i64 z9, .int .i64 0, .int .i64 0, .slice none 0 0, .int .i64 0, .int .i64 0, .int .i64 0, .int .i64 0, .bool false, .int .i64 0, .int .i64 0, .int .i64 0, .int .i64 0]), rowT (.slice none 0 0) []] 0 b v L R24 ((v24).setCell ⟨ob, 9, none⟩ (.int .i64 z9)) from M.out.out_set 9 _)
      obtain ⟨R25, q25⟩ : ∃ r, r = (want [59] R24).2 := ⟨_, rfl⟩
      have H := Lib.hid (l_want hil HV.out hL HE.out M.out [59])
      rw [← q25] at H
      have Q25 := Lib.hid (show want [59] R24 = ((), R25) by rw [q25])
      clear M q25
      go_wp2_with (go_at_call 18; refine (H.out).mono ?_; rintro e25 v25 ⟨rfl, m⟩; refine Hid.out ?_)
      refine Lib.hid ?_
      have M := Lib.hid (show Left w1 [X, .raw ob (outO #[.string (bs zn), .int .i64 ed, .int .i64 wi, .int .i64 z3, .bool (z4 == 1), .int .i64 z5, .bool (z6 == 1), .bool (z7 == 1), .int .i64 z8, .int .i64 z9, .int .i64 0, .int .i64 0, .slice none 0 0, .int .i64 0, .int .i64 0, .int .i64 0, .int .i64 0, .bool false, .int .i64 0, .int .i64 0, .int .i64 0, .int .i64 0]), rowT (.slice none 0 0) []] 0 b v L R25 (v25) from m)
      clear m H
      clear g2 g3
      obtain ⟨R26, q26⟩ : ∃ r, r = (sFiles R25).2 := ⟨_, rfl⟩
      have H := Lib.hid (y_files M.out HV.out hL HE.out)
      rw [← q26] at H
      have QF := Lib.hid (show sFiles R25 = ((sFiles R25).1, R26) by rw [q26])
      clear q26 M
      go_wp2_with (go_at_call 25; refine (H.out).mono ?_; rintro e26 v26 ⟨rfl, ff, fb, tv, xs, hok, m⟩; refine Hid.out ?_)
      refine Lib.hid ?_
      have HOK := Lib.hid hok
      have M := Lib.hid (show Left w1 [X, .raw ob (outO #[.string (bs zn), .int .i64 ed, .int .i64 wi, .int .i64 z3, .bool (z4 == 1), .int .i64 z5, .bool (z6 == 1), .bool (z7 == 1), .int .i64 z8, .int .i64 z9, .int .i64 ff, .int .i64 fb, tv, .int .i64 0, .int .i64 0, .int .i64 0, .int .i64 0, .bool false, .int .i64 0, .int .i64 0, .int .i64 0, .int .i64 0]), rowT (tv) xs] 0 b v L R26 (v26) from m)
      clear m H hok
      obtain ⟨R27, q27⟩ : ∃ r, r = (Sy.part [106, 111, 105, 110] joW R26).2 := ⟨_, rfl⟩
      obtain ⟨z13, y27⟩ : ∃ z, z = (Sy.part [106, 111, 105, 110] joW R26).1 := ⟨_, rfl⟩
      have H := Lib.hid (l_part hil HV.out hL HE.out (Left.raw hil M.out (o := wordsO joW)) (by decide) [106, 111, 105, 110])
      rw [← q27, ← y27] at H
      have H := Lib.hid (show Calls Tryz.prog 24 #[.pointer (some ⟨b, 0, none⟩), .string (bs [106, 111, 105, 110]), .slice (some ⟨v26.heap.size, 0, none⟩) 3 3] ((v26).alloc ((.cells #[.string ⟨#[105, 110, 118, 105, 116, 101]⟩, .string ⟨#[108, 105, 110, 107]⟩, .string ⟨#[114, 111, 108, 101]⟩] 9))) _ from H.out)
      have Q27 := Lib.hid (show Sy.part [106, 111, 105, 110] joW R26 = (z13, R27) by rw [q27, y27])
      clear M q27 y27
      go_wp2_with (go_at_call 24; refine (H.out).mono ?_; rintro e27 v27 ⟨rfl, m⟩; refine Hid.out ?_)
      refine Lib.hid ?_
      have M := Lib.hid (show Left w1 [X, .raw ob (outO #[.string (bs zn), .int .i64 ed, .int .i64 wi, .int .i64 z3, .bool (z4 == 1), .int .i64 z5, .bool (z6 == 1), .bool (z7 == 1), .int .i64 z8, .int .i64 z9, .int .i64 ff, .int .i64 fb, tv, .int .i64 0, .int .i64 0, .int .i64 0, .int .i64 0, .bool false, .int .i64 0, .int .i64 0, .int .i64 0, .int .i64 0]), rowT (tv) xs] 0 b v L R27 (v27) from m)
      clear m H
      have g1 := M.out.out_at
      have g2 : (v27).cell? ⟨ob, 13, none⟩ = some (.int .i64 0) := by rw [Lib.cell_of_heap g1]; rfl
      have g3 : (v27).frozen? ⟨ob, 13, none⟩ = false := Lib.frozen_of_heap g1 13
      clear g1
      have M := Lib.hid (show Left w1 [X, .raw ob (outO #[.string (bs zn), .int .i64 ed, .int .i64 wi, .int .i64 z3, .bool (z4 == 1), .int .i64 z5, .bool (z6 == 1), .bool (z7 == 1), .int .i64 z8, .int .i64 z9, .int .i64 ff, .int .i64 fb, tv, .int .i64 z13, .int .i64 0, .int .i64 0, .int .i64 0, .bool false, .int .i64 0, .int .i64 0, .int .i64 0, .int .i64 0]), rowT (tv) xs] 0 b v L R27 ((v27).setCell ⟨ob, 13, none⟩ (.int .i64 z13)) from M.out.out_set 13 _)
      go_upto_region 28 with fail
      clear g2 g3
      generalize (v27).setCell ⟨ob, 13, none⟩ (.int .i64 z13) = u28 at *
      obtain ⟨R29, q29⟩ : ∃ r, r = (Sy.part [104, 105, 115, 116, 111, 114, 121] hiW R27).2 := ⟨_, rfl⟩
      obtain ⟨z14, y29⟩ : ∃ z, z = (Sy.part [104, 105, 115, 116, 111, 114, 121] hiW R27).1 := ⟨_, rfl⟩
      have H := Lib.hid (l_part hil HV.out hL HE.out (Left.raw hil M.out (o := wordsO hiW)) (by decide) [104, 105, 115, 116, 111, 114, 121])
      rw [← q29, ← y29] at H
      have H := Lib.hid (show Calls Tryz.prog 24 #[.pointer (some ⟨b, 0, none⟩), .string (bs [104, 105, 115, 116, 111, 114, 121]), .slice (some ⟨u28.heap.size, 0, none⟩) 2 2] ((u28).alloc ((.cells #[.string ⟨#[115, 105, 110, 99, 101]⟩, .string ⟨#[97, 108, 108]⟩] 9))) _ from H.out)
      have Q29 := Lib.hid (show Sy.part [104, 105, 115, 116, 111, 114, 121] hiW R27 = (z14, R29) by rw [q29, y29])
      clear M q29 y29
      go_wp2_with (go_at_call 24; refine (H.out).mono ?_; rintro e29 v29 ⟨rfl, m⟩; refine Hid.out ?_)
      refine Lib.hid ?_
      have M := Lib.hid (show Left w1 [X, .raw ob (outO #[.string (bs zn), .int .i64 ed, .int .i64 wi, .int .i64 z3, .bool (z4 == 1), .int .i64 z5, .bool (z6 == 1), .bool (z7 == 1), .int .i64 z8, .int .i64 z9, .int .i64 ff, .int .i64 fb, tv, .int .i64 z13, .int .i64 0, .int .i64 0, .int .i64 0, .bool false, .int .i64 0, .int .i64 0, .int .i64 0, .int .i64 0]), rowT (tv) xs] 0 b v L R29 (v29) from m)
      clear m H
      have g1 := M.out.out_at
      have g2 : (v29).cell? ⟨ob, 14, none⟩ = some (.int .i64 0) := by rw [Lib.cell_of_heap g1]; rfl
      have g3 : (v29).frozen? ⟨ob, 14, none⟩ = false := Lib.frozen_of_heap g1 14
      clear g1
      have M := Lib.hid (show Left w1 [X, .raw ob (outO #[.string (bs zn), .int .i64 ed, .int .i64 wi, .int .i64 z3, .bool (z4 == 1), .int .i64 z5, .bool (z6 == 1), .bool (z7 == 1), .int .i64 z8, .int .i64 z9, .int .i64 ff, .int .i64 fb, tv, .int .i64 z13, .int .i64 z14, .int .i64 0, .int .i64 0, .bool false, .int .i64 0, .int .i64 0, .int .i64 0, .int .i64 0]), rowT (tv) xs] 0 b v L R29 ((v29).setCell ⟨ob, 14, none⟩ (.int .i64 z14)) from M.out.out_set 14 _)
      go_upto_region 29 with fail
      clear g2 g3
      generalize (v29).setCell ⟨ob, 14, none⟩ (.int .i64 z14) = u30 at *
      obtain ⟨R31, q31⟩ : ∃ r, r = (Sy.part [114, 101, 109, 111, 118, 101] reW R29).2 := ⟨_, rfl⟩
      obtain ⟨z15, y31⟩ : ∃ z, z = (Sy.part [114, 101, 109, 111, 118, 101] reW R29).1 := ⟨_, rfl⟩
      have H := Lib.hid (l_part hil HV.out hL HE.out (Left.raw hil M.out (o := wordsO reW)) (by decide) [114, 101, 109, 111, 118, 101])
      rw [← q31, ← y31] at H
      have H := Lib.hid (show Calls Tryz.prog 24 #[.pointer (some ⟨b, 0, none⟩), .string (bs [114, 101, 109, 111, 118, 101]), .slice (some ⟨u30.heap.size, 0, none⟩) 2 2] ((u30).alloc ((.cells #[.string ⟨#[110, 111, 119]⟩, .string ⟨#[107, 101, 121]⟩] 9))) _ from H.out)
      have Q31 := Lib.hid (show Sy.part [114, 101, 109, 111, 118, 101] reW R29 = (z15, R31) by rw [q31, y31])
      clear M q31 y31
      go_wp2_with (go_at_call 24; refine (H.out).mono ?_; rintro e31 v31 ⟨rfl, m⟩; refine Hid.out ?_)
      refine Lib.hid ?_
      have M := Lib.hid (show Left w1 [X, .raw ob (outO #[.string (bs zn), .int .i64 ed, .int .i64 wi, .int .i64 z3, .bool (z4 == 1), .int .i64 z5, .bool (z6 == 1), .bool (z7 == 1), .int .i64 z8, .int .i64 z9, .int .i64 ff, .int .i64 fb, tv, .int .i64 z13, .int .i64 z14, .int .i64 0, .int .i64 0, .bool false, .int .i64 0, .int .i64 0, .int .i64 0, .int .i64 0]), rowT (tv) xs] 0 b v L R31 (v31) from m)
      clear m H
      have g1 := M.out.out_at
      have g2 : (v31).cell? ⟨ob, 15, none⟩ = some (.int .i64 0) := by rw [Lib.cell_of_heap g1]; rfl
      have g3 : (v31).frozen? ⟨ob, 15, none⟩ = false := Lib.frozen_of_heap g1 15
      clear g1
      have M := Lib.hid (show Left w1 [X, .raw ob (outO #[.string (bs zn), .int .i64 ed, .int .i64 wi, .int .i64 z3, .bool (z4 == 1), .int .i64 z5, .bool (z6 == 1), .bool (z7 == 1), .int .i64 z8, .int .i64 z9, .int .i64 ff, .int .i64 fb, tv, .int .i64 z13, .int .i64 z14, .int .i64 z15, .int .i64 0, .bool false, .int .i64 0, .int .i64 0, .int .i64 0, .int .i64 0]), rowT (tv) xs] 0 b v L R31 ((v31).setCell ⟨ob, 15, none⟩ (.int .i64 z15)) from M.out.out_set 15 _)
      obtain ⟨R32, q32⟩ : ∃ r, r = (want [114, 101, 99, 101, 105, 112, 116, 115] R31).2 := ⟨_, rfl⟩
      have H := Lib.hid (l_want hil HV.out hL HE.out M.out [114, 101, 99, 101, 105, 112, 116, 115])
      rw [← q32] at H
      have Q32 := Lib.hid (show want [114, 101, 99, 101, 105, 112, 116, 115] R31 = ((), R32) by rw [q32])
      clear M q32
      go_wp2_with (go_at_call 18; refine (H.out).mono ?_; rintro e32 v32 ⟨rfl, m⟩; refine Hid.out ?_)
      refine Lib.hid ?_
      have M := Lib.hid (show Left w1 [X, .raw ob (outO #[.string (bs zn), .int .i64 ed, .int .i64 wi, .int .i64 z3, .bool (z4 == 1), .int .i64 z5, .bool (z6 == 1), .bool (z7 == 1), .int .i64 z8, .int .i64 z9, .int .i64 ff, .int .i64 fb, tv, .int .i64 z13, .int .i64 z14, .int .i64 z15, .int .i64 0, .bool false, .int .i64 0, .int .i64 0, .int .i64 0, .int .i64 0]), rowT (tv) xs] 0 b v L R32 (v32) from m)
      clear m H
      clear g2 g3
      go_wp2_with (go_at_call 26; refine (y_levels).mono ?_; rintro e33 _ ⟨rfl, rfl⟩; refine Hid.out ?_)
      refine Lib.hid ?_
      obtain ⟨R33, q33⟩ : ∃ r, r = (one leW R32).2 := ⟨_, rfl⟩
      obtain ⟨z16, y33⟩ : ∃ z, z = (one leW R32).1 := ⟨_, rfl⟩
      have M2 := Left.raw hil M.out (o := wordsO leW)
      have H := Lib.hid (l_one (by simp) HV.out hL HE.out M2 (tx_of (Left.last hil M2)) (by decide))
      rw [← q33, ← y33] at H
      have Q33 := Lib.hid (show one leW R32 = (z16, R33) by rw [q33, y33])
      clear M M2 q33 y33
      go_wp2_with (go_at_call 20; refine (H.out).mono ?_; rintro e33 v33 ⟨rfl, m⟩; refine Hid.out ?_)
      refine Lib.hid ?_
      have M := Lib.hid (show Left w1 [X, .raw ob (outO #[.string (bs zn), .int .i64 ed, .int .i64 wi, .int .i64 z3, .bool (z4 == 1), .int .i64 z5, .bool (z6 == 1), .bool (z7 == 1), .int .i64 z8, .int .i64 z9, .int .i64 ff, .int .i64 fb, tv, .int .i64 z13, .int .i64 z14, .int .i64 z15, .int .i64 0, .bool false, .int .i64 0, .int .i64 0, .int .i64 0, .int .i64 0]), rowT (tv) xs] 0 b v L R33 (v33) from Left.drop hil m)
      clear m H
      have g1 := M.out.out_at
      have g2 : (v33).cell? ⟨ob, 16, none⟩ = some (.int .i64 0) := by rw [Lib.cell_of_heap g1]; rfl
      have g3 : (v33).frozen? ⟨ob, 16, none⟩ = false := Lib.frozen_of_heap g1 16
      clear g1
      have M := Lib.hid (show Left w1 [X, .raw ob (outO #[.string (bs zn), .int .i64 ed, .int .i64 wi, .int .i64 z3, .bool (z4 == 1), .int .i64 z5, .bool (z6 == 1), .bool (z7 == 1), .int .i64 z8, .int .i64 z9, .int .i64 ff, .int .i64 fb, tv, .int .i64 z13, .int .i64 z14, .int .i64 z15, .int .i64 z16, .bool false, .int .i64 0, .int .i64 0, .int .i64 0, .int .i64 0]), rowT (tv) xs] 0 b v L R33 ((v33).setCell ⟨ob, 16, none⟩ (.int .i64 z16)) from M.out.out_set 16 _)
      go_upto_region 32 with fail
      clear g2 g3
      generalize (v33).setCell ⟨ob, 16, none⟩ (.int .i64 z16) = u34 at *
      have H := Lib.hid (l_is hil HV.out hL M.out [98, 97, 116, 99, 104])
      obtain ⟨bt, hbt⟩ : ∃ x, x = isO [98, 97, 116, 99, 104] (hdR R33) := ⟨_, rfl⟩
      rw [← hbt] at H
      have Hbt := Lib.hid hbt
      clear hbt M
      go_wp2_with (go_at_call 22; refine (H.out).mono ?_; rintro e35 v35 ⟨rfl, m⟩; refine Hid.out ?_)
      refine Lib.hid ?_
      have M := Lib.hid (show Left w1 [X, .raw ob (outO #[.string (bs zn), .int .i64 ed, .int .i64 wi, .int .i64 z3, .bool (z4 == 1), .int .i64 z5, .bool (z6 == 1), .bool (z7 == 1), .int .i64 z8, .int .i64 z9, .int .i64 ff, .int .i64 fb, tv, .int .i64 z13, .int .i64 z14, .int .i64 z15, .int .i64 z16, .bool false, .int .i64 0, .int .i64 0, .int .i64 0, .int .i64 0]), rowT (tv) xs] 0 b v L R33 (v35) from m)
      clear m H
      obtain ⟨⟨bb, R36⟩, hwi⟩ : ∃ q : Bool × R, q = (opt [98, 97, 116, 99, 104] (retR true) false) R33 := ⟨_, rfl⟩
      have QE36 := Lib.hid hwi.symm
      clear hwi
      go_upto_if 109 with fail
      go_cut [109] from 110 to 117 (fun u wx => u = .bool bt ∧ Hid (Left w1 [X, .raw ob (outO #[.string (bs zn), .int .i64 ed, .int .i64 wi, .int .i64 z3, .bool (z4 == 1), .int .i64 z5, .bool (z6 == 1), .bool (z7 == 1), .int .i64 z8, .int .i64 z9, .int .i64 ff, .int .i64 fb, tv, .int .i64 z13, .int .i64 z14, .int .i64 z15, .int .i64 z16, .bool bb, .int .i64 0, .int .i64 0, .int .i64 0, .int .i64 0]), rowT (tv) xs] 0 b v L R36 wx))
      case first =>
        by_cases h1 : bt = true
        · have HZ := Lib.hid h1
          rw [h1]
          have HO := Lib.hid (Hbt.out.symm.trans h1)
          clear h1
          obtain ⟨a, p, m2, hf, hal⟩ := want_at [98, 97, 116, 99, 104] M.out HE.out HO.out
          have r1 := m2.raw_at (i := 0) rfl
          have p1 : (v35).cell? ⟨b, 1, none⟩ = some (.int .i64 a) := by rw [Lib.cell_of_heap r1]; rfl
          have hz1 : (v35).frozen? ⟨b, 1, none⟩ = false := Lib.frozen_of_heap r1 1
          obtain ⟨R37, q37⟩ : ∃ r, r = (want [98, 97, 116, 99, 104] R33).2 := ⟨_, rfl⟩
          rw [← q37] at hf
          have Q37 := Lib.hid q37
          clear q37
          have M := Lib.hid (show Left w1 [X, .raw ob (outO #[.string (bs zn), .int .i64 ed, .int .i64 wi, .int .i64 z3, .bool (z4 == 1), .int .i64 z5, .bool (z6 == 1), .bool (z7 == 1), .int .i64 z8, .int .i64 z9, .int .i64 ff, .int .i64 fb, tv, .int .i64 z13, .int .i64 z14, .int .i64 z15, .int .i64 z16, .bool false, .int .i64 0, .int .i64 0, .int .i64 0, .int .i64 0]), rowT (tv) xs] 0 b v L R37 ((v35).setCell ⟨b, 1, none⟩ (.int .i64 ((a : Int) + 1))) from ⟨a + 1, p, 0, hf, by have := step_on (i := 0) m2 rfl; simpa using this⟩)
          clear m2 hf r1
          have g1 := M.out.out_at
          have g2 : ((v35).setCell ⟨b, 1, none⟩ (.int .i64 ((a : Int) + 1))).cell? ⟨ob, 17, none⟩ = some (.bool false) := by rw [Lib.cell_of_heap g1]; rfl
          have g3 : ((v35).setCell ⟨b, 1, none⟩ (.int .i64 ((a : Int) + 1))).frozen? ⟨ob, 17, none⟩ = false := Lib.frozen_of_heap g1 17
          clear g1
          have M := Lib.hid (show Left w1 [X, .raw ob (outO #[.string (bs zn), .int .i64 ed, .int .i64 wi, .int .i64 z3, .bool (z4 == 1), .int .i64 z5, .bool (z6 == 1), .bool (z7 == 1), .int .i64 z8, .int .i64 z9, .int .i64 ff, .int .i64 fb, tv, .int .i64 z13, .int .i64 z14, .int .i64 z15, .int .i64 z16, .bool true, .int .i64 0, .int .i64 0, .int .i64 0, .int .i64 0]), rowT (tv) xs] 0 b v L R37 (((v35).setCell ⟨b, 1, none⟩ (.int .i64 ((a : Int) + 1))).setCell ⟨ob, 17, none⟩ (.bool true)) from M.out.out_set 17 _)
          have HQ : (true, R37) = (bb, R36) := by rw [← QE36.out]; unfold opt iffR; rw [HO.out]; show _ = (true, (want [98, 97, 116, 99, 104] R33).2); rw [← Q37.out]
          have HW : true = bb ∧ R37 = R36 := ⟨congrArg Prod.fst HQ, congrArg Prod.snd HQ⟩
          have HW2 := Lib.hid HW
          have M9 := Lib.hid (show Left w1 [X, .raw ob (outO #[.string (bs zn), .int .i64 ed, .int .i64 wi, .int .i64 z3, .bool (z4 == 1), .int .i64 z5, .bool (z6 == 1), .bool (z7 == 1), .int .i64 z8, .int .i64 z9, .int .i64 ff, .int .i64 fb, tv, .int .i64 z13, .int .i64 z14, .int .i64 z15, .int .i64 z16, .bool bb, .int .i64 0, .int .i64 0, .int .i64 0, .int .i64 0]), rowT (tv) xs] 0 b v L R36 (((v35).setCell ⟨b, 1, none⟩ (.int .i64 ((a : Int) + 1))).setCell ⟨ob, 17, none⟩ (.bool true)) by
            have h := M.out
            have e : outO #[.string (bs zn), .int .i64 ed, .int .i64 wi, .int .i64 z3, .bool (z4 == 1), .int .i64 z5, .bool (z6 == 1), .bool (z7 == 1), .int .i64 z8, .int .i64 z9, .int .i64 ff, .int .i64 fb, tv, .int .i64 z13, .int .i64 z14, .int .i64 z15, .int .i64 z16, .bool true, .int .i64 0, .int .i64 0, .int .i64 0, .int .i64 0] = outO #[.string (bs zn), .int .i64 ed, .int .i64 wi, .int .i64 z3, .bool (z4 == 1), .int .i64 z5, .bool (z6 == 1), .bool (z7 == 1), .int .i64 z8, .int .i64 z9, .int .i64 ff, .int .i64 fb, tv, .int .i64 z13, .int .i64 z14, .int .i64 z15, .int .i64 z16, .bool bb, .int .i64 0, .int .i64 0, .int .i64 0, .int .i64 0] := by rw [← HW.1]
            rw [e, HW.2] at h
            exact h)
          clear M HW HQ
          go_wp2
          go_meet
          exact ⟨by rw [HZ.out], M9⟩
        · have hb : bt = false := by simpa using h1
          clear h1
          have HZ := Lib.hid hb
          rw [hb]
          have HO := Lib.hid (Hbt.out.symm.trans hb)
          clear hb
          have HQ : (false, R33) = (bb, R36) := by rw [← QE36.out]; unfold opt iffR; rw [HO.out]; rfl
          have HW : false = bb ∧ R33 = R36 := ⟨congrArg Prod.fst HQ, congrArg Prod.snd HQ⟩
          have M9 := Lib.hid (show Left w1 [X, .raw ob (outO #[.string (bs zn), .int .i64 ed, .int .i64 wi, .int .i64 z3, .bool (z4 == 1), .int .i64 z5, .bool (z6 == 1), .bool (z7 == 1), .int .i64 z8, .int .i64 z9, .int .i64 ff, .int .i64 fb, tv, .int .i64 z13, .int .i64 z14, .int .i64 z15, .int .i64 z16, .bool bb, .int .i64 0, .int .i64 0, .int .i64 0, .int .i64 0]), rowT (tv) xs] 0 b v L R36 (v35) by
            have h := M.out
            have e : outO #[.string (bs zn), .int .i64 ed, .int .i64 wi, .int .i64 z3, .bool (z4 == 1), .int .i64 z5, .bool (z6 == 1), .bool (z7 == 1), .int .i64 z8, .int .i64 z9, .int .i64 ff, .int .i64 fb, tv, .int .i64 z13, .int .i64 z14, .int .i64 z15, .int .i64 z16, .bool false, .int .i64 0, .int .i64 0, .int .i64 0, .int .i64 0] = outO #[.string (bs zn), .int .i64 ed, .int .i64 wi, .int .i64 z3, .bool (z4 == 1), .int .i64 z5, .bool (z6 == 1), .bool (z7 == 1), .int .i64 z8, .int .i64 z9, .int .i64 ff, .int .i64 fb, tv, .int .i64 z13, .int .i64 z14, .int .i64 z15, .int .i64 z16, .bool bb, .int .i64 0, .int .i64 0, .int .i64 0, .int .i64 0] := by rw [← HW.1]
            rw [e, HW.2] at h
            exact h)
          clear M HW HQ
          go_wp2
          go_meet
          exact ⟨by rw [HZ.out], M9⟩
      case rest =>
        obtain ⟨rfl, M⟩ := hcut
        obtain ⟨R38, q38⟩ : ∃ r, r = (want [59] R36).2 := ⟨_, rfl⟩
        have H := Lib.hid (l_want hil HV.out hL HE.out M.out [59])
        rw [← q38] at H
        have Q38 := Lib.hid (show want [59] R36 = ((), R38) by rw [q38])
        clear M q38
        go_wp2_with (go_at_call 18; refine (H.out).mono ?_; rintro e38 v38 ⟨rfl, m⟩; refine Hid.out ?_)
        refine Lib.hid ?_
        have M := Lib.hid (show Left w1 [X, .raw ob (outO #[.string (bs zn), .int .i64 ed, .int .i64 wi, .int .i64 z3, .bool (z4 == 1), .int .i64 z5, .bool (z6 == 1), .bool (z7 == 1), .int .i64 z8, .int .i64 z9, .int .i64 ff, .int .i64 fb, tv, .int .i64 z13, .int .i64 z14, .int .i64 z15, .int .i64 z16, .bool bb, .int .i64 0, .int .i64 0, .int .i64 0, .int .i64 0]), rowT (tv) xs] 0 b v L R38 (v38) from m)
        clear m H
        obtain ⟨R39, q39⟩ : ∃ r, r = (want [114, 97, 116, 101] R38).2 := ⟨_, rfl⟩
        have H := Lib.hid (l_want hil HV.out hL HE.out M.out [114, 97, 116, 101])
        rw [← q39] at H
        have Q39 := Lib.hid (show want [114, 97, 116, 101] R38 = ((), R39) by rw [q39])
        clear M q39
        go_wp2_with (go_at_call 18; refine (H.out).mono ?_; rintro e39 v39 ⟨rfl, m⟩; refine Hid.out ?_)
        refine Lib.hid ?_
        have M := Lib.hid (show Left w1 [X, .raw ob (outO #[.string (bs zn), .int .i64 ed, .int .i64 wi, .int .i64 z3, .bool (z4 == 1), .int .i64 z5, .bool (z6 == 1), .bool (z7 == 1), .int .i64 z8, .int .i64 z9, .int .i64 ff, .int .i64 fb, tv, .int .i64 z13, .int .i64 z14, .int .i64 z15, .int .i64 z16, .bool bb, .int .i64 0, .int .i64 0, .int .i64 0, .int .i64 0]), rowT (tv) xs] 0 b v L R39 (v39) from m)
        clear m H
        obtain ⟨R40, q40⟩ : ∃ r, r = (number 0 R39).2 := ⟨_, rfl⟩
        obtain ⟨z18, y40⟩ : ∃ z, z = (number 0 R39).1 := ⟨_, rfl⟩
        have H := Lib.hid (l_number hil HV.out hL HE.out M.out 0)
        rw [← q40, ← y40] at H
        have Q40 := Lib.hid (show number 0 R39 = (z18, R40) by rw [q40, y40])
        clear M q40 y40
        go_wp2_with (go_at_call 23; refine (H.out).mono ?_; rintro e40 v40 ⟨rfl, m⟩; refine Hid.out ?_)
        refine Lib.hid ?_
        have M := Lib.hid (show Left w1 [X, .raw ob (outO #[.string (bs zn), .int .i64 ed, .int .i64 wi, .int .i64 z3, .bool (z4 == 1), .int .i64 z5, .bool (z6 == 1), .bool (z7 == 1), .int .i64 z8, .int .i64 z9, .int .i64 ff, .int .i64 fb, tv, .int .i64 z13, .int .i64 z14, .int .i64 z15, .int .i64 z16, .bool bb, .int .i64 0, .int .i64 0, .int .i64 0, .int .i64 0]), rowT (tv) xs] 0 b v L R40 (v40) from m)
        clear m H
        have g1 := M.out.out_at
        have g2 : (v40).cell? ⟨ob, 18, none⟩ = some (.int .i64 0) := by rw [Lib.cell_of_heap g1]; rfl
        have g3 : (v40).frozen? ⟨ob, 18, none⟩ = false := Lib.frozen_of_heap g1 18
        clear g1
        have M := Lib.hid (show Left w1 [X, .raw ob (outO #[.string (bs zn), .int .i64 ed, .int .i64 wi, .int .i64 z3, .bool (z4 == 1), .int .i64 z5, .bool (z6 == 1), .bool (z7 == 1), .int .i64 z8, .int .i64 z9, .int .i64 ff, .int .i64 fb, tv, .int .i64 z13, .int .i64 z14, .int .i64 z15, .int .i64 z16, .bool bb, .int .i64 z18, .int .i64 0, .int .i64 0, .int .i64 0]), rowT (tv) xs] 0 b v L R40 ((v40).setCell ⟨ob, 18, none⟩ (.int .i64 z18)) from M.out.out_set 18 _)
        obtain ⟨R41, q41⟩ : ∃ r, r = (want [100, 111, 119, 110] R40).2 := ⟨_, rfl⟩
        have H := Lib.hid (l_want hil HV.out hL HE.out M.out [100, 111, 119, 110])
        rw [← q41] at H
        have Q41 := Lib.hid (show want [100, 111, 119, 110] R40 = ((), R41) by rw [q41])
        clear M q41
        go_wp2_with (go_at_call 18; refine (H.out).mono ?_; rintro e41 v41 ⟨rfl, m⟩; refine Hid.out ?_)
        refine Lib.hid ?_
        have M := Lib.hid (show Left w1 [X, .raw ob (outO #[.string (bs zn), .int .i64 ed, .int .i64 wi, .int .i64 z3, .bool (z4 == 1), .int .i64 z5, .bool (z6 == 1), .bool (z7 == 1), .int .i64 z8, .int .i64 z9, .int .i64 ff, .int .i64 fb, tv, .int .i64 z13, .int .i64 z14, .int .i64 z15, .int .i64 z16, .bool bb, .int .i64 z18, .int .i64 0, .int .i64 0, .int .i64 0]), rowT (tv) xs] 0 b v L R41 (v41) from m)
        clear m H
        clear g2 g3
        obtain ⟨R42, q42⟩ : ∃ r, r = (number 0 R41).2 := ⟨_, rfl⟩
        obtain ⟨z19, y42⟩ : ∃ z, z = (number 0 R41).1 := ⟨_, rfl⟩
        have H := Lib.hid (l_number hil HV.out hL HE.out M.out 0)
        rw [← q42, ← y42] at H
        have Q42 := Lib.hid (show number 0 R41 = (z19, R42) by rw [q42, y42])
        clear M q42 y42
        go_wp2_with (go_at_call 23; refine (H.out).mono ?_; rintro e42 v42 ⟨rfl, m⟩; refine Hid.out ?_)
        refine Lib.hid ?_
        have M := Lib.hid (show Left w1 [X, .raw ob (outO #[.string (bs zn), .int .i64 ed, .int .i64 wi, .int .i64 z3, .bool (z4 == 1), .int .i64 z5, .bool (z6 == 1), .bool (z7 == 1), .int .i64 z8, .int .i64 z9, .int .i64 ff, .int .i64 fb, tv, .int .i64 z13, .int .i64 z14, .int .i64 z15, .int .i64 z16, .bool bb, .int .i64 z18, .int .i64 0, .int .i64 0, .int .i64 0]), rowT (tv) xs] 0 b v L R42 (v42) from m)
        clear m H
        have g1 := M.out.out_at
        have g2 : (v42).cell? ⟨ob, 19, none⟩ = some (.int .i64 0) := by rw [Lib.cell_of_heap g1]; rfl
        have g3 : (v42).frozen? ⟨ob, 19, none⟩ = false := Lib.frozen_of_heap g1 19
        clear g1
        have M := Lib.hid (show Left w1 [X, .raw ob (outO #[.string (bs zn), .int .i64 ed, .int .i64 wi, .int .i64 z3, .bool (z4 == 1), .int .i64 z5, .bool (z6 == 1), .bool (z7 == 1), .int .i64 z8, .int .i64 z9, .int .i64 ff, .int .i64 fb, tv, .int .i64 z13, .int .i64 z14, .int .i64 z15, .int .i64 z16, .bool bb, .int .i64 z18, .int .i64 z19, .int .i64 0, .int .i64 0]), rowT (tv) xs] 0 b v L R42 ((v42).setCell ⟨ob, 19, none⟩ (.int .i64 z19)) from M.out.out_set 19 _)
        obtain ⟨R43, q43⟩ : ∃ r, r = (want [111, 102] R42).2 := ⟨_, rfl⟩
        have H := Lib.hid (l_want hil HV.out hL HE.out M.out [111, 102])
        rw [← q43] at H
        have Q43 := Lib.hid (show want [111, 102] R42 = ((), R43) by rw [q43])
        clear M q43
        go_wp2_with (go_at_call 18; refine (H.out).mono ?_; rintro e43 v43 ⟨rfl, m⟩; refine Hid.out ?_)
        refine Lib.hid ?_
        have M := Lib.hid (show Left w1 [X, .raw ob (outO #[.string (bs zn), .int .i64 ed, .int .i64 wi, .int .i64 z3, .bool (z4 == 1), .int .i64 z5, .bool (z6 == 1), .bool (z7 == 1), .int .i64 z8, .int .i64 z9, .int .i64 ff, .int .i64 fb, tv, .int .i64 z13, .int .i64 z14, .int .i64 z15, .int .i64 z16, .bool bb, .int .i64 z18, .int .i64 z19, .int .i64 0, .int .i64 0]), rowT (tv) xs] 0 b v L R43 (v43) from m)
        clear m H
        clear g2 g3
        obtain ⟨R44, q44⟩ : ∃ r, r = (number 0 R43).2 := ⟨_, rfl⟩
        obtain ⟨z20, y44⟩ : ∃ z, z = (number 0 R43).1 := ⟨_, rfl⟩
        have H := Lib.hid (l_number hil HV.out hL HE.out M.out 0)
        rw [← q44, ← y44] at H
        have Q44 := Lib.hid (show number 0 R43 = (z20, R44) by rw [q44, y44])
        clear M q44 y44
        go_wp2_with (go_at_call 23; refine (H.out).mono ?_; rintro e44 v44 ⟨rfl, m⟩; refine Hid.out ?_)
        refine Lib.hid ?_
        have M := Lib.hid (show Left w1 [X, .raw ob (outO #[.string (bs zn), .int .i64 ed, .int .i64 wi, .int .i64 z3, .bool (z4 == 1), .int .i64 z5, .bool (z6 == 1), .bool (z7 == 1), .int .i64 z8, .int .i64 z9, .int .i64 ff, .int .i64 fb, tv, .int .i64 z13, .int .i64 z14, .int .i64 z15, .int .i64 z16, .bool bb, .int .i64 z18, .int .i64 z19, .int .i64 0, .int .i64 0]), rowT (tv) xs] 0 b v L R44 (v44) from m)
        clear m H
        have g1 := M.out.out_at
        have g2 : (v44).cell? ⟨ob, 20, none⟩ = some (.int .i64 0) := by rw [Lib.cell_of_heap g1]; rfl
        have g3 : (v44).frozen? ⟨ob, 20, none⟩ = false := Lib.frozen_of_heap g1 20
        clear g1
        have M := Lib.hid (show Left w1 [X, .raw ob (outO #[.string (bs zn), .int .i64 ed, .int .i64 wi, .int .i64 z3, .bool (z4 == 1), .int .i64 z5, .bool (z6 == 1), .bool (z7 == 1), .int .i64 z8, .int .i64 z9, .int .i64 ff, .int .i64 fb, tv, .int .i64 z13, .int .i64 z14, .int .i64 z15, .int .i64 z16, .bool bb, .int .i64 z18, .int .i64 z19, .int .i64 z20, .int .i64 0]), rowT (tv) xs] 0 b v L R44 ((v44).setCell ⟨ob, 20, none⟩ (.int .i64 z20)) from M.out.out_set 20 _)
        obtain ⟨R45, q45⟩ : ∃ r, r = (want [59] R44).2 := ⟨_, rfl⟩
        have H := Lib.hid (l_want hil HV.out hL HE.out M.out [59])
        rw [← q45] at H
        have Q45 := Lib.hid (show want [59] R44 = ((), R45) by rw [q45])
        clear M q45
        go_wp2_with (go_at_call 18; refine (H.out).mono ?_; rintro e45 v45 ⟨rfl, m⟩; refine Hid.out ?_)
        refine Lib.hid ?_
        have M := Lib.hid (show Left w1 [X, .raw ob (outO #[.string (bs zn), .int .i64 ed, .int .i64 wi, .int .i64 z3, .bool (z4 == 1), .int .i64 z5, .bool (z6 == 1), .bool (z7 == 1), .int .i64 z8, .int .i64 z9, .int .i64 ff, .int .i64 fb, tv, .int .i64 z13, .int .i64 z14, .int .i64 z15, .int .i64 z16, .bool bb, .int .i64 z18, .int .i64 z19, .int .i64 z20, .int .i64 0]), rowT (tv) xs] 0 b v L R45 (v45) from m)
        clear m H
        clear g2 g3
        have H := Lib.hid (l_is hil HV.out hL M.out [107, 101, 101, 112])
        obtain ⟨kt, hbt⟩ : ∃ x, x = isO [107, 101, 101, 112] (hdR R45) := ⟨_, rfl⟩
        rw [← hbt] at H
        have Hkt := Lib.hid hbt
        clear hbt M
        go_wp2_with (go_at_call 22; refine (H.out).mono ?_; rintro e46 v46 ⟨rfl, m⟩; refine Hid.out ?_)
        refine Lib.hid ?_
        have M := Lib.hid (show Left w1 [X, .raw ob (outO #[.string (bs zn), .int .i64 ed, .int .i64 wi, .int .i64 z3, .bool (z4 == 1), .int .i64 z5, .bool (z6 == 1), .bool (z7 == 1), .int .i64 z8, .int .i64 z9, .int .i64 ff, .int .i64 fb, tv, .int .i64 z13, .int .i64 z14, .int .i64 z15, .int .i64 z16, .bool bb, .int .i64 z18, .int .i64 z19, .int .i64 z20, .int .i64 0]), rowT (tv) xs] 0 b v L R45 (v46) from m)
        clear m H
        obtain ⟨⟨ke, R47⟩, hwi⟩ : ∃ q : Int × R, q = (sKeep) R45 := ⟨_, rfl⟩
        have QE47 := Lib.hid hwi.symm
        clear hwi
        go_upto_if 138 with fail
        go_cut [138] from 139 to 150 (fun u wx => u = .bool kt ∧ Hid (Left w1 [X, .raw ob (outO #[.string (bs zn), .int .i64 ed, .int .i64 wi, .int .i64 z3, .bool (z4 == 1), .int .i64 z5, .bool (z6 == 1), .bool (z7 == 1), .int .i64 z8, .int .i64 z9, .int .i64 ff, .int .i64 fb, tv, .int .i64 z13, .int .i64 z14, .int .i64 z15, .int .i64 z16, .bool bb, .int .i64 z18, .int .i64 z19, .int .i64 z20, .int .i64 ke]), rowT (tv) xs] 0 b v L R47 wx))
        case first =>
          by_cases h1 : kt = true
          · have HZ := Lib.hid h1
            rw [h1]
            have HO := Lib.hid (Hkt.out.symm.trans h1)
            clear h1
            obtain ⟨a, p, m2, hf, hal⟩ := want_at [107, 101, 101, 112] M.out HE.out HO.out
            have r1 := m2.raw_at (i := 0) rfl
            have p1 : (v46).cell? ⟨b, 1, none⟩ = some (.int .i64 a) := by rw [Lib.cell_of_heap r1]; rfl
            have hz1 : (v46).frozen? ⟨b, 1, none⟩ = false := Lib.frozen_of_heap r1 1
            obtain ⟨R48, q48⟩ : ∃ r, r = (want [107, 101, 101, 112] R45).2 := ⟨_, rfl⟩
            rw [← q48] at hf
            have Q48 := Lib.hid q48
            clear q48
            have M := Lib.hid (show Left w1 [X, .raw ob (outO #[.string (bs zn), .int .i64 ed, .int .i64 wi, .int .i64 z3, .bool (z4 == 1), .int .i64 z5, .bool (z6 == 1), .bool (z7 == 1), .int .i64 z8, .int .i64 z9, .int .i64 ff, .int .i64 fb, tv, .int .i64 z13, .int .i64 z14, .int .i64 z15, .int .i64 z16, .bool bb, .int .i64 z18, .int .i64 z19, .int .i64 z20, .int .i64 0]), rowT (tv) xs] 0 b v L R48 ((v46).setCell ⟨b, 1, none⟩ (.int .i64 ((a : Int) + 1))) from ⟨a + 1, p, 0, hf, by have := step_on (i := 0) m2 rfl; simpa using this⟩)
            clear m2 hf r1
            obtain ⟨R49, q49⟩ : ∃ r, r = (number 1 R48).2 := ⟨_, rfl⟩
            obtain ⟨zk, y49⟩ : ∃ z, z = (number 1 R48).1 := ⟨_, rfl⟩
            have H := Lib.hid (l_number hil HV.out hL HE.out M.out 1)
            rw [← q49, ← y49] at H
            have Q49 := Lib.hid (show number 1 R48 = (zk, R49) by rw [q49, y49])
            clear M q49 y49
            go_wp2_with (go_at_call 23; refine (H.out).mono ?_; rintro e49 v49 ⟨rfl, m⟩; refine Hid.out ?_)
            refine Lib.hid ?_
            have M := Lib.hid (show Left w1 [X, .raw ob (outO #[.string (bs zn), .int .i64 ed, .int .i64 wi, .int .i64 z3, .bool (z4 == 1), .int .i64 z5, .bool (z6 == 1), .bool (z7 == 1), .int .i64 z8, .int .i64 z9, .int .i64 ff, .int .i64 fb, tv, .int .i64 z13, .int .i64 z14, .int .i64 z15, .int .i64 z16, .bool bb, .int .i64 z18, .int .i64 z19, .int .i64 z20, .int .i64 0]), rowT (tv) xs] 0 b v L R49 (v49) from m)
            clear m H
            clear p1 hz1
            have g1 := M.out.out_at
            have g2 : (v49).cell? ⟨ob, 21, none⟩ = some (.int .i64 0) := by rw [Lib.cell_of_heap g1]; rfl
            have g3 : (v49).frozen? ⟨ob, 21, none⟩ = false := Lib.frozen_of_heap g1 21
            clear g1
            have M := Lib.hid (show Left w1 [X, .raw ob (outO #[.string (bs zn), .int .i64 ed, .int .i64 wi, .int .i64 z3, .bool (z4 == 1), .int .i64 z5, .bool (z6 == 1), .bool (z7 == 1), .int .i64 z8, .int .i64 z9, .int .i64 ff, .int .i64 fb, tv, .int .i64 z13, .int .i64 z14, .int .i64 z15, .int .i64 z16, .bool bb, .int .i64 z18, .int .i64 z19, .int .i64 z20, .int .i64 zk]), rowT (tv) xs] 0 b v L R49 ((v49).setCell ⟨ob, 21, none⟩ (.int .i64 zk)) from M.out.out_set 21 _)
            obtain ⟨R50, q50⟩ : ∃ r, r = (want [59] R49).2 := ⟨_, rfl⟩
            have H := Lib.hid (l_want hil HV.out hL HE.out M.out [59])
            rw [← q50] at H
            have Q50 := Lib.hid (show want [59] R49 = ((), R50) by rw [q50])
            clear M q50
            go_wp2_with (go_at_call 18; refine (H.out).mono ?_; rintro e50 v50 ⟨rfl, m⟩; refine Hid.out ?_)
            refine Lib.hid ?_
            have M := Lib.hid (show Left w1 [X, .raw ob (outO #[.string (bs zn), .int .i64 ed, .int .i64 wi, .int .i64 z3, .bool (z4 == 1), .int .i64 z5, .bool (z6 == 1), .bool (z7 == 1), .int .i64 z8, .int .i64 z9, .int .i64 ff, .int .i64 fb, tv, .int .i64 z13, .int .i64 z14, .int .i64 z15, .int .i64 z16, .bool bb, .int .i64 z18, .int .i64 z19, .int .i64 z20, .int .i64 zk]), rowT (tv) xs] 0 b v L R50 (v50) from m)
            clear m H
            clear g2 g3
            have HQ : (zk, R50) = (ke, R47) := by rw [← QE47.out]; unfold sKeep opt iffR; rw [HO.out]; show _ = (bindR (number 1) fun k => bindR (want [59]) fun _ => retR k) (want [107, 101, 101, 112] R45).2; rw [← Q48.out, bindR_eq Q49.out, bindR_eq Q50.out]; rfl
            have HW : zk = ke ∧ R50 = R47 := ⟨congrArg Prod.fst HQ, congrArg Prod.snd HQ⟩
            have M9 := Lib.hid (show Left w1 [X, .raw ob (outO #[.string (bs zn), .int .i64 ed, .int .i64 wi, .int .i64 z3, .bool (z4 == 1), .int .i64 z5, .bool (z6 == 1), .bool (z7 == 1), .int .i64 z8, .int .i64 z9, .int .i64 ff, .int .i64 fb, tv, .int .i64 z13, .int .i64 z14, .int .i64 z15, .int .i64 z16, .bool bb, .int .i64 z18, .int .i64 z19, .int .i64 z20, .int .i64 ke]), rowT (tv) xs] 0 b v L R47 (v50) by
              have h := M.out
              have e : outO #[.string (bs zn), .int .i64 ed, .int .i64 wi, .int .i64 z3, .bool (z4 == 1), .int .i64 z5, .bool (z6 == 1), .bool (z7 == 1), .int .i64 z8, .int .i64 z9, .int .i64 ff, .int .i64 fb, tv, .int .i64 z13, .int .i64 z14, .int .i64 z15, .int .i64 z16, .bool bb, .int .i64 z18, .int .i64 z19, .int .i64 z20, .int .i64 zk] = outO #[.string (bs zn), .int .i64 ed, .int .i64 wi, .int .i64 z3, .bool (z4 == 1), .int .i64 z5, .bool (z6 == 1), .bool (z7 == 1), .int .i64 z8, .int .i64 z9, .int .i64 ff, .int .i64 fb, tv, .int .i64 z13, .int .i64 z14, .int .i64 z15, .int .i64 z16, .bool bb, .int .i64 z18, .int .i64 z19, .int .i64 z20, .int .i64 ke] := by rw [← HW.1]
              rw [e, HW.2] at h
              exact h)
            clear M HW HQ
            go_wp2
            go_meet
            exact ⟨by rw [HZ.out], M9⟩
          · have hb : kt = false := by simpa using h1
            clear h1
            have HZ := Lib.hid hb
            rw [hb]
            have HO := Lib.hid (Hkt.out.symm.trans hb)
            clear hb
            have HQ : (0, R45) = (ke, R47) := by rw [← QE47.out]; unfold sKeep opt iffR; rw [HO.out]; rfl
            have HW : 0 = ke ∧ R45 = R47 := by simpa using HQ
            have M9 := Lib.hid (show Left w1 [X, .raw ob (outO #[.string (bs zn), .int .i64 ed, .int .i64 wi, .int .i64 z3, .bool (z4 == 1), .int .i64 z5, .bool (z6 == 1), .bool (z7 == 1), .int .i64 z8, .int .i64 z9, .int .i64 ff, .int .i64 fb, tv, .int .i64 z13, .int .i64 z14, .int .i64 z15, .int .i64 z16, .bool bb, .int .i64 z18, .int .i64 z19, .int .i64 z20, .int .i64 ke]), rowT (tv) xs] 0 b v L R47 (v46) by
              have h := M.out
              have e : outO #[.string (bs zn), .int .i64 ed, .int .i64 wi, .int .i64 z3, .bool (z4 == 1), .int .i64 z5, .bool (z6 == 1), .bool (z7 == 1), .int .i64 z8, .int .i64 z9, .int .i64 ff, .int .i64 fb, tv, .int .i64 z13, .int .i64 z14, .int .i64 z15, .int .i64 z16, .bool bb, .int .i64 z18, .int .i64 z19, .int .i64 z20, .int .i64 0] = outO #[.string (bs zn), .int .i64 ed, .int .i64 wi, .int .i64 z3, .bool (z4 == 1), .int .i64 z5, .bool (z6 == 1), .bool (z7 == 1), .int .i64 z8, .int .i64 z9, .int .i64 ff, .int .i64 fb, tv, .int .i64 z13, .int .i64 z14, .int .i64 z15, .int .i64 z16, .bool bb, .int .i64 z18, .int .i64 z19, .int .i64 z20, .int .i64 ke] := by rw [← HW.1]
              rw [e, HW.2] at h
              exact h)
            clear M HW HQ
            go_wp2
            go_meet
            exact ⟨by rw [HZ.out], M9⟩
        case rest =>
          obtain ⟨rfl, M⟩ := hcut
          have S1 : sName R0 = (zn, R3) := by unfold sName; rw [bindR_eq Q1.out, bindR_eq Q2.out, bindR_eq Q3.out]; rfl
          have S2 : sEdit R3 = ((ed, wi), R11) := by unfold sEdit; rw [bindR_eq Q4.out, bindR_eq Q5.out, bindR_eq QE.out, bindR_eq Q11.out, HED.out]; rfl
          have S3 : sSize R20 = ((z8, z9), R25) := by unfold sSize; rw [bindR_eq Q21.out, bindR_eq Q22.out, bindR_eq Q23.out, bindR_eq Q24.out, bindR_eq Q25.out]; rfl
          have S4 : sLevel R31 = ((z16, bb), R38) := by unfold sLevel; rw [bindR_eq Q32.out, bindR_eq Q33.out, bindR_eq QE36.out, bindR_eq Q38.out]; rfl
          have S5 : sRate R38 = ((z18, z19, z20), R45) := by unfold sRate; rw [bindR_eq Q39.out, bindR_eq Q40.out, bindR_eq Q41.out, bindR_eq Q42.out, bindR_eq Q43.out, bindR_eq Q44.out, bindR_eq Q45.out]; rfl
          have HPR := Lib.hid (show parse R0 = bindR fin (fun _ => retR (⟨zn, ed, wi, z3, z4 == 1, z5, z6 == 1, z7 == 1, z8, z9, (sFiles R25).1.1, (sFiles R25).1.2.1, (sFiles R25).1.2.2, z13, z14, z15, z16, bb, z18, z19, z20, ke⟩ : Pf)) R47 by
            unfold parse
            rw [bindR_eq S1, bindR_eq S2, bindR_eq Q12.out, bindR_eq Q14.out, bindR_eq Q16.out, bindR_eq Q18.out, bindR_eq Q20.out, bindR_eq S3, bindR_eq QF.out, bindR_eq Q27.out, bindR_eq Q29.out, bindR_eq Q31.out, bindR_eq S4, bindR_eq S5, bindR_eq QE47.out])
          have HOKB := Lib.hid (fun h47 : isOk R47 = true => ok_back (loc_part _ _) Q27.out (ok_back (loc_part _ _) Q29.out (ok_back (loc_part _ _) Q31.out (ok_back loc_sLevel S4 (ok_back loc_sRate S5 (ok_back loc_sKeep QE47.out h47))))))
          clear S1 S2 S3 S4 S5
          obtain ⟨a, p, e, hfit, mm⟩ := M.out
          have hal := hfit.lt
          obtain ⟨z, hz⟩ : ∃ z, L[a]? = some z := ⟨_, List.getElem?_eq_getElem hal⟩
          have r1 := mm.raw_at (i := 0) rfl
          have c0 : (wc).cell? ⟨b, 0, none⟩ = some v := by rw [Lib.cell_of_heap r1]; rfl
          have c1 : (wc).cell? ⟨b, 1, none⟩ = some (.int .i64 a) := by rw [Lib.cell_of_heap r1]; rfl
          have c2 : (wc).cell? ⟨b, 2, none⟩ = some (.int .i64 p) := by rw [Lib.cell_of_heap r1]; rfl
          have c3 : (wc).cell? ⟨b, 3, none⟩ = some (.int .i64 e) := by rw [Lib.cell_of_heap r1]; rfl
          have hbel := mm.below
          have MM := Lib.hid mm
          have R1 := Lib.hid r1
          have HG9 := Lib.hid (show (wc).heap[w.heap.size]? = some (.cells zC 24) from (hbel.block _ (Nat.lt_of_lt_of_le hwa HB1.out.size)).trans ((HB1.out.block _ hwa).trans HA0.out))
          have HB9 := Lib.hid ((HB0.out.trans (HB1.out.mono HB0.out.size)).trans (hbel.mono (Nat.le_trans HB0.out.size HB1.out.size)))
          obtain ⟨tb, off, cap, hvv, _, hc⟩ := (HV.out.keep hbel).form (by omega)
          have tc := (hc a z hz).1
          rw [hvv] at c0
          have HFIT := Lib.hid hfit
          have HZ0 := Lib.hid hz
          have R2 := Lib.hid M.out.out_at
          clear hc r1 mm hbel hz hvv hfit
          by_cases he : e = 0
          · subst he
            have hR := fit_ok HFIT.out HZ0.out
            have HR := Lib.hid hR
            have al' : (a : Int) < (L.length : Int) := by omega
            by_cases hk : z.kind = 3
            · have hQ : (sFiles R25).1 = (ff, fb, xs) := HOK.out (HOKB.out (by rw [hR]; rfl))
              have HO9 := Lib.hid (show out L = ((⟨zn, ed, wi, z3, z4 == 1, z5, z6 == 1, z7 == 1, z8, z9, ff, fb, xs, z13, z14, z15, z16, bb, z18, z19, z20, ke⟩ : Pf), 0, 0) by
                have h := HPR.out
                rw [hQ] at h
                exact out_good (HRZ.out ▸ h) (by rw [hR]; exact fin_end hk))
              obtain ⟨ta, tc2, htv⟩ := own_form (MM.out.rowAt (i := 2) rfl)
              subst htv
              obtain ⟨cs, hcs⟩ : ∃ cs : Array Value, cs = #[.string (bs zn), .int .i64 ed, .int .i64 wi, .int .i64 z3, .bool (z4 == 1), .int .i64 z5, .bool (z6 == 1), .bool (z7 == 1), .int .i64 z8, .int .i64 z9, .int .i64 ff, .int .i64 fb, .slice ta xs.length tc2, .int .i64 z13, .int .i64 z14, .int .i64 z15, .int .i64 z16, .bool bb, .int .i64 z18, .int .i64 z19, .int .i64 z20, .int .i64 ke] := ⟨_, rfl⟩
              have hsz : cs.size = 22 := by rw [hcs]; rfl
              have hone : cs.all (·.oneCell') = true := by rw [hcs]; simp [Value.oneCell']
              rw [← hcs] at R2
              have HCS := Lib.hid hcs
              rw [hk] at tc
              clear hcs hk hR hQ
              go_wp2
              go_quiet (fail)
              go_upto_region 51 with fail
              have HGX := Lib.hid (show (wc.drewN nq).heap[w.heap.size]? = some (.cells zC 24) from HG9.out)
              have HBX := Lib.hid (show Below w.heap.size w (wc.drewN nq) from HB9.out.trans ((drewN_below wc nq).mono HB9.out.size))
              have HRO := Lib.hid (show (wc.drewN nq).heap[ob]? = some (.cells cs 24 (0, 0)) from R2.out)
              refine wp_region_lit ?_
              refine list_ev (v := .agg cs) rfl (ev_whole rfl rfl HRO.out Tryz.underlying24 rfl (by rw [hsz]; kernel_rfl)) ?_
              simp only [Act.put, List.setIfInBounds_toArray, List.set_cons_zero, List.set_cons_succ]
              refine wpList_store_row rfl 24 (.tmp 2) (.tmp 186) rfl w.heap.size cs rfl rfl _ zC HGX.out (by rw [hsz]; kernel_rfl) (by rw [hsz]; rfl) hone ?_
              have HG5 := Lib.hid (setRow_heap (wc.drewN nq) w.heap.size zC cs _ _ HGX.out)
              have HB5 := Lib.hid (below_setRow HBX.out (Nat.le_refl _) cs)
              have HTY := Lib.hid (show TxAt ((wc.drewN nq).setRow w.heap.size cs) (.slice ta xs.length tc2) xs from tx_setRow ((MM.out.fresh (drewN_below wc nq)).rowAt (i := 2) rfl) HGX.out (by decide))
              generalize (wc.drewN nq).setRow w.heap.size cs = w5 at *
              go_wp2
              (try simp only [Exit.inBlock, Exit.then])
              refine bodyPost_ret (results_cell_tmp2 (p := 2) (u := 3) (v := 4) rfl _ w5 w.heap.size _ cs (0, 0) _ rfl HG5.out Tryz.underlying24 rfl (by rw [hsz]; kernel_rfl)) rfl ?_
              exact ⟨_, by rw [HP.out, HO9.out]; rfl, by rw [HP.out, HO9.out, HCS.out]; exact ⟨.slice ta xs.length tc2, rfl, HTY.out⟩, HB5.out⟩
            · have hkb : (z.kind != 3) = true := by simpa using hk
              have HO9 := Lib.hid (show out L = (zero, z.pos, 12) from out_bad (HRZ.out ▸ HPR.out) (fun _ _ => rfl) (by rw [hR]; exact fin_more hk))
              clear hk hR
              go_wp2
              go_quiet (fail)
              have H := Lib.hid (y_fail (i := 0) (MM.out.fresh (drewN_below wc nq)) rfl HV.out hL HFIT.out (x := 12) (by decide))
              go_wp2_with (go_at_call 27; refine (H.out).mono ?_; rintro e9 w9 ⟨rfl, p2, e2, hf2, m2⟩; refine Hid.out ?_)
              refine Lib.hid ?_
              have hf3 : e2 = 12 ∧ p2 = z.pos := by rw [HR.out] at hf2; exact ⟨hf2.1, hf2.2.2.1⟩
              obtain ⟨rfl, rfl⟩ := hf3
              have r3 := m2.raw_at (i := 0) rfl
              have c2 : (w9).cell? ⟨b, 2, none⟩ = some (.int .i64 z.pos) := by rw [Lib.cell_of_heap r3]; rfl
              have c3 : (w9).cell? ⟨b, 3, none⟩ = some (.int .i64 12) := by rw [Lib.cell_of_heap r3]; rfl
              have hbel2 := m2.below
              have HG9 := Lib.hid (show (w9).heap[w.heap.size]? = some (.cells zC 24) from (hbel2.block _ (Nat.lt_of_lt_of_le hwa HB1.out.size)).trans ((HB1.out.block _ hwa).trans HA0.out))
              have HB9 := Lib.hid ((HB0.out.trans (HB1.out.mono HB0.out.size)).trans (hbel2.mono (Nat.le_trans HB0.out.size HB1.out.size)))
              clear r3 hbel2 m2 hf2 H c0 c1 tc
              go_wp2
              have C2X : w9.drew.cell? ⟨b, 2, none⟩ = some (.int .i64 z.pos) := c2
              have C3X : w9.drew.cell? ⟨b, 3, none⟩ = some (.int .i64 12) := c3
              have HGX := Lib.hid (show w9.drew.heap[w.heap.size]? = some (.cells zC 24) from HG9.out)
              have HBX := Lib.hid (show Below w.heap.size w w9.drew from HB9.out.trans ((below_drew _).mono HB9.out.size))
              have hbne : b ≠ w.heap.size := by have h1 := HBB.out; have h2 := HB1.out.size; omega
              clear c2 c3
              have S0 : (w9).drew.cell? ⟨b, 2, none⟩ = some (.int .i64 z.pos) ∧ (w9).drew.cell? ⟨b, 3, none⟩ = some (.int .i64 12) := ⟨C2X, C3X⟩
              refine region_tillD 11 (fun wx => wx.cell? ⟨b, 2, none⟩ = some (.int .i64 z.pos) ∧ wx.cell? ⟨b, 3, none⟩ = some (.int .i64 12)) (by kernel_rfl) ?_
              refine till_take 0 40 false (v := ?v0r) (by kernel_rfl) (by kernel_rfl) (by kernel_rfl) (by kernel_rfl) (by kernel_rfl) (fun _ _ _ h => h) ?hw0r S0 ?hy0r ?rest0r
              case hw0r => (simp only [List.getElem?_toArray, List.getElem?_cons_zero, Option.elim]; rfl)
              case hy0r => (simp only [List.getElem?_toArray, List.getElem?_cons_zero, Option.elim]; intro wx _; go_simp; with_reducible rfl)
              simp only [dstOf, List.getElem?_toArray, List.getElem?_cons_zero, Option.bind, Act.put, List.setIfInBounds_toArray, List.set_cons_zero, List.set_cons_succ]
              refine till_take 1 40 false (v := ?v1r) (by kernel_rfl) (by kernel_rfl) (by kernel_rfl) (by kernel_rfl) (by kernel_rfl) (fun _ _ _ h => h) ?hw1r S0 ?hy1r ?rest1r
              case hw1r => (simp only [List.getElem?_toArray, List.getElem?_cons_zero, List.getElem?_cons_succ, Option.elim]; rfl)
              case hy1r => (simp only [List.getElem?_toArray, List.getElem?_cons_zero, List.getElem?_cons_succ, Option.elim]; intro wx _; go_simp; with_reducible rfl)
              simp only [dstOf, List.getElem?_toArray, List.getElem?_cons_zero, List.getElem?_cons_succ, Option.bind, Act.put, List.setIfInBounds_toArray, List.set_cons_zero, List.set_cons_succ]
              refine till_take 2 40 false (v := ?v2r) (by kernel_rfl) (by kernel_rfl) (by kernel_rfl) (by kernel_rfl) (by kernel_rfl) (fun _ _ _ h => h) ?hw2r S0 ?hy2r ?rest2r
              case hw2r => (simp only [List.getElem?_toArray, List.getElem?_cons_zero, List.getElem?_cons_succ, Option.elim]; rfl)
              case hy2r => (simp only [List.getElem?_toArray, List.getElem?_cons_zero, List.getElem?_cons_succ, Option.elim]; intro wx _; go_simp; with_reducible rfl)
              simp only [dstOf, List.getElem?_toArray, List.getElem?_cons_zero, List.getElem?_cons_succ, Option.bind, Act.put, List.setIfInBounds_toArray, List.set_cons_zero, List.set_cons_succ]
              refine till_take 3 40 false (v := ?v3r) (by kernel_rfl) (by kernel_rfl) (by kernel_rfl) (by kernel_rfl) (by kernel_rfl) (fun _ _ _ h => h) ?hw3r S0 ?hy3r ?rest3r
              case hw3r => (simp only [List.getElem?_toArray, List.getElem?_cons_zero, List.getElem?_cons_succ, Option.elim]; rfl)
              case hy3r => (simp only [List.getElem?_toArray, List.getElem?_cons_zero, List.getElem?_cons_succ, Option.elim]; intro wx _; go_simp; with_reducible rfl)
              simp only [dstOf, List.getElem?_toArray, List.getElem?_cons_zero, List.getElem?_cons_succ, Option.bind, Act.put, List.setIfInBounds_toArray, List.set_cons_zero, List.set_cons_succ]
              refine till_take 4 40 true (v := ?v4r) (by kernel_rfl) (by kernel_rfl) (by kernel_rfl) (by kernel_rfl) (by kernel_rfl) (fun _ _ _ h => h) ?hw4r S0 ?hy4r ?rest4r
              case hw4r => (simp only [List.getElem?_toArray, List.getElem?_cons_zero, List.getElem?_cons_succ, Option.elim]; rfl)
              case hy4r => (simp only [List.getElem?_toArray, List.getElem?_cons_zero, List.getElem?_cons_succ, Option.elim]; intro wx hx; have x0 := (hx trivial).1; have x1 := (hx trivial).2; go_simp; with_reducible rfl)
              simp only [dstOf, List.getElem?_toArray, List.getElem?_cons_zero, List.getElem?_cons_succ, Option.bind, Act.put, List.setIfInBounds_toArray, List.set_cons_zero, List.set_cons_succ]
              refine till_take 5 40 false (v := ?v5r) (by kernel_rfl) (by kernel_rfl) (by kernel_rfl) (by kernel_rfl) (by kernel_rfl) (fun _ _ _ h => h) ?hw5r S0 ?hy5r ?rest5r
              case hw5r => (simp only [List.getElem?_toArray, List.getElem?_cons_zero, List.getElem?_cons_succ, Option.elim]; rfl)
              case hy5r => (simp only [List.getElem?_toArray, List.getElem?_cons_zero, List.getElem?_cons_succ, Option.elim]; intro wx _; go_simp; with_reducible rfl)
              simp only [dstOf, List.getElem?_toArray, List.getElem?_cons_zero, List.getElem?_cons_succ, Option.bind, Act.put, List.setIfInBounds_toArray, List.set_cons_zero, List.set_cons_succ]
              refine till_take 6 40 false (v := ?v6r) (by kernel_rfl) (by kernel_rfl) (by kernel_rfl) (by kernel_rfl) (by kernel_rfl) (fun _ _ _ h => h) ?hw6r S0 ?hy6r ?rest6r
              case hw6r => (simp only [List.getElem?_toArray, List.getElem?_cons_zero, List.getElem?_cons_succ, Option.elim]; rfl)
              case hy6r => (simp only [List.getElem?_toArray, List.getElem?_cons_zero, List.getElem?_cons_succ, Option.elim]; intro wx _; go_simp; with_reducible rfl)
              simp only [dstOf, List.getElem?_toArray, List.getElem?_cons_zero, List.getElem?_cons_succ, Option.bind, Act.put, List.setIfInBounds_toArray, List.set_cons_zero, List.set_cons_succ]
              refine till_take 7 40 false (v := ?v7r) (by kernel_rfl) (by kernel_rfl) (by kernel_rfl) (by kernel_rfl) (by kernel_rfl) (fun _ _ _ h => h) ?hw7r S0 ?hy7r ?rest7r
              case hw7r => (simp only [List.getElem?_toArray, List.getElem?_cons_zero, List.getElem?_cons_succ, Option.elim]; rfl)
              case hy7r => (simp only [List.getElem?_toArray, List.getElem?_cons_zero, List.getElem?_cons_succ, Option.elim]; intro wx _; go_simp; with_reducible rfl)
              simp only [dstOf, List.getElem?_toArray, List.getElem?_cons_zero, List.getElem?_cons_succ, Option.bind, Act.put, List.setIfInBounds_toArray, List.set_cons_zero, List.set_cons_succ]
              refine till_take 8 40 true (v := ?v8r) (by kernel_rfl) (by kernel_rfl) (by kernel_rfl) (by kernel_rfl) (by kernel_rfl) (fun _ _ _ h => h) ?hw8r S0 ?hy8r ?rest8r
              case hw8r => (simp only [List.getElem?_toArray, List.getElem?_cons_zero, List.getElem?_cons_succ, Option.elim]; rfl)
              case hy8r => (simp only [List.getElem?_toArray, List.getElem?_cons_zero, List.getElem?_cons_succ, Option.elim]; intro wx hx; have x0 := (hx trivial).1; have x1 := (hx trivial).2; go_simp; with_reducible rfl)
              simp only [dstOf, List.getElem?_toArray, List.getElem?_cons_zero, List.getElem?_cons_succ, Option.bind, Act.put, List.setIfInBounds_toArray, List.set_cons_zero, List.set_cons_succ]
              refine till_before 9 (by kernel_rfl) (fun K hK => ?_)
              simp only [List.getElem?_toArray, List.getElem?_cons_zero, List.getElem?_cons_succ, Option.elim]
              rw [if_pos (by rfl)]
              refine wp_store_row 24 (.tmp 2) (.tmp 177) rfl w.heap.size zC rfl rfl _ zC HGX.out (by kernel_rfl) rfl (by kernel_rfl) ?_
              refine hK.out _ _ (⟨(cell_setRow_other _ _ _ _ hbne).trans C2X, (cell_setRow_other _ _ _ _ hbne).trans C3X⟩) ?_
              clear hK K
              clear S0
              have HG5 := Lib.hid (setRow_heap (w9).drew w.heap.size zC zC _ _ HGX.out)
              have HB5 := Lib.hid (below_setRow HBX.out (Nat.le_refl _) zC)
              have S0 : ((w9).drew.setRow w.heap.size zC).cell? ⟨b, 2, none⟩ = some (.int .i64 z.pos) ∧ ((w9).drew.setRow w.heap.size zC).cell? ⟨b, 3, none⟩ = some (.int .i64 12) := ⟨(cell_setRow_other _ _ _ _ hbne).trans C2X, (cell_setRow_other _ _ _ _ hbne).trans C3X⟩
              clear C2X C3X
              generalize (w9).drew.setRow w.heap.size zC = w5 at *
              refine till_take 10 40 false (v := ?v10r) (by kernel_rfl) (by kernel_rfl) (by kernel_rfl) (by kernel_rfl) (by kernel_rfl) (fun _ _ _ h => h) ?hw10r S0 ?hy10r ?rest10r
              case hw10r => (simp only [List.getElem?_toArray, List.getElem?_cons_zero, List.getElem?_cons_succ, Option.elim]; rfl)
              case hy10r => (simp only [List.getElem?_toArray, List.getElem?_cons_zero, List.getElem?_cons_succ, Option.elim]; intro wx _; go_simp; with_reducible rfl)
              simp only [dstOf, List.getElem?_toArray, List.getElem?_cons_zero, List.getElem?_cons_succ, Option.bind, Act.put, List.setIfInBounds_toArray, List.set_cons_zero, List.set_cons_succ]
              refine till_step 11 (by kernel_rfl) (by kernel_rfl) (fun K hK => ?_)
              simp only [List.getElem?_toArray, List.getElem?_cons_zero, List.getElem?_cons_succ, Option.elim]
              rw [if_pos (by rfl)]
              go_simp
              refine hK.out _ _ ?_
              clear hK K
              try simp only [Act.put, List.setIfInBounds_toArray, List.set_cons_zero, List.set_cons_succ]
              refine till_end (by kernel_rfl) ?_ _
              clear S0
              go_wp2
              (try simp only [Exit.inBlock, Exit.then])
              refine bodyPost_ret (results_cell_tmp2 (p := 2) (u := 3) (v := 4) rfl _ w5 w.heap.size _ zC (0, 0) _ rfl HG5.out Tryz.underlying24 rfl (by kernel_rfl)) rfl ?_
              exact ⟨_, by rw [HP.out, HO9.out]; rfl, by rw [HP.out, HO9.out]; exact ⟨.slice none 0 0, rfl, TxAt.nil _⟩, HB5.out⟩
          · have heb : (e == 0) = false := by simpa using he
            have hen : (e != 0) = true := by simpa using he
            have HE0 := Lib.hid he
            clear he
            have HO9 := Lib.hid (show out L = (zero, p, e) by
              obtain ⟨l, hl⟩ : ∃ l, R47 = .error (l, e) ∧ p = posOf l := by
                have h := HFIT.out
                cases hq : R47 with
                | ok l => rw [hq] at h; exact absurd h.2.2 HE0.out
                | error x => rw [hq] at h; obtain ⟨l, y⟩ := x; exact ⟨l, by rw [h.1], h.2.2.1⟩
              rw [hl.2]
              exact out_bad (HRZ.out ▸ HPR.out) (fun _ _ => rfl) (by rw [hl.1]; rfl))
            go_wp2
            go_quiet (fail)
            go_wp2
            have C2X : (wc.drewN nq).drew.cell? ⟨b, 2, none⟩ = some (.int .i64 p) := c2
            have C3X : (wc.drewN nq).drew.cell? ⟨b, 3, none⟩ = some (.int .i64 e) := c3
            have HGX := Lib.hid (show (wc.drewN nq).drew.heap[w.heap.size]? = some (.cells zC 24) from HG9.out)
            have HBX := Lib.hid (show Below w.heap.size w (wc.drewN nq).drew from HB9.out.trans (((drewN_below wc nq).trans ((below_drew _).mono (Nat.le_of_eq rfl))).mono HB9.out.size))
            have hbne : b ≠ w.heap.size := by have h1 := HBB.out; have h2 := HB1.out.size; omega
            clear c0 c1 c2 c3 tc
            have S0 : (wc.drewN nq).drew.cell? ⟨b, 2, none⟩ = some (.int .i64 p) ∧ (wc.drewN nq).drew.cell? ⟨b, 3, none⟩ = some (.int .i64 e) := ⟨C2X, C3X⟩
            refine region_tillD 11 (fun wx => wx.cell? ⟨b, 2, none⟩ = some (.int .i64 p) ∧ wx.cell? ⟨b, 3, none⟩ = some (.int .i64 e)) (by kernel_rfl) ?_
            refine till_take 0 40 false (v := ?v0q) (by kernel_rfl) (by kernel_rfl) (by kernel_rfl) (by kernel_rfl) (by kernel_rfl) (fun _ _ _ h => h) ?hw0q S0 ?hy0q ?rest0q
            case hw0q => (simp only [List.getElem?_toArray, List.getElem?_cons_zero, Option.elim]; rfl)
            case hy0q => (simp only [List.getElem?_toArray, List.getElem?_cons_zero, Option.elim]; intro wx _; go_simp; with_reducible rfl)
            simp only [dstOf, List.getElem?_toArray, List.getElem?_cons_zero, Option.bind, Act.put, List.setIfInBounds_toArray, List.set_cons_zero, List.set_cons_succ]
            refine till_take 1 40 false (v := ?v1q) (by kernel_rfl) (by kernel_rfl) (by kernel_rfl) (by kernel_rfl) (by kernel_rfl) (fun _ _ _ h => h) ?hw1q S0 ?hy1q ?rest1q
            case hw1q => (simp only [List.getElem?_toArray, List.getElem?_cons_zero, List.getElem?_cons_succ, Option.elim]; rfl)
            case hy1q => (simp only [List.getElem?_toArray, List.getElem?_cons_zero, List.getElem?_cons_succ, Option.elim]; intro wx _; go_simp; with_reducible rfl)
            simp only [dstOf, List.getElem?_toArray, List.getElem?_cons_zero, List.getElem?_cons_succ, Option.bind, Act.put, List.setIfInBounds_toArray, List.set_cons_zero, List.set_cons_succ]
            refine till_take 2 40 false (v := ?v2q) (by kernel_rfl) (by kernel_rfl) (by kernel_rfl) (by kernel_rfl) (by kernel_rfl) (fun _ _ _ h => h) ?hw2q S0 ?hy2q ?rest2q
            case hw2q => (simp only [List.getElem?_toArray, List.getElem?_cons_zero, List.getElem?_cons_succ, Option.elim]; rfl)
            case hy2q => (simp only [List.getElem?_toArray, List.getElem?_cons_zero, List.getElem?_cons_succ, Option.elim]; intro wx _; go_simp; with_reducible rfl)
            simp only [dstOf, List.getElem?_toArray, List.getElem?_cons_zero, List.getElem?_cons_succ, Option.bind, Act.put, List.setIfInBounds_toArray, List.set_cons_zero, List.set_cons_succ]
            refine till_take 3 40 false (v := ?v3q) (by kernel_rfl) (by kernel_rfl) (by kernel_rfl) (by kernel_rfl) (by kernel_rfl) (fun _ _ _ h => h) ?hw3q S0 ?hy3q ?rest3q
            case hw3q => (simp only [List.getElem?_toArray, List.getElem?_cons_zero, List.getElem?_cons_succ, Option.elim]; rfl)
            case hy3q => (simp only [List.getElem?_toArray, List.getElem?_cons_zero, List.getElem?_cons_succ, Option.elim]; intro wx _; go_simp; with_reducible rfl)
            simp only [dstOf, List.getElem?_toArray, List.getElem?_cons_zero, List.getElem?_cons_succ, Option.bind, Act.put, List.setIfInBounds_toArray, List.set_cons_zero, List.set_cons_succ]
            refine till_take 4 40 true (v := ?v4q) (by kernel_rfl) (by kernel_rfl) (by kernel_rfl) (by kernel_rfl) (by kernel_rfl) (fun _ _ _ h => h) ?hw4q S0 ?hy4q ?rest4q
            case hw4q => (simp only [List.getElem?_toArray, List.getElem?_cons_zero, List.getElem?_cons_succ, Option.elim]; rfl)
            case hy4q => (simp only [List.getElem?_toArray, List.getElem?_cons_zero, List.getElem?_cons_succ, Option.elim]; intro wx hx; have x0 := (hx trivial).1; have x1 := (hx trivial).2; go_simp; with_reducible rfl)
            simp only [dstOf, List.getElem?_toArray, List.getElem?_cons_zero, List.getElem?_cons_succ, Option.bind, Act.put, List.setIfInBounds_toArray, List.set_cons_zero, List.set_cons_succ]
            refine till_take 5 40 false (v := ?v5q) (by kernel_rfl) (by kernel_rfl) (by kernel_rfl) (by kernel_rfl) (by kernel_rfl) (fun _ _ _ h => h) ?hw5q S0 ?hy5q ?rest5q
            case hw5q => (simp only [List.getElem?_toArray, List.getElem?_cons_zero, List.getElem?_cons_succ, Option.elim]; rfl)
            case hy5q => (simp only [List.getElem?_toArray, List.getElem?_cons_zero, List.getElem?_cons_succ, Option.elim]; intro wx _; go_simp; with_reducible rfl)
            simp only [dstOf, List.getElem?_toArray, List.getElem?_cons_zero, List.getElem?_cons_succ, Option.bind, Act.put, List.setIfInBounds_toArray, List.set_cons_zero, List.set_cons_succ]
            refine till_take 6 40 false (v := ?v6q) (by kernel_rfl) (by kernel_rfl) (by kernel_rfl) (by kernel_rfl) (by kernel_rfl) (fun _ _ _ h => h) ?hw6q S0 ?hy6q ?rest6q
            case hw6q => (simp only [List.getElem?_toArray, List.getElem?_cons_zero, List.getElem?_cons_succ, Option.elim]; rfl)
            case hy6q => (simp only [List.getElem?_toArray, List.getElem?_cons_zero, List.getElem?_cons_succ, Option.elim]; intro wx _; go_simp; with_reducible rfl)
            simp only [dstOf, List.getElem?_toArray, List.getElem?_cons_zero, List.getElem?_cons_succ, Option.bind, Act.put, List.setIfInBounds_toArray, List.set_cons_zero, List.set_cons_succ]
            refine till_take 7 40 false (v := ?v7q) (by kernel_rfl) (by kernel_rfl) (by kernel_rfl) (by kernel_rfl) (by kernel_rfl) (fun _ _ _ h => h) ?hw7q S0 ?hy7q ?rest7q
            case hw7q => (simp only [List.getElem?_toArray, List.getElem?_cons_zero, List.getElem?_cons_succ, Option.elim]; rfl)
            case hy7q => (simp only [List.getElem?_toArray, List.getElem?_cons_zero, List.getElem?_cons_succ, Option.elim]; intro wx _; go_simp; with_reducible rfl)
            simp only [dstOf, List.getElem?_toArray, List.getElem?_cons_zero, List.getElem?_cons_succ, Option.bind, Act.put, List.setIfInBounds_toArray, List.set_cons_zero, List.set_cons_succ]
            refine till_take 8 40 true (v := ?v8q) (by kernel_rfl) (by kernel_rfl) (by kernel_rfl) (by kernel_rfl) (by kernel_rfl) (fun _ _ _ h => h) ?hw8q S0 ?hy8q ?rest8q
            case hw8q => (simp only [List.getElem?_toArray, List.getElem?_cons_zero, List.getElem?_cons_succ, Option.elim]; rfl)
            case hy8q => (simp only [List.getElem?_toArray, List.getElem?_cons_zero, List.getElem?_cons_succ, Option.elim]; intro wx hx; have x0 := (hx trivial).1; have x1 := (hx trivial).2; go_simp; with_reducible rfl)
            simp only [dstOf, List.getElem?_toArray, List.getElem?_cons_zero, List.getElem?_cons_succ, Option.bind, Act.put, List.setIfInBounds_toArray, List.set_cons_zero, List.set_cons_succ]
            refine till_before 9 (by kernel_rfl) (fun K hK => ?_)
            simp only [List.getElem?_toArray, List.getElem?_cons_zero, List.getElem?_cons_succ, Option.elim]
            rw [if_pos (by rfl)]
            refine wp_store_row 24 (.tmp 2) (.tmp 177) rfl w.heap.size zC rfl rfl _ zC HGX.out (by kernel_rfl) rfl (by kernel_rfl) ?_
            refine hK.out _ _ (⟨(cell_setRow_other _ _ _ _ hbne).trans C2X, (cell_setRow_other _ _ _ _ hbne).trans C3X⟩) ?_
            clear hK K
            clear S0
            have HG5 := Lib.hid (setRow_heap (wc.drewN nq).drew w.heap.size zC zC _ _ HGX.out)
            have HB5 := Lib.hid (below_setRow HBX.out (Nat.le_refl _) zC)
            have S0 : ((wc.drewN nq).drew.setRow w.heap.size zC).cell? ⟨b, 2, none⟩ = some (.int .i64 p) ∧ ((wc.drewN nq).drew.setRow w.heap.size zC).cell? ⟨b, 3, none⟩ = some (.int .i64 e) := ⟨(cell_setRow_other _ _ _ _ hbne).trans C2X, (cell_setRow_other _ _ _ _ hbne).trans C3X⟩
            clear C2X C3X
            generalize (wc.drewN nq).drew.setRow w.heap.size zC = w5 at *
            refine till_take 10 40 false (v := ?v10q) (by kernel_rfl) (by kernel_rfl) (by kernel_rfl) (by kernel_rfl) (by kernel_rfl) (fun _ _ _ h => h) ?hw10q S0 ?hy10q ?rest10q
            case hw10q => (simp only [List.getElem?_toArray, List.getElem?_cons_zero, List.getElem?_cons_succ, Option.elim]; rfl)
            case hy10q => (simp only [List.getElem?_toArray, List.getElem?_cons_zero, List.getElem?_cons_succ, Option.elim]; intro wx _; go_simp; with_reducible rfl)
            simp only [dstOf, List.getElem?_toArray, List.getElem?_cons_zero, List.getElem?_cons_succ, Option.bind, Act.put, List.setIfInBounds_toArray, List.set_cons_zero, List.set_cons_succ]
            refine till_step 11 (by kernel_rfl) (by kernel_rfl) (fun K hK => ?_)
            simp only [List.getElem?_toArray, List.getElem?_cons_zero, List.getElem?_cons_succ, Option.elim]
            rw [if_pos (by rfl)]
            go_simp
            refine hK.out _ _ ?_
            clear hK K
            try simp only [Act.put, List.setIfInBounds_toArray, List.set_cons_zero, List.set_cons_succ]
            refine till_end (by kernel_rfl) ?_ _
            clear S0
            go_wp2
            (try simp only [Exit.inBlock, Exit.then])
            refine bodyPost_ret (results_cell_tmp2 (p := 2) (u := 3) (v := 4) rfl _ w5 w.heap.size _ zC (0, 0) _ rfl HG5.out Tryz.underlying24 rfl (by kernel_rfl)) rfl ?_
            exact ⟨_, by rw [HP.out, HO9.out]; rfl, by rw [HP.out, HO9.out]; exact ⟨.slice none 0 0, rfl, TxAt.nil _⟩, HB5.out⟩
  · have HP := Lib.hid (parse_bad HLR.out he)
    have hne : (e0 != 0) = true := by simpa using he
    have hg := (HB1.out.block _ hwa).trans HA0.out
    have HB2 := Lib.hid (HB0.out.trans (HB1.out.mono HB0.out.size))
    have HG := Lib.hid hg
    clear hg he
    go_upto_region 3 with fail
    refine wp_region_lit ?_
    refine list_ev (v := .agg zC) rfl (by unfold zC; go_simp; try rfl) ?_
    simp only [Act.put, List.setIfInBounds_toArray, List.set_cons_zero, List.set_cons_succ]
    refine list_ev (v := .int .i64 p0) rfl (ev_move rfl rfl) ?_
    refine list_ev (v := .int .i64 e0) rfl (ev_move rfl rfl) ?_
    simp only [Act.put, List.setIfInBounds_toArray, List.set_cons_zero, List.set_cons_succ]
    refine wpList_store_row rfl 24 (.tmp 2) (.tmp 18) rfl w.heap.size zC rfl rfl _ zC HG.out (by kernel_rfl) rfl (by kernel_rfl) ?_
    have HG2 := Lib.hid (setRow_heap w1 w.heap.size zC zC _ _ HG.out)
    have HB3 := Lib.hid (below_setRow HB2.out (Nat.le_refl _) zC)
    generalize w1.setRow w.heap.size zC = w5 at *
    go_wp2
    (try simp only [Exit.inBlock, Exit.then])
    refine bodyPost_ret (results_cell_tmp2 (p := 2) (u := 3) (v := 4) rfl _ _ w.heap.size _ zC (0, 0) _ rfl HG2.out Tryz.underlying24 rfl (by kernel_rfl)) rfl ?_
    exact ⟨_, by rw [HP.out]; rfl, by rw [HP.out]; exact ⟨.slice none 0 0, rfl, TxAt.nil _⟩, HB3.out⟩
end Go.Proofs.YtlefgffnjcmfoaaGreatDoor
namespace Go.Proofs.YtlefgffnjcmfoaaGreatDoor
open Go.RowKit Go.Maps Go.ChangeMaps Go.MapKept
open Lx Sy
namespace Ch
section
variable {P : Program} {ops : Array Oper} {Q : Exit → Act → World → Prop} {rest : List Oper} {w : World} {a : Act}
theorem list_callP {o : Oper} {fn : FuncId} {args : Array Value} {Post : Ending → World → Prop} (hw : Region.wanted o (yielded ops a.tmps) = true) (h : (execOp a.eval o).run P w = .ok (.enter fn args) w) (hC : Calls P fn args w Post)
    (hr : ∀ e w', Post e w' → ∃ v, e = .returned v ∧ wpList P ops Q rest (a.put o.dst v) w') : wpList P ops Q (o :: rest) a w :=
  wpList_step fun K hK => by
    rw [if_pos hw]
    show o.upon P a K Q ((execOp a.eval o).run P w)
    rw [h, Oper.upon_enter]
    refine hC.mono ?_
    intro e w' hp
    obtain ⟨v, rfl, h2⟩ := hr e w' hp
    exact hK _ _ h2
theorem want_undef {o : Oper} {g s : Nat} {b : Bool} (ho : o.guard = some (g, b)) (hg : (ops[g]?).bind (·.dst) = some s) (hs : a.tmps[s]? = some undef) : Region.wanted o (yielded ops a.tmps) = false := by
  have hy : yielded ops a.tmps g = none := by unfold yielded; rw [hg, Option.bind_some, hs]; rfl
  unfold Region.wanted
  rw [ho]
  simp only
  rw [hy]; rfl
theorem ev_call2 {fn : FuncId} {d : Option Tmp} {ats : Array TypeId} {ty : TypeId} {po : String} {af : Array Edge} {gd : Option (Nat × Bool)} {s1 s2 : Nat} {u v : Value} (h1 : a.tmps[s1]? = some u) (h2 : a.tmps[s2]? = some v) (he : ∀ args w, (callFunc fn args).run P w = .ok (.enter fn args) w) :
    (execOp a.eval { dst := d, op := .call { callee := .value (.func fn), args := #[.tmp s1, .tmp s2], argTypes := ats }, type := ty, pos := po, after := af, guard := gd }).run P w = .ok (.enter fn #[u, v]) w := by
  have this := he #[u, v] w
  simp [go_sem]
  rw [h1, h2, Option.getD_some, Option.getD_some]
  exact this
theorem ev_callC {fn : FuncId} {d : Option Tmp} {ats : Array TypeId} {ty : TypeId} {po : String} {af : Array Edge} {gd : Option (Nat × Bool)} {z : Value} (he : ∀ args w, (callFunc fn args).run P w = .ok (.enter fn args) w) :
    (execOp a.eval { dst := d, op := .call { callee := .value (.func fn), args := #[.const z], argTypes := ats }, type := ty, pos := po, after := af, guard := gd }).run P w = .ok (.enter fn #[z]) w := by
  have this := he #[z] w
  simp [go_sem]
  exact this
end
end Ch
theorem PfAt.cells {w : World} {x : Value} {p : Pf} (h : PfAt w x p) : ∃ cs : Array Value, x = .agg cs ∧ cs.size = 22 ∧ cs.all (·.oneCell') = true := by
  obtain ⟨tv, rfl, h2⟩ := h
  obtain ⟨a, c, rfl⟩ := h2.slice
  exact ⟨_, rfl, rfl, by simp [Value.oneCell']⟩
/-- A profile in a block of its own. -/
structure Box (w : World) (b : Nat) (cs : Array Value) (p : Pf) : Prop where
  heap : w.heap[b]? = some (.cells cs 24 (0, 0))
  pf : PfAt w (.agg cs) p
  size : cs.size = 22
theorem Box.keep {w w' : World} {b : Nat} {cs : Array Value} {p : Pf} (h : Box w b cs p) (hb : Below w.heap.size w w') : Box w' b cs p :=
  ⟨(hb.block b (Array.getElem?_eq_some_iff.1 h.heap).1).trans h.heap, h.pf.keep hb, h.size⟩
theorem pf_size {w : World} {cs : Array Value} {p : Pf} (h : PfAt w (.agg cs) p) : cs.size = 22 := by
  obtain ⟨cs', h1, h2, _⟩ := h.cells
  cases h1; exact h2
theorem pf_one {w : World} {cs : Array Value} {p : Pf} (h : PfAt w (.agg cs) p) : cs.all (·.oneCell') = true := by
  obtain ⟨cs', h1, _, h2⟩ := h.cells
  cases h1; exact h2
theorem Box.new {w : World} {cs : Array Value} {p : Pf} (h : PfAt w (.agg cs) p) : Box (w.alloc (.cells cs 24)) w.heap.size cs p :=
  ⟨heap_alloc_new w _, h.keep ((Below.refl _ _).alloc (Nat.le_refl _) _), pf_size h⟩
theorem Box.load {w : World} {b : Nat} {cs : Array Value} {p : Pf} (h : Box w b cs p) {a : Act} {o : Oper} {s : Nat} (ho : o.op = .load 24 (.tmp s)) (hs : a.tmps[s]? = some (.pointer (some ⟨b, 0, none⟩))) :
    (execOp a.eval o).run Tryz.prog w = .ok (.value (.agg cs)) w :=
  Ch.ev_whole ho hs h.heap Tryz.underlying24 rfl (by rw [h.size]; kernel_rfl)
section
variable {ops : Array Oper} {Q : Exit → Act → World → Prop} {rest : List Oper} {w : World} {a : Act}
variable {ty1 ty2 ty3 ty4 ty5 ty6 ty7 ty8 : TypeId} {po1 po2 po3 po4 po5 po6 po7 po8 : String} {af1 af2 af3 af4 af5 af6 af7 af8 : Array Edge}
/-- A new profile variable and what is stored into it. -/
theorem list_new {d s : Nat} {cs : Array Value} {p : Pf} (hp : PfAt w (.agg cs) p) (hd : d < a.tmps.size) (hds : d ≠ s) (hs : a.tmps[s]? = some (.agg cs))
    (h : wpList Tryz.prog ops Q rest (a.put (some d) (.pointer (some ⟨w.heap.size, 0, none⟩))) (w.alloc (.cells cs 24))) :
    wpList Tryz.prog ops Q ({ dst := some d, op := .alloc 24, type := ty1, pos := po1, after := af1, guard := none } :: { dst := none, op := .store 24 (.tmp d) (.tmp s), type := ty2, pos := po2, after := af2, guard := none } :: rest) a w := by
  refine list_evw (v := .pointer (some ⟨w.heap.size, 0, none⟩)) (w' := w.alloc (.cells zC 24)) rfl (by unfold zC; go_simp; try rfl) ?_
  refine list_skip (w' := w.alloc (.cells cs 24)) rfl (ev_store (u := .pointer (some ⟨w.heap.size, 0, none⟩)) (v := .agg cs) rfl (Ch.put_at _ _ _ hd) (by rw [Ch.put_ne _ _ hds]; exact hs) (by
    have h := run_storeAt_new (P := Tryz.prog) w 24 zC cs (by rw [pf_size hp]; kernel_rfl) (by rw [pf_size hp]; rfl) (pf_one hp)
    simpa using h)) ?_
  exact h
end
end Go.Proofs.YtlefgffnjcmfoaaGreatDoor
