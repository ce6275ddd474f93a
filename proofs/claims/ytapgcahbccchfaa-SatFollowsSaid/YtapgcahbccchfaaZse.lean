/- Package sat: the search. -/
import Derived.Test.YtapgcahbccchfaaZrp
namespace Go.Proofs.Ytapgcahbccchfaa
open Go.RowKit Go.Maps Go.ChangeMaps Go.MapKept
open St
attribute [local go_sem ↓] Go.wp_at_zero Go.wp_at_succ

theorem grown_also {w w1 w2 : World} {row : Option Nat} (h : w.grownBy w1 row) (k : w1.grownBy w2 row) : w.grownBy w2 row :=
  ⟨k.os.trans h.os, k.tape.trans h.tape, k.output.trans h.output, Nat.le_trans h.size k.size, fun x hx hr => (k.block x (Nat.lt_of_lt_of_le hx h.size) hr).trans (h.block x hx hr)⟩
theorem grown_here (w : World) (row : Option Nat) : w.grownBy w row := ⟨rfl, rfl, rfl, Nat.le_refl _, fun _ _ _ => rfl⟩
theorem grown_cell (w : World) (g j : Nat) (v : Value) : w.grownBy (w.setCell ⟨g, j, none⟩ v) (some g) :=
  ⟨rfl, rfl, rfl, by rw [set_size]; exact Nat.le_refl _, fun k hk hr => set_other (fun e => hr (by rw [e]))⟩
/-- The closure. -/
def vfun (q1 qt qv : Nat) : Value := .func (.func 39) #[] #[.pointer (some ⟨q1, 0, none⟩), .pointer (some ⟨qt, 0, none⟩), .pointer (some ⟨qv, 0, none⟩)]
/-- The variables that the closure captures. -/
structure Vis (w0 w : World) (q1 qt qv mb tb N : Nat) : Prop where
  c1 : w.cell? ⟨q1, 0, none⟩ = some (.map (some mb))
  ct : w.cell? ⟨qt, 0, none⟩ = some (.slice (some ⟨tb, 0, none⟩) N N)
  cv : w.cell? ⟨qv, 0, none⟩ = some (.func (.func 39) #[] #[.pointer (some ⟨q1, 0, none⟩), .pointer (some ⟨qt, 0, none⟩), .pointer (some ⟨qv, 0, none⟩)])
  ne : q1 ≠ tb ∧ qt ≠ tb ∧ qv ≠ tb
  base : w0.heap.size ≤ tb
  below : Below w0.heap.size w0 w
theorem Vis.keep {w0 w w' : World} {q1 qt qv mb tb N : Nat} (h : Vis w0 w q1 qt qv mb tb N) (hg : w.grownBy w' (some tb)) : Vis w0 w' q1 qt qv mb tb N :=
  ⟨hg.cell h.c1 (fun e => h.ne.1 (Option.some.inj e)), hg.cell h.ct (fun e => h.ne.2.1 (Option.some.inj e)), hg.cell h.cv (fun e => h.ne.2.2 (Option.some.inj e)), h.ne, h.base, below_grown h.below hg fun x hx => by cases hx; exact h.base⟩
/-- What visiting leaves. -/
def Visits (l : List Cl) (n : Nat) (first lit : Int) (tb : Nat) (O : List Int) (w : World) (e : Ending) (w' : World) : Prop :=
  e = .returned (.tuple #[]) ∧ ∃ T' E, WRow w' tb T' ∧ w.grownBy w' (some tb) ∧ Trl l n first T' (O ++ E) ∧ St.Shut l (O ++ E) lit ∧ ∀ z ∈ E, St.Shut l (O ++ E) z
theorem ImpAt.lookK {w0 : World} {b : Nat} {F : Int → List Int} (h : ImpAt w0 b F) (x : Int) : ∃ v, NumsAt w0 v (F x) ∧ ∀ w, Below w0.heap.size w0 w → (Instr.lookup 45 (.map (some b)) (.int .i64 x) false).run Try.prog w = .ok v w := by
  obtain ⟨c, m, h1, h2⟩ := h
  exact ⟨_, h2 x, fun w hb => (h1.block (hb.block b h1.lt)).look (t := 45) (e := 24) Try.underlying45 (Try.zeroValue24 w) x⟩
theorem take_more {α : Type} {l : List α} {k : Nat} {x : α} {P : α → Prop} (hx : l[k]? = some x) (h : ∀ y ∈ l.take k, P y) (hp : P x) : ∀ y ∈ l.take (k + 1), P y := take_all h hx hp
set_option maxHeartbeats 4000000 in
set_option maxRecDepth 100000 in
theorem p_visit {w0 : World} {l : List Cl} {n : Nat} {first : Int} {q1 qt qv mb tb : Nat} (HI : Hid (ImpAt w0 mb (fo l))) (HRR : Hid (right l (n : Int) = true)) (hll : l.length ≤ 2000) (hn : n ≤ 400) :
    ∀ (f : Nat) (O T : List Int) (lit : Int) (w : World), 2 * n < O.length + f → Vis w0 w q1 qt qv mb tb (2 * n) → WRow w tb T → Trl l n first T O → lit ∈ O →
      Calls Try.prog 39 #[.int .i64 lit, .pointer (some ⟨q1, 0, none⟩), .pointer (some ⟨qt, 0, none⟩), .pointer (some ⟨qv, 0, none⟩)] w (Visits l n first lit tb O w) := by
  intro f
  induction f with
  | zero => exact fun O T lit w hf _ _ hT _ => by have := hT.short; omega
  | succ f ih =>
    intro O T lit w hf hv hR hT hlit
    have HIH := Lib.hid ih
    have HV := Lib.hid hv
    have HR := Lib.hid hR
    have HT := Lib.hid hT
    have HL := Lib.hid hlit
    obtain ⟨v, hnum, hlk⟩ := HI.out.lookK lit
    have hlook := hlk w hv.below
    have HN := Lib.hid hnum
    obtain ⟨va, vc, hva⟩ := hnum.slice
    subst hva
    have c1 := hv.c1
    have hfl := fo_len l lit
    clear ih hv hR hT hlit hnum hlk
    unfold Visits
    go_enter Try.func39, Try.ntmps39
    go_wp2
    clear c1 hlook
    go_loopw [11] (fun i wr => ∃ (k : Nat) (T E : List Int), k ≤ (fo l lit).length ∧ i = .int .i64 k ∧ Hid (WRow wr tb T) ∧ Hid (w.grownBy wr (some tb)) ∧ Hid (Trl l n first T (O ++ E)) ∧ Hid (∀ y ∈ (fo l lit).take k, y ∈ O ++ E) ∧ Hid (∀ z ∈ E, St.Shut l (O ++ E) z)) (fun i _ => (fo l lit).length - (RowKit.intOf i).toNat)
    case atStart => exact ⟨0, T, [], Nat.zero_le _, rfl, HR, Lib.hid (grown_here _ _), by rw [List.append_nil]; exact HT, Lib.hid (fun y hy => by simp at hy), Lib.hid (fun z hz => by cases hz)⟩
    case round =>
      clear HR HT
      obtain ⟨k, T, E, hk, rfl, HR, HG, HT, HS, HE⟩ := hrel
      by_cases hlt : k < (fo l lit).length
      · obtain ⟨x, hx⟩ : ∃ x, (fo l lit)[k]? = some x := ⟨_, List.getElem?_eq_getElem hlt⟩
        have hi := fo_mem.1 (List.mem_of_getElem? hx)
        have hxl := (impl_lit HRR.out hi).1
        have hlr := (impl_lit HRR.out hi).2
        obtain ⟨q, rfl⟩ : ∃ q : Nat, x = (q : Int) := ⟨x.toNat, by omega⟩
        have hq : q < 2 * n := by omega
        have HIM := Lib.hid hi
        have HX := Lib.hid hx
        have HVr := Lib.hid (HV.out.keep HG.out)
        obtain ⟨p, hp, hpo⟩ := HT.out.at_ hq
        have hTl := HT.out.len
        have HH := p_has (x := (q : Int)) (p := p) (T := T) (t := .slice (some ⟨tb, 0, none⟩) (2 * n) (2 * n)) (by rw [← hTl]; exact HR.out.nums (by omega)) (by omega) (by omega) (by simpa using hp)
        obtain ⟨vb, voff, vcap, e1, _, hcs⟩ := (HN.out.keep HVr.out.below).form (by omega)
        cases e1
        have d0 := hcs k _ hx
        have ct := HVr.out.ct
        have hcell := HR.out.cell hp
        have HCE := Lib.hid hcell
        clear hcs hx hi hp hcell
        by_cases hm : (q : Int) ∈ O ++ E
        · rw [decide_eq_true (hpo.2 hm)] at HH
          have HH := Lib.hid HH
          have HS2 := Lib.hid (take_more HX.out HS.out hm)
          clear hm hpo
          go_wp2_with (go_at_call 35; refine (HH.out).mono ?_; rintro e w2 ⟨rfl, rfl⟩; refine Hid.out ?_)
          refine Lib.hid ?_
          go_wp2
          go_roundw
          case rel => exact ⟨k + 1, T, E, by omega, by go_num, HR, HG, HT, HS2, HE⟩
          case measure => (simp [RowKit.intOf]; try omega)
        · rw [decide_eq_false (fun q => hm (hpo.1 q))] at HH
          have HH := Lib.hid HH
          have HR2 := HR.out.set q lit
          have HG2 := HG.out.trans (grown_cell wr tb q (.int .i64 lit))
          have HV2 := Lib.hid (HV.out.keep HG2)
          have HT2 := HT.out.push (List.mem_append_left _ HL.out) hm HIM.out (by omega)
          rw [Int.toNat_natCast] at HT2
          have HC := Lib.hid (HIH.out (O ++ E ++ [(q : Int)]) (T.set q lit) (q : Int) (wr.setCell ⟨tb, q, none⟩ (.int .i64 lit)) (by simp; omega) HV2.out HR2 HT2 (by simp))
          have HG2 := Lib.hid HG2
          have cv := HV2.out.cv
          have d1 := HCE.out.1
          have d2 := HCE.out.2
          clear hm hpo HR2 HT2 HIH
          go_wp2_with (go_at_call 35; refine (HH.out).mono ?_; rintro e w2 ⟨rfl, rfl⟩; refine Hid.out ?_)
          refine Lib.hid ?_
          trace_state
          go_wp2_with (go_at_call 39; refine (HC.out).mono ?_; rintro e w3 ⟨rfl, T3, E3, r3, g3, t3, s3, e3⟩; refine Hid.out ?_)
          refine Lib.hid ?_
          have HR3 := Lib.hid r3
          have HG3 := Lib.hid (HG2.out.trans g3)
          have ea : O ++ E ++ [(q : Int)] ++ E3 = O ++ (E ++ ([(q : Int)] ++ E3)) := by simp [List.append_assoc]
          rw [ea] at t3 s3 e3
          have HT3 := Lib.hid t3
          have HS3 := Lib.hid (take_more HX.out (fun y hy => (by
            have := HS.out y hy
            rw [← List.append_assoc]; exact List.mem_append_left _ this) : ∀ y ∈ (fo l lit).take k, y ∈ O ++ (E ++ ([(q : Int)] ++ E3))) (by simp))
          have HE3 := Lib.hid (show ∀ z ∈ E ++ ([(q : Int)] ++ E3), St.Shut l (O ++ (E ++ ([(q : Int)] ++ E3))) z from fun z hz => by
            rcases List.mem_append.1 hz with h | h
            · rw [← List.append_assoc]; exact (HE.out z h).more _
            · rcases List.mem_append.1 h with h | h
              · simp at h; subst h; exact s3
              · exact e3 z h)
          clear r3 g3 t3 s3 e3 ea HC cv d1 d2
          go_wp2
          go_roundw
          case rel => exact ⟨k + 1, T3, _, by omega, by go_num, HR3, HG3, HT3, HS3, HE3⟩
          case measure => (simp [RowKit.intOf]; try omega)
      · obtain rfl : k = (fo l lit).length := by omega
        have hs := HS.out
        rw [List.take_length] at hs
        have HS2 := Lib.hid hs
        clear hs HS
        go_wp2
        go_end0
        exact ⟨rfl, T, E, HR.out, HG.out, HT.out, HS2.out, HE.out⟩
end Go.Proofs.Ytapgcahbccchfaa
