/- Several texts in one: Za, Zb, Zc, Zd, Ze, Zf. -/
import Derived.Test.YtlefgffnjcmfoaaGreatDoorMF
import Derived.Test.YtlefgffnjcmfoaaGreatDoorME
import Derived.Laws.CopyRow
import Derived.Laws.CopyOwn
import Derived.Deep.WholeRow
import Derived.Deep.Cut
import Derived.Laws.Tables
import Derived.Test.YtlefgffnjcmfoaaGreatDoorMD
import Derived.Test.YtlefgffnjcmfoaaGreatDoorMP
import Derived.Deep.CutRange
namespace Go.Proofs.YtlefgffnjcmfoaaGreatDoor
open Lx Sy
/-- A word of the grammar: it begins with no digit. -/
def kwOk (s : S) : Bool := match s with
  | c :: _ => !digit c
  | [] => false
/-- What the texts of tokens are. -/
def Txt (l : List Tk) : Prop := ∀ t ∈ l, (t.kind = 3 → t.text = []) ∧ (t.kind = 1 → ∃ c r, t.text = c :: r ∧ digit c = true)
theorem isB_text {s : S} {t : Tk} (hk : kwOk s = true) (h3 : t.kind = 3 → t.text = []) (h1 : t.kind = 1 → ∃ c r, t.text = c :: r ∧ digit c = true) : isB s (br t) = decide (t.text = s) := by
  unfold isB br
  by_cases ht : t.text = s
  · have k3 : t.kind ≠ 3 := fun q => by rw [← ht, h3 q] at hk; cases hk
    have k1 : t.kind ≠ 1 := fun q => by
      obtain ⟨c, r, h, hd⟩ := h1 q
      rw [← ht, h] at hk
      simp [kwOk, hd] at hk
    simp [ht, k3, k1]
  · simp [ht]
theorem txt_of {s : S} {ts : List Tk} {p : Int} (h : lexRes s = (ts, p, 0)) : Txt ts := by
  obtain ⟨_, h2⟩ := res_ok h
  obtain ⟨us, rfl, h3⟩ := lex_toks h2
  intro t ht
  rcases List.mem_append.1 ht with q | q
  · have h4 := h3 t q
    refine ⟨fun k => absurd k (tok_kind h4).1, fun k => ?_⟩
    rw [k] at h4
    have h5 := (Lx.tok_num h4).1
    unfold numOk at h5
    cases hx : t.text with
    | nil => rw [hx] at h5; simp at h5
    | cons c r =>
      rw [hx] at h5
      simp only [List.all_cons, Bool.and_eq_true] at h5
      exact ⟨c, r, rfl, h5.1.1.2.1⟩
  · simp at q
    subst q
    exact ⟨fun _ => rfl, fun k => by cases k⟩
/-- Several tokens, one after the other. -/
def wants (ss : List S) (r : R) : R := ss.foldl (fun r s => (want s r).2) r
theorem wants_one (s : S) (r : R) : wants [s] r = (want s r).2 := rfl
theorem wants_two (s t : S) (r : R) : wants [s, t] r = (want t (want s r).2).2 := rfl
theorem wants_more {ss : List S} {k : Nat} {s : S} (h : ss[k]? = some s) (r : R) : wants (ss.take (k + 1)) r = (want s (wants (ss.take k) r)).2 := by
  unfold wants
  rw [List.take_add_one, h, List.foldl_append]; rfl
/-- The first word of a row that is permitted and stands there. -/
def pick (ps : List S) : List S → Nat → R → Int × R
  | [], _, r => (0, badR 12 r)
  | s :: T, k, r => if s ∈ ps ∧ isO s (hdR r) = true then ((k : Int), (want s r).2) else pick ps T (k + 1) r
theorem pick_err (ps : List S) (x : List Tk × Int) : ∀ (T : List S) (k : Nat), pick ps T k (.error x) = (0, .error x)
  | [], _ => rfl
  | s :: T, k => by
    unfold pick
    rw [if_neg (fun q => by cases q.2)]
    exact pick_err ps x T _
theorem pick_nil (ps : List S) : ∀ (T : List S) (k : Nat), pick ps T k (.ok []) = (0, .error ([], 12))
  | [], _ => rfl
  | s :: T, k => by
    unfold pick
    rw [if_neg (fun q => by cases q.2)]
    exact pick_nil ps T _
theorem want_head {s : S} {t : Tk} {l : List Tk} (h : isB s (br t) = true) : want s (.ok (t :: l)) = ((), .ok l) := by
  simp [want, tokR, h]
theorem isO_head {s : S} {t : Tk} {l : List Tk} : isO s (hdR (.ok (t :: l))) = isB s (br t) := rfl
theorem pick_go {ps : List S} {t : Tk} {l : List Tk} : ∀ (T : List S) (k : Nat), (∀ s ∈ T, s ∈ ps) → pick ps T k (.ok (t :: l)) = (match find T (br t) with | some i => (((k + i : Nat) : Int), .ok l) | none => (0, .error (t :: l, 12)))
  | [], _, _ => rfl
  | s :: T, k, h => by
    unfold pick find
    rw [List.findIdx?_cons]
    by_cases hs : isB s (br t) = true
    · rw [if_pos ⟨h s (by simp), by rw [isO_head]; exact hs⟩, if_pos hs, want_head hs]
      rfl
    · rw [if_neg (fun q => hs q.2), if_neg hs, pick_go T (k + 1) fun u hu => h u (by simp [hu])]
      unfold find
      cases List.findIdx? (fun s => isB s (br t)) T with
      | none => rfl
      | some i => simp; omega
theorem pick_hit {ps T : List S} {s : S} {k : Nat} {r : R} (h1 : s ∈ ps) (h2 : isO s (hdR r) = true) : pick ps (s :: T) k r = ((k : Int), (want s r).2) := by
  show (if s ∈ ps ∧ isO s (hdR r) = true then _ else _) = _
  rw [if_pos ⟨h1, h2⟩]
theorem pick_miss {ps T : List S} {s : S} {k : Nat} {r : R} (h : ¬ (s ∈ ps ∧ isO s (hdR r) = true)) : pick ps (s :: T) k r = pick ps T (k + 1) r := by
  show (if s ∈ ps ∧ isO s (hdR r) = true then _ else _) = _
  rw [if_neg h]
theorem pick_all (T : List S) (r : R) : pick T T 0 r = one T r := by
  match r with
  | .error x => rw [pick_err]; rfl
  | .ok [] => rw [pick_nil]; rfl
  | .ok (t :: l) =>
    rw [pick_go T 0 fun _ h => h]
    cases hf : find T (br t) with
    | none => simp [one, tokR, hf]
    | some i => simp [one, tokR, hf]
theorem pick_yn (r : R) : pick yn deW 0 r = ((if (one yn r).1 = 1 then 2 else 0), (one yn r).2) := by
  match r with
  | .error x => rw [pick_err]; rfl
  | .ok [] => rw [pick_nil]; rfl
  | .ok (t :: l) =>
    unfold one tokR find yn
    simp only [List.findIdx?_cons, List.findIdx?_nil, Option.map_none]
    have m0 : ([110, 111] : S) ∈ ([[110, 111], [121, 101, 115]] : List S) := by decide
    have m1 : ([109, 97, 114, 107] : S) ∉ ([[110, 111], [121, 101, 115]] : List S) := by decide
    have m2 : ([121, 101, 115] : S) ∈ ([[110, 111], [121, 101, 115]] : List S) := by decide
    by_cases h0 : isB [110, 111] (br t) = true
    · rw [deW, pick_hit m0 (show isO [110, 111] (hdR (.ok (t :: l))) = true from h0), want_head h0]
      simp [h0]
    · rw [deW, pick_miss (s := [110, 111]) (r := .ok (t :: l)) (fun q => h0 q.2), pick_miss (fun q => m1 q.1)]
      by_cases h1 : isB [121, 101, 115] (br t) = true
      · rw [pick_hit m2 (show isO [121, 101, 115] (hdR (.ok (t :: l))) = true from h1), want_head h1]
        simp [h0, h1]
      · rw [pick_miss (s := [121, 101, 115]) (r := .ok (t :: l)) (fun q => h1 q.2)]
        simp [pick, h0, h1, badR]
/-- A token of some kind. -/
def zTk : Tk := ⟨0, [], 0, 0⟩
def takeR (k : Int) : R → Tk × R
  | .ok (t :: l) => if t.kind = k then (t, .ok l) else (zTk, .error (t :: l, 12))
  | .ok [] => (zTk, .error ([], 12))
  | .error e => (zTk, .error e)
theorem take_name (r : R) : ((takeR 0 r).1.text, (takeR 0 r).2) = name r := by
  match r with
  | .error x => rfl
  | .ok [] => rfl
  | .ok (t :: l) =>
    unfold takeR name tokR br
    by_cases h : t.kind = 0 <;> simp [h, zTk]
/-- A number that is too small or too great is an error before it is taken. -/
def farR (k : Int) : R → R
  | .ok (t :: l) => if t.kind = 1 ∧ (t.n < k ∨ 1073741824 < t.n) then .error (t :: l, 3) else .ok (t :: l)
  | r => r
theorem take_number (k : Int) (r : R) : ((takeR 1 (farR k r)).1.n, (takeR 1 (farR k r)).2) = number k r := by
  match r with
  | .error x => rfl
  | .ok [] => rfl
  | .ok (t :: l) =>
    unfold farR number tokR br
    by_cases h : t.kind = 1
    · by_cases hn : t.n < k ∨ 1073741824 < t.n
      · have hn2 : ¬ (k ≤ t.n ∧ t.n ≤ 1073741824) := by omega
        simp [h, hn, hn2, takeR, zTk]
      · have hn2 : k ≤ t.n ∧ t.n ≤ 1073741824 := by omega
        simp [h, hn, hn2, takeR]
    · simp [h, takeR, zTk]
end Go.Proofs.YtlefgffnjcmfoaaGreatDoor
namespace Go.Proofs.YtlefgffnjcmfoaaGreatDoor
open Go.RowKit Go.Maps Go.ChangeMaps Go.MapKept
open Lx Sy
attribute [local go_sem ↓] Go.wp_at_zero Go.wp_at_succ
/-- The program's reader: an object of its own. -/
def rv (b : Nat) (v : Value) (e : Int) : Ob := .raw b (.cells #[v, .int .i64 e] 39 (0, 0))
/-- What is left to read, and the error. -/
def Hld (w0 : World) (v : Value) (e : Int) (r : R) : Prop := ∃ l, TkAt w0 v l ∧ Ends l ∧ Txt l ∧ l.length ≤ 3000 ∧ ((e = 0 ∧ r = .ok l) ∨ (e ≠ 0 ∧ r = .error (l, e)))
def LeftP (w0 : World) (os : List Ob) (i b : Nat) (r : R) (w' : World) : Prop := ∃ v e, Hld w0 v e r ∧ OMem w0 w' (os.set i (rv b v e))
theorem TkAt.next {w : World} {tb off n cap : Nat} {z : Tk} {l : List Tk} (h : TkAt w (.slice (some ⟨tb, off, none⟩) n cap) (z :: l)) : TkAt w (.slice (some ⟨tb, off + 4, none⟩) l.length (cap - 1)) l := by
  obtain ⟨a, c, hv, hl, hc⟩ := h
  cases hv
  refine ⟨_, _, rfl, ⟨by have := hl.1; simp at this; omega, fun q => by cases q⟩, fun k p hk => ?_⟩
  obtain ⟨b, o, h1, h2⟩ := hc (k + 1) p (by simpa using hk)
  cases h1
  exact ⟨tb, off + 4, rfl, by rw [show off + 4 + k * 4 = off + (k + 1) * 4 by omega]; exact h2⟩
theorem Ends.cons {l : List Tk} (h : Ends l) : ∃ z m, l = z :: m ∧ (z.kind = 3 → m = []) ∧ (z.kind ≠ 3 → Ends m ∧ m ≠ []) := by
  obtain ⟨us, E, rfl, h1, h2⟩ := h
  cases us with
  | nil => exact ⟨E, [], rfl, fun _ => rfl, fun q => absurd h1 q⟩
  | cons u us => exact ⟨u, us ++ [E], rfl, fun q => absurd q (h2 u (by simp)), fun _ => ⟨⟨us, E, rfl, h1, fun t ht => h2 t (by simp [ht])⟩, by simp⟩⟩
/-- The token that is next, as it lies there. -/
theorem Hld.head {w0 w : World} {v : Value} {e : Int} {r : R} (h : Hld w0 v e r) (hb : Below w0.heap.size w0 w) :
    ∃ z m tb off cap, v = .slice (some ⟨tb, off, none⟩) (m.length + 1) cap ∧ m.length + 1 ≤ cap ∧ m.length ≤ 3000 ∧ TkCells w tb off z ∧ ((z.kind = 3 → z.text = []) ∧ (z.kind = 1 → ∃ c r, z.text = c :: r ∧ digit c = true)) ∧
      (e = 0 → r = .ok (z :: m)) ∧ (e ≠ 0 → r = .error (z :: m, e)) ∧ (z.kind ≠ 3 → m ≠ [] ∧ Hld w0 (.slice (some ⟨tb, off + 4, none⟩) m.length (cap - 1)) 0 (.ok m)) := by
  obtain ⟨l, h1, h2, h3, h4, h5⟩ := h
  obtain ⟨z, m, rfl, k1, k2⟩ := h2.cons
  obtain ⟨tb, off, cap, rfl, hl, hc⟩ := (h1.keep hb).form (by simp)
  simp at hl h4
  refine ⟨z, m, tb, off, cap, by simp, hl, by omega, by simpa using hc 0 z rfl, h3 z (by simp), fun q => ?_, fun q => ?_, fun q => ⟨(k2 q).2, m, h1.next, (k2 q).1, fun t ht => h3 t (by simp [ht]), by omega, .inl ⟨rfl, rfl⟩⟩⟩
  · rcases h5 with h5 | h5
    · exact h5.2
    · exact absurd q h5.1
  · rcases h5 with h5 | h5
    · exact absurd h5.1 q
    · exact h5.2
theorem Hld.bad {w0 : World} {v : Value} {e x : Int} {r : R} (h : Hld w0 v e r) (hx : x ≠ 0) : Hld w0 v (if e = 0 then x else e) (badR x r) := by
  obtain ⟨l, h1, h2, h3, h4, h5⟩ := h
  refine ⟨l, h1, h2, h3, h4, ?_⟩
  rcases h5 with ⟨rfl, rfl⟩ | ⟨h5, rfl⟩
  · exact .inr ⟨by simpa using hx, rfl⟩
  · exact .inr ⟨by rw [if_neg h5]; exact h5, by rw [if_neg h5]; rfl⟩
theorem want_not {s : S} {r : R} (h : isO s (hdR r) = false) : (want s r).2 = badR 12 r := by
  match r with
  | .error x => rfl
  | .ok [] => rfl
  | .ok (t :: l) =>
    have h : isB s (br t) = false := h
    simp [want, tokR, h, badR]
/-- A token that may stand there. -/
def acc (s : S) (r : R) : R := if isO s (hdR r) = true then (want s r).2 else r
theorem acc_yes {s : S} {r : R} (h : isO s (hdR r) = true) : acc s r = (want s r).2 := if_pos h
theorem acc_no {s : S} {r : R} (h : isO s (hdR r) = false) : acc s r = r := if_neg (by rw [h]; simp)
def seesK (k : Int) : Option B → Bool
  | some b => b.1 == k
  | none => false
section
variable {w0 w : World} {os : List Ob} {i b : Nat} {v : Value} {e : Int} {r : R}
theorem hld_same (h : Hld w0 v e r) (m : OMem w0 w os) (hi : os[i]? = some (rv b v e)) : LeftP w0 os i b r w := ⟨v, e, h, by rw [set_same hi]; exact m⟩
set_option maxHeartbeats 2000000 in
set_option maxRecDepth 100000 in
theorem p_sees (h : OMem w0 w os) (hi : os[i]? = some (rv b v e)) (hH : Hld w0 v e r) (k : Int) :
    Calls Tryz.prog 68 #[.pointer (some ⟨b, 0, none⟩), .int .i64 k] w fun x w' => x = .returned (.bool (seesK k (hdR r))) ∧ Below w.heap.size w w' := by
  obtain ⟨z, m, tb, off, cap, rfl, hcap, hm, ⟨t0, t1, t2, t3⟩, hz, k0, k1, k2⟩ := hH.head h.below
  have r1 := h.raw_at hi
  have c0 : (w).cell? ⟨b, 0, none⟩ = some (.slice (some ⟨tb, off, none⟩) (m.length + 1) cap) := by rw [Lib.cell_of_heap r1]; rfl
  have c1 : (w).cell? ⟨b, 1, none⟩ = some (.int .i64 (e)) := by rw [Lib.cell_of_heap r1]; rfl
  have z0 : (w).frozen? ⟨b, 0, none⟩ = false := Lib.frozen_of_heap r1 0
  have z1 : (w).frozen? ⟨b, 1, none⟩ = false := Lib.frozen_of_heap r1 1
  clear r1
  go_enter Tryz.func68, Tryz.ntmps68
  by_cases he : e = 0
  · subst he
    have HR := Lib.hid (show seesK k (hdR r) = (z.kind == k) by rw [k0 rfl]; rfl)
    clear k0 k1 k2 hz hH h hi
    go_wp2
    go_ret
    exact ⟨ret_bool HR.out.symm, Below.refl _ _⟩
  · have he' : (e == 0) = false := beq_eq_false_iff_ne.2 he
    have HR := Lib.hid (show seesK k (hdR r) = false by rw [k1 he]; rfl)
    clear k0 k1 k2 hz hH h hi he
    go_wp2
    go_ret
    exact ⟨ret_bool HR.out.symm, Below.refl _ _⟩
set_option maxHeartbeats 2000000 in
set_option maxRecDepth 100000 in
theorem p_fail (h : OMem w0 w os) (hi : os[i]? = some (rv b v e)) (hH : Hld w0 v e r) {x : Int} (hx : x ≠ 0) :
    Calls Tryz.prog 65 #[.pointer (some ⟨b, 0, none⟩), .int .i64 x] w fun u w' => u = .returned (.tuple #[]) ∧ LeftP w0 os i b (badR x r) w' := by
  have r1 := h.raw_at hi
  have c0 : (w).cell? ⟨b, 0, none⟩ = some (v) := by rw [Lib.cell_of_heap r1]; rfl
  have c1 : (w).cell? ⟨b, 1, none⟩ = some (.int .i64 (e)) := by rw [Lib.cell_of_heap r1]; rfl
  have z0 : (w).frozen? ⟨b, 0, none⟩ = false := Lib.frozen_of_heap r1 0
  have z1 : (w).frozen? ⟨b, 1, none⟩ = false := Lib.frozen_of_heap r1 1
  clear r1
  have HB := Lib.hid (hH.bad hx)
  go_enter Tryz.func65, Tryz.ntmps65
  by_cases he : e = 0
  · have M2 := Lib.hid (show OMem w0 (w.setCell ⟨b, 1, none⟩ (.int .i64 x)) (os.set i (rv b v x)) from h.raw_set hi 1 (.int .i64 x))
    subst he
    clear h hi hH
    go_wp2
    go_end0
    exact ⟨rfl, _, _, by simpa using HB.out, M2.out⟩
  · have he' : (e == 0) = false := beq_eq_false_iff_ne.2 he
    have M2 := Lib.hid (show OMem w0 w (os.set i (rv b v e)) by rw [set_same hi]; exact h)
    have HE := Lib.hid he
    clear h hi hH he
    go_wp2
    go_end0
    exact ⟨rfl, _, _, by have := HB.out; rwa [if_neg HE.out] at this, M2.out⟩
set_option maxHeartbeats 2000000 in
set_option maxRecDepth 100000 in
theorem p_accept (h : OMem w0 w os) (hi : os[i]? = some (rv b v e)) (hH : Hld w0 v e r) {s : S} (hk : kwOk s = true) :
    Calls Tryz.prog 43 #[.pointer (some ⟨b, 0, none⟩), .string (bs s)] w fun x w' => x = .returned (.bool (isO s (hdR r))) ∧ LeftP w0 os i b (acc s r) w' := by
  have HM := Lib.hid h
  have HI := Lib.hid hi
  have HH := Lib.hid hH
  obtain ⟨z, m, tb, off, cap, rfl, hcap, hm, ⟨t0, t1, t2, t3⟩, hz, k0, k1, k2⟩ := hH.head h.below
  have r1 := h.raw_at hi
  have c0 : (w).cell? ⟨b, 0, none⟩ = some (.slice (some ⟨tb, off, none⟩) (m.length + 1) cap) := by rw [Lib.cell_of_heap r1]; rfl
  have c1 : (w).cell? ⟨b, 1, none⟩ = some (.int .i64 (e)) := by rw [Lib.cell_of_heap r1]; rfl
  have z0 : (w).frozen? ⟨b, 0, none⟩ = false := Lib.frozen_of_heap r1 0
  have z1 : (w).frozen? ⟨b, 1, none⟩ = false := Lib.frozen_of_heap r1 1
  clear r1
  go_enter Tryz.func43, Tryz.ntmps43
  by_cases he : e = 0
  · subst he
    have h0 : isO s (hdR r) = decide (z.text = s) := by rw [k0 rfl]; exact isB_text hk hz.1 hz.2
    by_cases ht : z.text = s
    · have h3 : z.kind ≠ 3 := fun q => by rw [← ht, hz.1 q] at hk; cases hk
      have hO : isO s (hdR r) = true := by rw [h0]; exact decide_eq_true ht
      have hW : (want s r).2 = .ok m := by rw [k0 rfl]; rw [k0 rfl] at hO; rw [want_head hO]
      obtain ⟨hm0, hnx⟩ := k2 h3
      have hm1 : 0 < m.length := List.length_pos_iff.2 hm0
      have M2 := Lib.hid (show OMem w0 (w.setCell ⟨b, 0, none⟩ (.slice (some ⟨tb, off + 4, none⟩) m.length (cap - 1))) (os.set i (rv b (.slice (some ⟨tb, off + 4, none⟩) m.length (cap - 1)) 0)) from h.raw_set hi 0 _)
      have HN := Lib.hid hnx
      have HO := Lib.hid hO
      have HW := Lib.hid hW
      have ht' : ((bs z.text).toList == (bs s).toList) = true := by rw [ht]; exact beq_self_eq_true _
      clear k0 k1 k2 hz hH h hi hk hO hW h0 hnx ht h3
      go_wp2
      go_ret
      exact ⟨ret_bool HO.out.symm, _, _, by rw [acc_yes HO.out, HW.out]; exact HN.out, M2.out⟩
    · have hO : isO s (hdR r) = false := by rw [h0]; exact decide_eq_false ht
      have HO := Lib.hid hO
      have ht' := str_ne ht
      clear k0 k1 k2 hz hH h hi hk hO h0 ht
      go_wp2
      go_ret
      exact ⟨ret_bool HO.out.symm, by rw [acc_no HO.out]; exact hld_same HH.out HM.out HI.out⟩
  · have hO : isO s (hdR r) = false := by rw [k1 he]; rfl
    have he' : (e != 0) = true := bne_iff_ne.2 he
    have HO := Lib.hid hO
    clear k0 k1 k2 hz hH h hi hk hO he
    go_wp2
    go_ret
    exact ⟨ret_bool HO.out.symm, by rw [acc_no HO.out]; exact hld_same HH.out HM.out HI.out⟩
end
end Go.Proofs.YtlefgffnjcmfoaaGreatDoor
namespace Go.Proofs.YtlefgffnjcmfoaaGreatDoor
open Go.RowKit Go.Maps Go.ChangeMaps Go.MapKept
open Lx Sy Ch
attribute [local go_sem ↓] Go.wp_at_zero Go.wp_at_succ
section
variable {w0 w : World} {os : List Ob} {i b : Nat} {v : Value} {e : Int} {r : R}
theorem sees_tok {k : Int} {t : Tk} {l : List Tk} : seesK k (hdR (.ok (t :: l))) = (t.kind == k) := rfl
theorem tk_no {k : Int} {r : R} (h : seesK k (hdR r) = false) : takeR k r = (zTk, badR 12 r) := by
  match r with
  | .error x => rfl
  | .ok [] => rfl
  | .ok (t :: l) =>
    have h : (t.kind == k) = false := h
    have h : t.kind ≠ k := by simpa using h
    simp [takeR, h, badR]
def tkO (t : Tk) : Obj := .cells #[.int .i64 t.kind, .string (bs t.text), .int .i64 t.n, .int .i64 t.pos] 42 (0, 0)
theorem OMem.raw_row {old : Array Value} {t : TypeId} (h : OMem w0 w os) (hi : os[i]? = some (.raw b (.cells old t (0, 0)))) (cs : Array Value) : OMem w0 (w.setRow b cs) (os.set i (.raw b (.cells cs t (0, 0)))) := by
  obtain ⟨B, S, hq, hch⟩ := h.change hi
  exact hch rfl rfl rfl (by simp) (fun x _ hn => setRow_other w b x cs fun e => hn ((hq.2.1 x).2 e)) (K' := rawK b (.cells cs t (0, 0))) (B' := (· = b)) (S' := fun _ => False) ⟨setRow_heap w b old cs _ _ hq.1, fun _ => Iff.rfl, fun _ => id⟩ (fun x hx => .inl ((hq.2.1 x).2 hx)) fun _ h => h.elim
theorem set_last {x y z : Ob} (h : i < os.length) : ((os ++ [x]).set i y).set os.length z = (os ++ [z]).set i y := by
  rw [List.set_append_left _ _ h, List.set_append_left _ _ h, List.set_append_right _ _ (by simp)]
  simp
theorem LeftP.drop {x : Ob} (hi : i < os.length) (h : LeftP w0 (os ++ [x]) i b r w) : LeftP w0 os i b r w := by
  obtain ⟨v, e, h1, h2⟩ := h
  refine ⟨v, e, h1, ?_⟩
  rw [List.set_append_left _ _ hi] at h2
  have := h2.take (os.set i (rv b v e)).length
  rwa [List.take_left] at this
theorem takes {k : Int} {z : Tk} {m : List Tk} (h : seesK k (hdR (.ok (z :: m))) = true) : z.kind = k := by
  have h : (z.kind == k) = true := h
  simpa using h
theorem sees_err {k : Int} {x : List Tk × Int} : seesK k (hdR (.error x)) = false := rfl
set_option maxHeartbeats 2000000 in
set_option maxRecDepth 100000 in
theorem p_take (h0 : OMem w0 w os) (hi : os[i]? = some (rv b v e)) (hH : Hld w0 v e r) {k : Int} (hk : k ≠ 3) :
    Calls Tryz.prog 66 #[.pointer (some ⟨b, 0, none⟩), .int .i64 k] w fun x w' => x = .returned (tkV (takeR k r).1) ∧ LeftP w0 os i b (takeR k r).2 w' := by
  have M0 := h0.raw (tkO zTk)
  have hi0 : (os ++ [.raw w.heap.size (tkO zTk)])[i]? = some (rv b v e) := by rw [List.getElem?_append_left (List.getElem?_eq_some_iff.1 hi).1]; exact hi
  have HM := Lib.hid M0
  have HI := Lib.hid hi0
  have HI1 := Lib.hid hi
  have HH := Lib.hid hH
  have H := Lib.hid (p_sees M0 hi0 hH k)
  clear M0 h0 hi0 hi hH
  go_enter Tryz.func66, Tryz.ntmps66
  go_upto_region 1 with fail
  rw [show w.alloc (.cells #[.int .i64 0, .string ⟨#[]⟩, .int .i64 0, .int .i64 0] 42) = w.alloc (tkO zTk) from rfl]
  generalize w.alloc (tkO zTk) = w1 at *
  obtain ⟨g, hg⟩ : ∃ g, g = w.heap.size := ⟨_, rfl⟩
  rw [← hg] at HM HI ⊢
  clear hg
  cases hs : seesK k (hdR r) with
  | false =>
    have HT := Lib.hid (tk_no hs)
    rw [hs] at H
    clear hs
    go_wp2_with (go_at_call 68; refine (H.out).mono ?_; rintro e1 w2 ⟨rfl, b1⟩; refine Hid.out ?_)
    refine Lib.hid ?_
    have H := Lib.hid (p_fail (HM.out.fresh b1) HI.out HH.out (x := 12) (by decide))
    clear b1
    go_wp2_with (go_at_call 65; refine (H.out).mono ?_; rintro e2 w3 ⟨rfl, m2⟩; refine Hid.out ?_)
    refine Lib.hid ?_
    have M2 := Lib.hid m2
    clear H m2
    have hil : i < os.length := (List.getElem?_eq_some_iff.1 HI1.out).1
    obtain ⟨v3, e3, h3, m3⟩ := M2.out
    have hj : ((os ++ [Ob.raw g (tkO zTk)]).set i (rv b v3 e3))[os.length]? = some (.raw g (tkO zTk)) := by rw [List.getElem?_set_ne (by omega)]; simp
    have HG := Lib.hid (show w3.heap[g]? = some (.cells #[.int .i64 0, .string (bs []), .int .i64 0, .int .i64 0] 42 (0, 0)) from m3.raw_at hj)
    have M3 := Lib.hid (show LeftP w0 os i b (badR 12 r) (w3.setRow g #[.int .i64 0, .string (bs []), .int .i64 0, .int .i64 0]) from by
      have m4 := m3.raw_row hj #[.int .i64 0, .string (bs []), .int .i64 0, .int .i64 0]
      rw [set_last hil] at m4
      exact LeftP.drop hil ⟨v3, e3, h3, m4⟩)
    clear hj h3 m3 M2
    go_upto_region 3 with fail
    refine wp_region_lit ?_
    refine list_ev (v := .agg #[.int .i64 0, .string (bs []), .int .i64 0, .int .i64 0]) rfl (by go_simp; try rfl) ?_
    simp only [Act.put, List.setIfInBounds_toArray, List.set_cons_zero, List.set_cons_succ]
    refine wpList_store_row rfl 42 (.tmp 4) (.tmp 12) rfl g #[.int .i64 0, .string (bs []), .int .i64 0, .int .i64 0] rfl rfl _ _ HG.out (by kernel_rfl) rfl (by kernel_rfl) ?_
    have HG2 := Lib.hid (setRow_heap w3 g _ #[.int .i64 0, .string (bs []), .int .i64 0, .int .i64 0] _ _ HG.out)
    generalize w3.setRow g #[.int .i64 0, .string (bs []), .int .i64 0, .int .i64 0] = w4 at *
    go_wp2
    (try simp only [Exit.inBlock, Exit.then])
    refine bodyPost_ret (results_cell_row (d := _) rfl _ _ g 42 #[.int .i64 0, .string (bs []), .int .i64 0, .int .i64 0] (0, 0) rfl HG2.out Tryz.underlying42 rfl (by kernel_rfl)) rfl ?_
    exact ⟨by rw [HT.out]; rfl, by rw [HT.out]; exact M3.out⟩
  | true =>
    rw [hs] at H
    have HS := Lib.hid hs
    clear hs
    go_wp2_with (go_at_call 68; refine (H.out).mono ?_; rintro e1 w2 ⟨rfl, b1⟩; refine Hid.out ?_)
    refine Lib.hid ?_
    clear H
    have h := HM.out.fresh b1
    have hi := HI.out
    have hH := HH.out
    clear b1 HM
    obtain ⟨z, m, tb, off, cap, rfl, hcap, hm, ⟨t0, t1, t2, t3⟩, hz, k0, k1, k2⟩ := hH.head h.below
    have he : e = 0 := by
      refine Decidable.byContradiction fun he => ?_
      have := HS.out
      rw [k1 he] at this
      cases this
    subst he
    have r1 := h.raw_at hi
    have c0 : (w2).cell? ⟨b, 0, none⟩ = some (.slice (some ⟨tb, off, none⟩) (m.length + 1) cap) := by rw [Lib.cell_of_heap r1]; rfl
    have c1 : (w2).cell? ⟨b, 1, none⟩ = some (.int .i64 (0)) := by rw [Lib.cell_of_heap r1]; rfl
    have z0 : (w2).frozen? ⟨b, 0, none⟩ = false := Lib.frozen_of_heap r1 0
    have z1 : (w2).frozen? ⟨b, 1, none⟩ = false := Lib.frozen_of_heap r1 1
    clear r1
    have hzk : z.kind = k := takes (by rw [← k0 rfl]; exact HS.out)
    have h3 : z.kind ≠ 3 := by rw [hzk]; exact hk
    have hT : takeR k r = (z, .ok m) := by rw [k0 rfl]; simp [takeR, hzk]
    obtain ⟨hm0, hnx⟩ := k2 h3
    have hm1 : 0 < m.length := List.length_pos_iff.2 hm0
    have HT := Lib.hid hT
    have HN := Lib.hid hnx
    have M3 := Lib.hid (h.raw (tkO z))
    clear k0 k1 k2 hz hH hT hnx hzk h3 hk hm0 c1 z1
    go_upto_region 5 with fail
    rw [show w2.alloc (.cells #[.int .i64 z.kind, .string (bs z.text), .int .i64 z.n, .int .i64 z.pos] 42) = w2.alloc (tkO z) from rfl]
    have hil : i < os.length := (List.getElem?_eq_some_iff.1 HI1.out).1
    have HI2 := Lib.hid (show (os ++ [Ob.raw g (tkO zTk)] ++ [Ob.raw w2.heap.size (tkO z)])[i]? = some (rv b (.slice (some ⟨tb, off, none⟩) (m.length + 1) cap) 0) by rw [List.getElem?_append_left (by simp; omega)]; exact hi)
    clear t0 t1 t2 t3 c0 z0 h hi HI
    generalize w2.alloc (tkO z) = w3 at *
    obtain ⟨g2, hg2⟩ : ∃ g2, g2 = w2.heap.size := ⟨_, rfl⟩
    rw [← hg2] at M3 HI2 ⊢
    clear hg2
    have r1 := M3.out.raw_at HI2.out
    have c0 : w3.cell? ⟨b, 0, none⟩ = some (.slice (some ⟨tb, off, none⟩) (m.length + 1) cap) := by rw [Lib.cell_of_heap r1]; rfl
    have z0 : w3.frozen? ⟨b, 0, none⟩ = false := Lib.frozen_of_heap r1 0
    have M4 := Lib.hid (show OMem w0 (w3.setCell ⟨b, 0, none⟩ (.slice (some ⟨tb, off + 4, none⟩) m.length (cap - 1))) ((os ++ [Ob.raw g (tkO zTk)] ++ [Ob.raw g2 (tkO z)]).set i (rv b (.slice (some ⟨tb, off + 4, none⟩) m.length (cap - 1)) 0)) from M3.out.raw_set HI2.out 0 _)
    clear r1 M3 HI2
    go_upto_region 6 with fail
    clear c0 z0
    generalize w3.setCell ⟨b, 0, none⟩ (.slice (some ⟨tb, off + 4, none⟩) m.length (cap - 1)) = w4 at *
    have hl2 : i < (os ++ [Ob.raw g (tkO zTk)]).length := by simp; omega
    have HZ := Lib.hid (show w4.heap[g2]? = some (.cells #[.int .i64 z.kind, .string (bs z.text), .int .i64 z.n, .int .i64 z.pos] 42 (0, 0)) from M4.out.raw_at (i := (os ++ [Ob.raw g (tkO zTk)]).length) (by rw [List.getElem?_set_ne (by simp; omega)]; simp; rfl))
    have M5 := Lib.hid (LeftP.drop hl2 ⟨_, _, HN.out, M4.out⟩)
    have hj : ((os ++ [Ob.raw g (tkO zTk)]).set i (rv b (.slice (some ⟨tb, off + 4, none⟩) m.length (cap - 1)) 0))[os.length]? = some (.raw g (tkO zTk)) := by rw [List.getElem?_set_ne (by omega)]; simp
    have M6 : OMem w0 w4 ((os ++ [Ob.raw g (tkO zTk)]).set i (rv b (.slice (some ⟨tb, off + 4, none⟩) m.length (cap - 1)) 0)) := by
      have := M4.out
      rw [List.set_append_left _ _ hl2] at this
      have := this.take ((os ++ [Ob.raw g (tkO zTk)]).set i (rv b (.slice (some ⟨tb, off + 4, none⟩) m.length (cap - 1)) 0)).length
      rwa [List.take_left] at this
    have HG := Lib.hid (show w4.heap[g]? = some (.cells #[.int .i64 0, .string (bs []), .int .i64 0, .int .i64 0] 42 (0, 0)) from M6.raw_at hj)
    have M7 := Lib.hid (show LeftP w0 os i b (.ok m) (w4.setRow g #[.int .i64 z.kind, .string (bs z.text), .int .i64 z.n, .int .i64 z.pos]) from by
      have m4 := M6.raw_row hj #[.int .i64 z.kind, .string (bs z.text), .int .i64 z.n, .int .i64 z.pos]
      rw [set_last hil] at m4
      exact LeftP.drop hil ⟨_, _, HN.out, m4⟩)
    clear hj M6 M5 M4 HN hl2
    refine wp_region_lit ?_
    refine list_ev (v := .agg #[.int .i64 z.kind, .string (bs z.text), .int .i64 z.n, .int .i64 z.pos]) rfl (ev_whole rfl rfl HZ.out Tryz.underlying42 rfl (by kernel_rfl)) ?_
    simp only [Act.put, List.setIfInBounds_toArray, List.set_cons_zero, List.set_cons_succ]
    refine wpList_store_row rfl 42 (.tmp 4) (.tmp 27) rfl g #[.int .i64 z.kind, .string (bs z.text), .int .i64 z.n, .int .i64 z.pos] rfl rfl _ _ HG.out (by kernel_rfl) rfl (by kernel_rfl) ?_
    have HG2 := Lib.hid (setRow_heap w4 g _ #[.int .i64 z.kind, .string (bs z.text), .int .i64 z.n, .int .i64 z.pos] _ _ HG.out)
    generalize w4.setRow g #[.int .i64 z.kind, .string (bs z.text), .int .i64 z.n, .int .i64 z.pos] = w5 at *
    go_wp2
    (try simp only [Exit.inBlock, Exit.then])
    refine bodyPost_ret (results_cell_row (d := _) rfl _ _ g 42 #[.int .i64 z.kind, .string (bs z.text), .int .i64 z.n, .int .i64 z.pos] (0, 0) rfl HG2.out Tryz.underlying42 rfl (by kernel_rfl)) rfl ?_
    exact ⟨by rw [HT.out]; rfl, by rw [HT.out]; exact M7.out⟩
/-! ### The same, from what the one before leaves -/
theorem m_sees (hil : i < os.length) (M : LeftP w0 os i b r w) (k : Int) :
    Calls Tryz.prog 68 #[.pointer (some ⟨b, 0, none⟩), .int .i64 k] w fun x w' => x = .returned (.bool (seesK k (hdR r))) ∧ LeftP w0 os i b r w' := by
  obtain ⟨v, e, h1, h2⟩ := M
  refine (p_sees h2 (by rw [List.getElem?_set_self hil]) h1 k).mono ?_
  rintro x w' ⟨rfl, hb⟩
  exact ⟨rfl, v, e, h1, h2.fresh hb⟩
theorem LeftP.again {x : Ob} (h : LeftP w0 (os.set i x) i b r w) : LeftP w0 os i b r w := by
  obtain ⟨v, e, h1, h2⟩ := h
  exact ⟨v, e, h1, by rwa [List.set_set] at h2⟩
theorem m_fail (hil : i < os.length) (M : LeftP w0 os i b r w) {x : Int} (hx : x ≠ 0) :
    Calls Tryz.prog 65 #[.pointer (some ⟨b, 0, none⟩), .int .i64 x] w fun u w' => u = .returned (.tuple #[]) ∧ LeftP w0 os i b (badR x r) w' := by
  obtain ⟨v, e, h1, h2⟩ := M
  refine (p_fail h2 (by rw [List.getElem?_set_self hil]) h1 hx).mono ?_
  rintro u w' ⟨rfl, hb⟩
  exact ⟨rfl, hb.again⟩
theorem m_accept (hil : i < os.length) (M : LeftP w0 os i b r w) {s : S} (hk : kwOk s = true) :
    Calls Tryz.prog 43 #[.pointer (some ⟨b, 0, none⟩), .string (bs s)] w fun x w' => x = .returned (.bool (isO s (hdR r))) ∧ LeftP w0 os i b (acc s r) w' := by
  obtain ⟨v, e, h1, h2⟩ := M
  refine (p_accept h2 (by rw [List.getElem?_set_self hil]) h1 hk).mono ?_
  rintro u w' ⟨rfl, hb⟩
  exact ⟨rfl, hb.again⟩
theorem m_take (hil : i < os.length) (M : LeftP w0 os i b r w) {k : Int} (hk : k ≠ 3) :
    Calls Tryz.prog 66 #[.pointer (some ⟨b, 0, none⟩), .int .i64 k] w fun x w' => x = .returned (tkV (takeR k r).1) ∧ LeftP w0 os i b (takeR k r).2 w' := by
  obtain ⟨v, e, h1, h2⟩ := M
  refine (p_take h2 (by rw [List.getElem?_set_self hil]) h1 hk).mono ?_
  rintro u w' ⟨rfl, hb⟩
  exact ⟨rfl, hb.again⟩
set_option maxHeartbeats 2000000 in
set_option maxRecDepth 100000 in
theorem m_name (hil : i < os.length) (M : LeftP w0 os i b r w) :
    Calls Tryz.prog 41 #[.pointer (some ⟨b, 0, none⟩)] w fun x w' => x = .returned (.string (bs (name r).1)) ∧ LeftP w0 os i b (name r).2 w' := by
  have H := Lib.hid (m_take hil M (k := 0) (by decide))
  have HN := Lib.hid (take_name r)
  unfold tkV at H
  generalize (takeR 0 r).1 = t at *
  have hfd : ∀ w : World, (Instr.field 42 (.agg #[.int .i64 t.kind, .string (bs t.text), .int .i64 t.n, .int .i64 t.pos]) 1).run Tryz.prog w = .ok (.string (bs t.text)) w := fun _ => by kernel_rfl
  clear M
  go_enter Tryz.func41, Tryz.ntmps41
  go_wp2_with (go_at_call 66; refine (H.out).mono ?_; rintro e1 w1 ⟨rfl, m1⟩; refine Hid.out ?_)
  refine Lib.hid ?_
  have M1 := Lib.hid m1
  clear H m1
  go_wp2
  go_ret
  exact ⟨by rw [← HN.out]; rfl, by rw [← HN.out]; exact M1.out⟩
set_option maxHeartbeats 2000000 in
set_option maxRecDepth 100000 in
theorem m_end (hil : i < os.length) (M : LeftP w0 os i b r w) :
    Calls Tryz.prog 48 #[.pointer (some ⟨b, 0, none⟩)] w fun x w' => x = .returned (.tuple #[]) ∧ LeftP w0 os i b (fin r).2 w' := by
  have H := Lib.hid (m_sees hil M 3)
  clear M
  go_enter Tryz.func48, Tryz.ntmps48
  cases hs : seesK 3 (hdR r) with
  | true =>
    rw [hs] at H
    have HF := Lib.hid (show (fin r).2 = r by
      unfold fin iffR
      rw [show endO (hdR r) = true from by rw [← hs]; cases hdR r <;> rfl]; rfl)
    clear hs
    go_wp2_with (go_at_call 68; refine (H.out).mono ?_; rintro e1 w1 ⟨rfl, m1⟩; refine Hid.out ?_)
    refine Lib.hid ?_
    have M1 := Lib.hid m1
    clear H m1
    go_wp2
    go_end0
    exact ⟨rfl, by rw [HF.out]; exact M1.out⟩
  | false =>
    rw [hs] at H
    have HF := Lib.hid (show (fin r).2 = badR 12 r by
      unfold fin iffR
      rw [show endO (hdR r) = false from by rw [← hs]; cases hdR r <;> rfl]
      cases r <;> rfl)
    clear hs
    go_wp2_with (go_at_call 68; refine (H.out).mono ?_; rintro e1 w1 ⟨rfl, m1⟩; refine Hid.out ?_)
    refine Lib.hid ?_
    have H := Lib.hid (m_fail hil m1 (x := 12) (by decide))
    clear m1
    go_wp2_with (go_at_call 65; refine (H.out).mono ?_; rintro e2 w2 ⟨rfl, m2⟩; refine Hid.out ?_)
    refine Lib.hid ?_
    have M2 := Lib.hid m2
    clear H m2
    go_wp2
    go_end0
    exact ⟨rfl, by rw [HF.out]; exact M2.out⟩
end
end Go.Proofs.YtlefgffnjcmfoaaGreatDoor
namespace Go.Proofs.YtlefgffnjcmfoaaGreatDoor
open Go.RowKit Go.Maps Go.ChangeMaps Go.MapKept
open Lx Sy Ch
attribute [local go_sem ↓] Go.wp_at_zero Go.wp_at_succ
section
variable {w0 w : World} {os : List Ob} {i b : Nat} {v : Value} {e : Int} {r : R}
theorem far_not {k : Int} {r : R} (h : seesK 1 (hdR r) = false) : farR k r = r := by
  match r with
  | .error x => rfl
  | .ok [] => rfl
  | .ok (t :: l) =>
    have h : (t.kind == 1) = false := h
    have h : t.kind ≠ 1 := by simpa using h
    simp [farR, h]
set_option maxHeartbeats 2000000 in
set_option maxRecDepth 100000 in
theorem m_number (hil : i < os.length) (M : LeftP w0 os i b r w) (k : Int) :
    Calls Tryz.prog 44 #[.pointer (some ⟨b, 0, none⟩), .int .i64 k] w fun x w' => x = .returned (.int .i64 (number k r).1) ∧ LeftP w0 os i b (number k r).2 w' := by
  have H := Lib.hid (m_sees hil M 1)
  clear M
  go_enter Tryz.func44, Tryz.ntmps44
  cases hs : seesK 1 (hdR r) with
  | false =>
    rw [hs] at H
    have HE := Lib.hid (far_not (k := k) hs)
    clear hs
    go_wp2_with (go_at_call 68; refine (H.out).mono ?_; rintro e1 w1 ⟨rfl, m1⟩; refine Hid.out ?_)
    refine Lib.hid ?_
    have M1 := Lib.hid m1
    clear H m1
    have H := Lib.hid (m_take hil M1.out (k := 1) (by decide))
    have HN := Lib.hid (take_number k r)
    rw [HE.out] at HN
    unfold tkV at H
    generalize (takeR 1 (r)).1 = t at *
    have hfd : ∀ w : World, (Instr.field 42 (.agg #[.int .i64 t.kind, .string (bs t.text), .int .i64 t.n, .int .i64 t.pos]) 2).run Tryz.prog w = .ok (.int .i64 t.n) w := fun _ => by kernel_rfl
    go_wp2_with (go_at_call 66; refine (H.out).mono ?_; rintro e3 w3 ⟨rfl, m3⟩; refine Hid.out ?_)
    refine Lib.hid ?_
    have M3 := Lib.hid m3
    clear H m3
    go_wp2
    go_ret
    exact ⟨by rw [← HN.out]; rfl, by rw [← HN.out]; exact M3.out⟩
  | true =>
    rw [hs] at H
    have HS := Lib.hid hs
    clear hs
    go_wp2_with (go_at_call 68; refine (H.out).mono ?_; rintro e1 w1 ⟨rfl, m1⟩; refine Hid.out ?_)
    refine Lib.hid ?_
    have M1 := Lib.hid m1
    clear H
    obtain ⟨v, e, hH, h⟩ := m1
    obtain ⟨z, m, tb, off, cap, rfl, hcap, hm, ⟨t0, t1, t2, t3⟩, hz, k0, k1, k2⟩ := hH.head h.below
    have he : e = 0 := by
      refine Decidable.byContradiction fun he => ?_
      have := HS.out
      rw [k1 he] at this
      cases this
    subst he
    have hi : (os.set i (rv b (.slice (some ⟨tb, off, none⟩) (m.length + 1) cap) 0))[i]? = some (rv b (.slice (some ⟨tb, off, none⟩) (m.length + 1) cap) 0) := by rw [List.getElem?_set_self hil]
    have r1 := h.raw_at hi
    have c0 : w1.cell? ⟨b, 0, none⟩ = some (.slice (some ⟨tb, off, none⟩) (m.length + 1) cap) := by rw [Lib.cell_of_heap r1]; rfl
    have hr : r = .ok (z :: m) := k0 rfl
    have hzk : z.kind = 1 := takes (by rw [← hr]; exact HS.out)
    clear r1 hi h hH k0 k1 k2 hz t0 t1 t3
    have HR := Lib.hid hr
    have HZ := Lib.hid hzk
    clear hr hzk
    by_cases h1 : z.n < k
    · have HE := Lib.hid (show farR k r = badR 3 r by rw [HR.out]; simp [farR, HZ.out, h1, badR])
      have H := Lib.hid (m_fail hil M1.out (x := 3) (by decide))
      go_wp2_with (go_at_call 65; refine (H.out).mono ?_; rintro e2 w2 ⟨rfl, m2⟩; refine Hid.out ?_)
      refine Lib.hid ?_
      have M2 := Lib.hid m2
      clear H m2 M1
      have H := Lib.hid (m_take hil M2.out (k := 1) (by decide))
      have HN := Lib.hid (take_number k r)
      rw [HE.out] at HN
      unfold tkV at H
      generalize (takeR 1 (badR 3 r)).1 = t at *
      have hfd : ∀ w : World, (Instr.field 42 (.agg #[.int .i64 t.kind, .string (bs t.text), .int .i64 t.n, .int .i64 t.pos]) 2).run Tryz.prog w = .ok (.int .i64 t.n) w := fun _ => by kernel_rfl
      go_wp2_with (go_at_call 66; refine (H.out).mono ?_; rintro e3 w3 ⟨rfl, m3⟩; refine Hid.out ?_)
      refine Lib.hid ?_
      have M3 := Lib.hid m3
      clear H m3
      go_wp2
      go_ret
      exact ⟨by rw [← HN.out]; rfl, by rw [← HN.out]; exact M3.out⟩
    · by_cases h2 : 1073741824 < z.n
      · have HE := Lib.hid (show farR k r = badR 3 r by rw [HR.out]; simp [farR, HZ.out, h2, badR])
        have H := Lib.hid (m_fail hil M1.out (x := 3) (by decide))
        go_wp2_with (go_at_call 65; refine (H.out).mono ?_; rintro e2 w2 ⟨rfl, m2⟩; refine Hid.out ?_)
        refine Lib.hid ?_
        have M2 := Lib.hid m2
        clear H m2 M1
        have H := Lib.hid (m_take hil M2.out (k := 1) (by decide))
        have HN := Lib.hid (take_number k r)
        rw [HE.out] at HN
        unfold tkV at H
        generalize (takeR 1 (badR 3 r)).1 = t at *
        have hfd : ∀ w : World, (Instr.field 42 (.agg #[.int .i64 t.kind, .string (bs t.text), .int .i64 t.n, .int .i64 t.pos]) 2).run Tryz.prog w = .ok (.int .i64 t.n) w := fun _ => by kernel_rfl
        go_wp2_with (go_at_call 66; refine (H.out).mono ?_; rintro e3 w3 ⟨rfl, m3⟩; refine Hid.out ?_)
        refine Lib.hid ?_
        have M3 := Lib.hid m3
        clear H m3
        go_wp2
        go_ret
        exact ⟨by rw [← HN.out]; rfl, by rw [← HN.out]; exact M3.out⟩
      · have HE := Lib.hid (show farR k r = r by rw [HR.out]; simp [farR, h1, h2])
        have H := Lib.hid (m_take hil M1.out (k := 1) (by decide))
        have HN := Lib.hid (take_number k r)
        rw [HE.out] at HN
        unfold tkV at H
        generalize (takeR 1 (r)).1 = t at *
        have hfd : ∀ w : World, (Instr.field 42 (.agg #[.int .i64 t.kind, .string (bs t.text), .int .i64 t.n, .int .i64 t.pos]) 2).run Tryz.prog w = .ok (.int .i64 t.n) w := fun _ => by kernel_rfl
        go_wp2_with (go_at_call 66; refine (H.out).mono ?_; rintro e3 w3 ⟨rfl, m3⟩; refine Hid.out ?_)
        refine Lib.hid ?_
        have M3 := Lib.hid m3
        clear H m3
        go_wp2
        go_ret
        exact ⟨by rw [← HN.out]; rfl, by rw [← HN.out]; exact M3.out⟩
/-- Tokens that must stand there, one after the other; their texts lie in a block of the call's own. -/
theorem m_expect_at {j g : Nat} {ss : List S} (hil : i < os.length) (hj : os[j]? = some (.raw g (wordsO ss))) (hij : j ≠ i) (M : LeftP w0 os i b r w) (hss : ss.all kwOk = true) (hn : ss.length ≤ 100) :
    Calls Tryz.prog 40 #[.pointer (some ⟨b, 0, none⟩), .slice (some ⟨g, 0, none⟩) ss.length ss.length] w fun x w' => x = .returned (.tuple #[]) ∧ LeftP w0 os i b (wants ss r) w' := by
  have HM := Lib.hid M
  have HJ := Lib.hid hj
  have HS := Lib.hid hss
  clear M hj hss
  go_enter Tryz.func40, Tryz.ntmps40
  go_wp2
  go_loopw [8] (fun n wr => ∃ k : Nat, k ≤ ss.length ∧ n = .int .i64 k ∧ Hid (LeftP w0 os i b (wants (ss.take k) r) wr)) (fun n _ => ss.length - (intOf n).toNat)
  case atStart => exact ⟨0, Nat.zero_le _, rfl, HM⟩
  case round =>
    obtain ⟨k, hk, rfl, HL⟩ := hrel
    by_cases hlt : k < ss.length
    · obtain ⟨s, hs⟩ : ∃ s, ss[k]? = some s := ⟨_, List.getElem?_eq_getElem hlt⟩
      have hks : kwOk s = true := List.all_eq_true.1 HS.out s (List.mem_of_getElem? hs)
      have hbl : wr.heap[g]? = some (wordsO ss) := by
        obtain ⟨v, e, _, h2⟩ := HL.out
        exact h2.raw_at (i := j) (by rw [List.getElem?_set_ne hij.symm]; exact HJ.out)
      have c0 : wr.cell? ⟨g, k, none⟩ = some (.string (bs s)) := by
        have := (tx_of hbl).at_ hs
        rwa [Nat.zero_add] at this
      have HW := Lib.hid (wants_more hs r)
      have H := Lib.hid (m_accept hil HL.out hks)
      have HF := Lib.hid (fun w' (M : LeftP w0 os i b (acc s (wants (ss.take k) r)) w') => m_fail (x := 12) hil M (by decide))
      clear hs hbl hks
      generalize wants (ss.take k) r = q at *
      cases ho : isO s (hdR q) with
      | true =>
        have HA := Lib.hid (acc_yes ho)
        rw [ho] at H
        clear ho
        go_wp2_with (go_at_call 43; refine (H.out).mono ?_; rintro e1 w1 ⟨rfl, m1⟩; refine Hid.out ?_)
        refine Lib.hid ?_
        rw [HA.out, ← HW.out] at m1
        have M1 := Lib.hid m1
        clear H m1 HF
        go_wp2
        go_roundw
        case rel => exact ⟨k + 1, by omega, by go_num, M1⟩
        case measure => simp [intOf]; omega
      | false =>
        have HA := Lib.hid (acc_no ho)
        have HB := Lib.hid (want_not ho)
        rw [ho] at H
        clear ho
        go_wp2_with (go_at_call 43; refine (H.out).mono ?_; rintro e1 w1 ⟨rfl, m1⟩; refine Hid.out ?_)
        refine Lib.hid ?_
        have H := Lib.hid (HF.out _ m1)
        clear m1 HF
        go_wp2_with (go_at_call 65; refine (H.out).mono ?_; rintro e2 w2 ⟨rfl, m2⟩; refine Hid.out ?_)
        refine Lib.hid ?_
        rw [HA.out, ← HB.out, ← HW.out] at m2
        have M2 := Lib.hid m2
        clear H m2
        go_wp2
        go_roundw
        case rel => exact ⟨k + 1, by omega, by go_num, M2⟩
        case measure => simp [intOf]; omega
    · obtain rfl : k = ss.length := by omega
      have HL := Lib.hid (show LeftP w0 os i b (wants ss r) wr by have := HL.out; rwa [List.take_length] at this)
      go_wp2
      go_end0
      exact ⟨rfl, HL.out⟩
theorem LeftP.raw (hil : i < os.length) (h : LeftP w0 os i b r w) (o : Obj) : LeftP w0 (os ++ [.raw w.heap.size o]) i b r (w.alloc o) := by
  obtain ⟨v, e, h1, h2⟩ := h
  refine ⟨v, e, h1, ?_⟩
  rw [List.set_append_left _ _ hil]
  exact h2.raw o
theorem m_expect {ss : List S} (hil : i < os.length) (M : LeftP w0 os i b r w) (hss : ss.all kwOk = true) (hn : ss.length ≤ 100) :
    Calls Tryz.prog 40 #[.pointer (some ⟨b, 0, none⟩), .slice (some ⟨w.heap.size, 0, none⟩) ss.length ss.length] (w.alloc (wordsO ss)) fun x w' => x = .returned (.tuple #[]) ∧ LeftP w0 os i b (wants ss r) w' := by
  refine (m_expect_at (j := os.length) (by simp; omega) (by simp) (by omega) (LeftP.raw hil M (wordsO ss)) hss hn).mono ?_
  rintro x w' ⟨rfl, m⟩
  exact ⟨rfl, m.drop hil⟩
end
end Go.Proofs.YtlefgffnjcmfoaaGreatDoor
namespace Go.Proofs.YtlefgffnjcmfoaaGreatDoor
open Go.RowKit Go.Maps Go.ChangeMaps Go.MapKept
open Lx Sy Ch
attribute [local go_sem ↓] Go.wp_at_zero Go.wp_at_succ
section
variable {w0 w : World} {os : List Ob} {i b : Nat} {r : R}
theorem LeftP.below (h : LeftP w0 os i b r w) : Below w0.heap.size w0 w := by
  obtain ⟨v, e, _, h2⟩ := h
  exact h2.below
theorem LeftP.fresh {w' : World} (h : LeftP w0 os i b r w) (hb : Below w.heap.size w w') : LeftP w0 os i b r w' := by
  obtain ⟨v, e, h1, h2⟩ := h
  exact ⟨v, e, h1, h2.fresh hb⟩
theorem LeftP.other {j : Nat} {o : Ob} (h : LeftP w0 os i b r w) (hj : os[j]? = some o) (hij : j ≠ i) : ∃ os', OMem w0 w os' ∧ os'[j]? = some o := by
  obtain ⟨v, e, _, h2⟩ := h
  exact ⟨_, h2, by rw [List.getElem?_set_ne hij.symm]; exact hj⟩
def lenV : Value → Nat
  | .slice _ n _ => n
  | _ => 0
theorem drop_at {α : Type} {l : List α} {k : Nat} {x : α} (h : l[k]? = some x) : l.drop k = x :: l.drop (k + 1) := by
  obtain ⟨h1, h2⟩ := List.getElem?_eq_some_iff.1 h
  rw [← h2]; exact List.drop_eq_getElem_cons h1
set_option maxHeartbeats 2000000 in
set_option maxRecDepth 100000 in
theorem m_choose_at {j g row : Nat} {ps T : List S} (hil : i < os.length) (hj : os[j]? = some (.raw g (wordsO ps))) (hij : j ≠ i) (M : LeftP w0 os i b r w) (hE : Env w0) (hT : rowsW[row]? = some T) (hk : T.all kwOk = true) (h0 : 0 < T.length ∧ T.length ≤ 100) (hn : ps.length ≤ 100) :
    Calls Tryz.prog 42 #[.pointer (some ⟨b, 0, none⟩), .int .i64 row, .slice (some ⟨g, 0, none⟩) ps.length ps.length] w fun x w' => x = .returned (.int .i64 (pick ps T 0 r).1) ∧ LeftP w0 os i b (pick ps T 0 r).2 w' := by
  obtain ⟨x, hx, hxt⟩ := hE.wrd row T hT
  obtain ⟨tb, off, cap, rfl, _, hc⟩ := hxt.form h0.1
  have hr6 : (row : Int) < 6 := by have := (List.getElem?_eq_some_iff.1 hT).1; simp [rowsW] at this; omega
  have hx0 : w.cell? ⟨0, row, none⟩ = some (.slice (some ⟨tb, off, none⟩) T.length cap) := below_cell hx M.below
  obtain ⟨hn0, hn1⟩ := h0
  have HM := Lib.hid M
  have HJ := Lib.hid hj
  have HK := Lib.hid hk
  have HC := Lib.hid hc
  clear hx hxt M hj hk hc hT hE
  go_enter Tryz.func42, Tryz.ntmps42
  go_wp2
  go_loopw [13] (fun n wr => ∃ k : Nat, k ≤ T.length ∧ n = .int .i64 k ∧ Hid (LeftP w0 os i b r wr) ∧ Hid (Below w0.heap.size w0 wr) ∧ Hid (pick ps T 0 r = pick ps (T.drop k) k r)) (fun n _ => T.length - (intOf n).toNat)
  case atStart => exact ⟨0, Nat.zero_le _, rfl, HM, Lib.hid HM.out.below, Lib.hid rfl⟩
  case round =>
    obtain ⟨k, hkl, rfl, HL, HB, HP⟩ := hrel
    by_cases hlt : k < T.length
    · obtain ⟨s, hs⟩ : ∃ s, T[k]? = some s := ⟨_, List.getElem?_eq_getElem hlt⟩
      have hks : kwOk s = true := List.all_eq_true.1 HK.out s (List.mem_of_getElem? hs)
      have c0 : wr.cell? ⟨tb, off + k, none⟩ = some (.string (bs s)) := below_cell (HC.out k s hs) HB.out
      have hu : TxAt wr (.slice (some ⟨g, 0, none⟩) ps.length ps.length) ps := by
        obtain ⟨os', h2, h3⟩ := HL.out.other HJ.out hij
        exact tx_of (h2.raw_at h3)
      have H := Lib.hid (contains_any hu s (by omega))
      have HD := Lib.hid (HP.out.trans (by rw [drop_at hs]))
      have HA := Lib.hid (fun w' (M : LeftP w0 os i b r w') => m_accept hil M hks)
      clear hs hks hu
      have hdc : (decide (s ∈ ps) = true) ∨ (decide (s ∈ ps) = false) := by cases decide (s ∈ ps) <;> simp
      rcases hdc with hd | hd
      · have hm : s ∈ ps := of_decide_eq_true hd
        rw [hd] at H
        clear hd
        go_wp2_with (go_at_call 67; refine (H.out).mono ?_; rintro e1 w1 ⟨rfl, rfl⟩; refine Hid.out ?_)
        refine Lib.hid ?_
        have H := Lib.hid (HA.out _ HL.out)
        cases ho : isO s (hdR r) with
        | true =>
          have HX := Lib.hid (HD.out.trans (pick_hit hm ho))
          have HY := Lib.hid (acc_yes ho)
          rw [ho] at H
          clear ho hm
          go_wp2_with (go_at_call 43; refine (H.out).mono ?_; rintro e2 w2 ⟨rfl, m2⟩; refine Hid.out ?_)
          refine Lib.hid ?_
          have M2 := Lib.hid m2
          clear H m2
          go_wp2
          go_ret
          exact ⟨by rw [HX.out]; rfl, by rw [HX.out, ← HY.out]; exact M2.out⟩
        | false =>
          have HX := Lib.hid (HD.out.trans (pick_miss (fun q => by rw [ho] at q; exact Bool.noConfusion q.2)))
          have HY := Lib.hid (acc_no ho)
          rw [ho] at H
          clear ho hm
          go_wp2_with (go_at_call 43; refine (H.out).mono ?_; rintro e2 w2 ⟨rfl, m2⟩; refine Hid.out ?_)
          refine Lib.hid ?_
          rw [HY.out] at m2
          have M2 := Lib.hid m2
          have B2 := Lib.hid m2.below
          clear H m2
          go_wp2
          go_roundw
          case rel => exact ⟨k + 1, by omega, by go_num, M2, B2, HX⟩
          case measure => simp [intOf]; omega
      · have hm : s ∉ ps := of_decide_eq_false hd
        have HX := Lib.hid (HD.out.trans (pick_miss (fun q => hm q.1)))
        rw [hd] at H
        clear hd hm
        go_wp2_with (go_at_call 67; refine (H.out).mono ?_; rintro e1 w1 ⟨rfl, rfl⟩; refine Hid.out ?_)
        refine Lib.hid ?_
        go_wp2
        go_roundw
        case rel => exact ⟨k + 1, by omega, by go_num, HL, HB, HX⟩
        case measure => simp [intOf]; omega
    · obtain rfl : k = T.length := by omega
      have HX := Lib.hid (show pick ps T 0 r = (0, badR 12 r) by rw [HP.out, List.drop_length]; rfl)
      have H := Lib.hid (m_fail hil HL.out (x := 12) (by decide))
      go_wp2_with (go_at_call 65; refine (H.out).mono ?_; rintro e2 w2 ⟨rfl, m2⟩; refine Hid.out ?_)
      refine Lib.hid ?_
      have M2 := Lib.hid m2
      clear H m2
      go_wp2
      go_ret
      exact ⟨by rw [HX.out]; rfl, by rw [HX.out]; exact M2.out⟩
theorem m_choose {row : Nat} {ps T : List S} (hil : i < os.length) (M : LeftP w0 os i b r w) (hE : Env w0) (hT : rowsW[row]? = some T) (hk : T.all kwOk = true) (h0 : 0 < T.length ∧ T.length ≤ 100) (hn : ps.length ≤ 100) :
    Calls Tryz.prog 42 #[.pointer (some ⟨b, 0, none⟩), .int .i64 row, .slice (some ⟨w.heap.size, 0, none⟩) ps.length ps.length] (w.alloc (wordsO ps)) fun x w' => x = .returned (.int .i64 (pick ps T 0 r).1) ∧ LeftP w0 os i b (pick ps T 0 r).2 w' := by
  refine (m_choose_at (j := os.length) (by simp; omega) (by simp) (by omega) (LeftP.raw hil M (wordsO ps)) hE hT hk h0 hn).mono ?_
  rintro x w' ⟨rfl, m⟩
  exact ⟨rfl, m.drop hil⟩
/-- A whole row is permitted. -/
theorem m_one {row : Nat} {T : List S} (hil : i < os.length) (M : LeftP w0 os i b r w) (hE : Env w0) (hT : rowsW[row]? = some T) (hk : T.all kwOk = true) (h0 : 0 < T.length ∧ T.length ≤ 100) :
    Calls Tryz.prog 42 #[.pointer (some ⟨b, 0, none⟩), .int .i64 row, .slice (some ⟨w.heap.size, 0, none⟩) T.length T.length] (w.alloc (wordsO T)) fun x w' => x = .returned (.int .i64 (one T r).1) ∧ LeftP w0 os i b (one T r).2 w' := by
  have := m_choose (ps := T) hil M hE hT hk h0 h0.2
  rwa [pick_all] at this
/-- no or yes. -/
theorem m_yn (hil : i < os.length) (M : LeftP w0 os i b r w) (hE : Env w0) :
    Calls Tryz.prog 42 #[.pointer (some ⟨b, 0, none⟩), .int .i64 0, .slice (some ⟨w.heap.size, 0, none⟩) 2 2] (w.alloc (wordsO yn)) fun x w' => x = .returned (.int .i64 (if (one yn r).1 = 1 then 2 else 0)) ∧ LeftP w0 os i b (one yn r).2 w' := by
  have := m_choose (row := 0) (ps := yn) (T := deW) hil M hE rfl (by decide) (by decide) (by decide)
  rw [pick_yn] at this
  exact this
set_option maxHeartbeats 2000000 in
set_option maxRecDepth 100000 in
theorem m_decide (hil : i < os.length) (M : LeftP w0 os i b r w) (hE : Env w0) :
    Calls Tryz.prog 45 #[.pointer (some ⟨b, 0, none⟩)] w fun x w' => x = .returned (.bool ((one yn r).1 == 1)) ∧ LeftP w0 os i b (one yn r).2 w' := by
  obtain ⟨z, hz⟩ : ∃ z : Int, z = if (one yn r).1 = 1 then 2 else 0 := ⟨_, rfl⟩
  have H := m_yn hil M hE
  rw [← hz] at H
  have H := Lib.hid (show Calls Tryz.prog 42 #[.pointer (some ⟨b, 0, none⟩), .int .i64 0, .slice (some ⟨w.heap.size, 0, none⟩) 2 2] (w.alloc (.cells #[.string ⟨#[110, 111]⟩, .string ⟨#[121, 101, 115]⟩] 9)) _ from H)
  have HZ := Lib.hid (show (z == 2) = ((one yn r).1 == 1) by
    by_cases h1 : (one yn r).1 = 1
    · rw [hz, if_pos h1, h1]; rfl
    · rw [hz, if_neg h1, beq_eq_false_iff_ne.2 h1]; rfl)
  clear M hz
  go_enter Tryz.func45, Tryz.ntmps45
  go_wp2_with (go_at_call 42; refine (H.out).mono ?_; rintro e1 w1 ⟨rfl, m1⟩; refine Hid.out ?_)
  refine Lib.hid ?_
  have M1 := Lib.hid m1
  clear H m1
  go_wp2
  go_ret
  exact ⟨ret_bool HZ.out, M1.out⟩
set_option maxHeartbeats 4000000 in
set_option maxRecDepth 100000 in
theorem m_types (hil : i < os.length) (M : LeftP w0 os i b r w) :
    Calls Tryz.prog 46 #[.pointer (some ⟨b, 0, none⟩)] w fun x w' => ∃ tv xs, x = .returned tv ∧ (isOk (types 19 (name r).2).2 = true → xs = (name r).1 :: (types 19 (name r).2).1) ∧ LeftP w0 (os ++ [rowT tv xs]) i b (types 19 (name r).2).2 w' := by
  have hiL : ∀ x : Ob, i < (os ++ [x]).length := fun x => by simp; omega
  have H := Lib.hid (m_name hil M)
  clear M
  obtain ⟨x0, hx0⟩ : ∃ x, x = (name r).1 := ⟨_, rfl⟩
  obtain ⟨r1, hr1⟩ : ∃ q, q = (name r).2 := ⟨_, rfl⟩
  rw [← hx0, ← hr1] at H ⊢
  clear hx0 hr1
  have HT0 := Lib.hid (Tys.start x0 r1)
  obtain ⟨T, hT⟩ : ∃ T, types 19 r1 = T := ⟨_, rfl⟩
  rw [hT] at HT0 ⊢
  clear hT
  go_enter Tryz.func46, Tryz.ntmps46
  go_wp2_with (go_at_call 41; refine (H.out).mono ?_; rintro e1 w1 ⟨rfl, m1⟩; refine Hid.out ?_)
  refine Lib.hid ?_
  have M := Lib.hid (show LeftP w0 (os ++ [rowT (.slice (some ⟨w1.heap.size, 0, none⟩) 1 1) [x0]]) i b r1 (w1.alloc (.cells #[.string (bs x0)] 9)) from by
    obtain ⟨v, e, h1, h2⟩ := m1
    refine ⟨v, e, h1, ?_⟩
    rw [List.set_append_left _ _ hil]
    exact h2.rowMade (grown_alloc _ _ _) (own_txt w1 x0))
  clear H m1
  go_wp2
  go_loopw [3] (fun tv wr => ∃ (xs : List S) (rk : R) (ta : Option Addr) (tc : Nat), tv = .slice ta xs.length tc ∧ xs.length ≤ 20 ∧ Hid (Tys T x0 xs rk) ∧ Hid (LeftP w0 (os ++ [rowT (.slice ta xs.length tc) xs]) i b rk wr)) (fun tv _ => 20 - lenV tv)
  case atStart => exact ⟨[x0], r1, _, _, rfl, by simp, HT0, M⟩
  case round =>
    obtain ⟨xs, rk, ta, tc, rfl, hxl, HT, M⟩ := hrel
    have H := Lib.hid (m_sees (hiL _) M.out 0)
    have HW := Lib.hid (show seesK 0 (hdR rk) = wordO (hdR rk) from by cases hdR rk <;> rfl)
    cases hs : seesK 0 (hdR rk) with
    | false =>
      rw [hs] at H
      obtain ⟨q1, q2⟩ := HT.out.stop (HW.out ▸ hs)
      have HQ := Lib.hid q1
      have HO := Lib.hid q2
      clear hs q1 q2
      go_wp2_with (go_at_call 68; refine (H.out).mono ?_; rintro e2 w2 ⟨rfl, m2⟩; refine Hid.out ?_)
      refine Lib.hid ?_
      have M2 := Lib.hid m2
      clear H m2
      go_wp2
      go_ret
      refine ⟨_, xs, rfl, fun hok => HO.out (by rw [HQ.out]; exact hok), ?_⟩
      rw [← HQ.out]
      exact M2.out
    | true =>
      rw [hs] at H
      have hw : wordO (hdR rk) = true := HW.out ▸ hs
      clear hs
      by_cases hx : xs.length < 20
      · have HT2 := Lib.hid (HT.out.more hw hx)
        have hx' : ((xs.length : Int) == 20) = false := beq_eq_false_iff_ne.2 (by omega)
        clear hw
        go_wp2_with (go_at_call 68; refine (H.out).mono ?_; rintro e2 w2 ⟨rfl, m2⟩; refine Hid.out ?_)
        refine Lib.hid ?_
        have H := Lib.hid (m_name (hiL _) m2)
        clear m2
        obtain ⟨x, hx1⟩ : ∃ x, x = (name rk).1 := ⟨_, rfl⟩
        obtain ⟨r2, hr2⟩ : ∃ q, q = (name rk).2 := ⟨_, rfl⟩
        rw [← hx1, ← hr2] at H HT2
        clear hx1 hr2
        go_wp2_with (go_at_call 41; refine (H.out).mono ?_; rintro e3 w3 ⟨rfl, m3⟩; refine Hid.out ?_)
        refine Lib.hid ?_
        obtain ⟨v, e, h1, h2⟩ := m3
        obtain ⟨ya, yc, w4, r4, m4⟩ := OMem.pushT (i := os.length) (ks := xs) (v := .slice ta xs.length tc) h2 (by rw [List.getElem?_set_ne (by omega)]; simp [rowT]) x (by omega)
        have M4 := Lib.hid (show LeftP w0 (os ++ [rowT (.slice ya (xs ++ [x]).length yc) (xs ++ [x])]) i b r2 w4 from ⟨v, e, h1, by
          rw [set_last hil] at m4
          have e1 : (xs ++ [x]).length = xs.length + 1 := by simp
          unfold rowT
          rw [e1]
          exact m4⟩)
        have R4 := Lib.hid r4
        clear H h1 h2 r4 m4
        go_wp2_with (at_builtin; refine Hid.out ?_)
        refine Lib.hid ?_
        refine Lib.wpList_append_run _ rfl _ _ _ _ rfl _ _ rfl rfl _ _ R4.out ?_
        clear R4
        go_wp2
        go_roundw
        case rel => exact ⟨xs ++ [x], r2, ya, yc, by simp, by simp; omega, HT2, M4⟩
        case measure => simp [lenV]; omega
      · have HB := Lib.hid (HT.out.full hw hx)
        have hx' : ((xs.length : Int) == 20) = true := by rw [beq_iff_eq]; omega
        clear hw
        go_wp2_with (go_at_call 68; refine (H.out).mono ?_; rintro e2 w2 ⟨rfl, m2⟩; refine Hid.out ?_)
        refine Lib.hid ?_
        have H := Lib.hid (m_fail (hiL _) m2 (x := 6) (by decide))
        clear m2
        go_wp2_with (go_at_call 65; refine (H.out).mono ?_; rintro e3 w3 ⟨rfl, m3⟩; refine Hid.out ?_)
        refine Lib.hid ?_
        have M3 := Lib.hid m3
        clear H m3
        go_wp2
        go_ret
        refine ⟨_, [], rfl, fun hok => ?_, ?_⟩
        · rw [← HB.out, ok_badR] at hok; cases hok
        · rw [← HB.out]
          obtain ⟨v, e, h1, h2⟩ := M3.out
          refine ⟨v, e, h1, ?_⟩
          rw [List.set_append_left _ _ hil] at h2 ⊢
          have := h2.take (os.set i (rv b v e)).length
          rw [List.take_left] at this
          exact this.rowNil 9 1
end
end Go.Proofs.YtlefgffnjcmfoaaGreatDoor
namespace Go.Proofs.YtlefgffnjcmfoaaGreatDoor
open Go.RowKit Go.Maps Go.ChangeMaps Go.MapKept
open Lx Sy Ch
attribute [local go_sem ↓] Go.wp_at_zero Go.wp_at_succ
section
variable {w0 w : World} {os : List Ob} {i j b ob : Nat} {r : R} {cs : Array Value}
theorem LeftP.out_at (h : LeftP w0 os i b r w) (hj : os[j]? = some (.raw ob (outO cs))) (hij : j ≠ i) : w.heap[ob]? = some (outO cs) := by
  obtain ⟨os', h2, h3⟩ := h.other hj hij
  exact h2.raw_at h3
theorem LeftP.out_set (h : LeftP w0 os i b r w) (hj : os[j]? = some (.raw ob (outO cs))) (hij : j ≠ i) (k : Nat) (x : Value) : LeftP w0 (os.set j (.raw ob (outO (cs.setIfInBounds k x)))) i b r (w.setCell ⟨ob, k, none⟩ x) := by
  obtain ⟨v, e, h1, h2⟩ := h
  refine ⟨v, e, h1, ?_⟩
  rw [List.set_comm _ _ hij]
  exact h2.raw_set (i := j) (by rw [List.getElem?_set_ne hij.symm]; exact hj) k x
/-- What the parts behind those about files say. -/
def rulesR : R → (Int × Int × Int × (Int × Bool) × (Int × Int × Int) × Int) × R := bindR (Sy.part [106, 111, 105, 110] joW) fun jo => bindR (Sy.part [104, 105, 115, 116, 111, 114, 121] hiW) fun hi => bindR (Sy.part [114, 101, 109, 111, 118, 101] reW) fun rm => bindR sLevel fun le => bindR sRate fun ra => bindR sKeep fun ke => retR (jo, hi, rm, le, ra, ke)
theorem opt_acc (s : S) (r : R) : opt s (retR true) false r = (isO s (hdR r), acc s r) := by
  unfold opt iffR acc
  cases h : isO s (hdR r) with
  | true => rfl
  | false => rfl
theorem keep_no {r : R} (h : isO [107, 101, 101, 112] (hdR r) = false) : sKeep r = (0, r) := by
  unfold sKeep opt iffR; rw [h]; rfl
theorem keep_yes {r : R} (h : isO [107, 101, 101, 112] (hdR r) = true) : sKeep r = ((number 1 (want [107, 101, 101, 112] r).2).1, (want [59] (number 1 (want [107, 101, 101, 112] r).2).2).2) := by
  unfold sKeep opt iffR; rw [h]; rfl
set_option maxHeartbeats 8000000 in
set_option maxRecDepth 100000 in
theorem m_rules {X G : Ob} {rest : List Ob} {R0 : R} {c0 c1 c2 c3 c4 c5 c6 c7 c8 c9 c10 c11 c12 : Value} (M : LeftP w0 (X :: G :: .raw ob (outO #[c0, c1, c2, c3, c4, c5, c6, c7, c8, c9, c10, c11, c12, .int .i64 0, .int .i64 0, .int .i64 0, .int .i64 0, .bool false, .int .i64 0, .int .i64 0, .int .i64 0, .int .i64 0]) :: rest) 0 b R0 w) (hE : Env w0) :
    Calls Tryz.prog 47 #[.pointer (some ⟨b, 0, none⟩), .pointer (some ⟨ob, 0, none⟩)] w fun x w' => x = .returned (.tuple #[]) ∧ ∃ z13 z14 z15 z16 bb z18 z19 z20 ke R', rulesR R0 = ((z13, z14, z15, (z16, bb), (z18, z19, z20), ke), R') ∧
      LeftP w0 (X :: G :: .raw ob (outO #[c0, c1, c2, c3, c4, c5, c6, c7, c8, c9, c10, c11, c12, .int .i64 z13, .int .i64 z14, .int .i64 z15, .int .i64 z16, .bool bb, .int .i64 z18, .int .i64 z19, .int .i64 z20, .int .i64 ke]) :: rest) 0 b R' w' := by
  have M := Lib.hid M
  go_enter Tryz.func47, Tryz.ntmps47
  obtain ⟨R1, q1⟩ : ∃ r, r = (want [106, 111, 105, 110] R0).2 := ⟨_, rfl⟩
  have Q1 := Lib.hid (show want [106, 111, 105, 110] R0 = ((), R1) by rw [q1])
  have H := m_expect (ss := [[106, 111, 105, 110]]) (by simp) M.out (by decide) (by decide)
  have H := Lib.hid (show Calls Tryz.prog 40 #[.pointer (some ⟨b, 0, none⟩), .slice (some ⟨w.heap.size, 0, none⟩) 1 1] ((w).alloc (.cells #[.string ⟨#[106, 111, 105, 110]⟩] 9)) (fun x w' => x = .returned (.tuple #[]) ∧ LeftP w0 (X :: G :: .raw ob (outO #[c0, c1, c2, c3, c4, c5, c6, c7, c8, c9, c10, c11, c12, .int .i64 0, .int .i64 0, .int .i64 0, .int .i64 0, .bool false, .int .i64 0, .int .i64 0, .int .i64 0, .int .i64 0]) :: rest) 0 b R1 w') from by rw [q1]; exact H)
  clear M q1
  go_wp2_with (go_at_call 40; refine (H.out).mono ?_; rintro e2 v2 ⟨rfl, m⟩; refine Hid.out ?_)
  refine Lib.hid ?_
  have M := Lib.hid (show LeftP w0 (X :: G :: .raw ob (outO #[c0, c1, c2, c3, c4, c5, c6, c7, c8, c9, c10, c11, c12, .int .i64 0, .int .i64 0, .int .i64 0, .int .i64 0, .bool false, .int .i64 0, .int .i64 0, .int .i64 0, .int .i64 0]) :: rest) 0 b R1 (v2) from m)
  clear m H
  go_upto_region 1 with fail
  have H := m_one (row := 2) (T := joW) (by simp) M.out hE rfl (by decide) (by decide)
  obtain ⟨R3, q3⟩ : ∃ r, r = (one joW R1).2 := ⟨_, rfl⟩
  obtain ⟨z13, y3⟩ : ∃ z, z = (one joW R1).1 := ⟨_, rfl⟩
  have Q3 := Lib.hid (show one joW R1 = (z13, R3) by rw [q3, y3])
  rw [← q3, ← y3] at H
  have H := Lib.hid (show Calls Tryz.prog 42 #[.pointer (some ⟨b, 0, none⟩), .int .i64 2, .slice (some ⟨v2.heap.size, 0, none⟩) 3 3] ((v2).alloc (.cells #[.string ⟨#[105, 110, 118, 105, 116, 101]⟩, .string ⟨#[108, 105, 110, 107]⟩, .string ⟨#[114, 111, 108, 101]⟩] 9)) (fun x w' => x = .returned (.int .i64 z13) ∧ LeftP w0 (X :: G :: .raw ob (outO #[c0, c1, c2, c3, c4, c5, c6, c7, c8, c9, c10, c11, c12, .int .i64 0, .int .i64 0, .int .i64 0, .int .i64 0, .bool false, .int .i64 0, .int .i64 0, .int .i64 0, .int .i64 0]) :: rest) 0 b R3 w') from H)
  clear M q3 y3
  go_wp2_with (go_at_call 42; refine (H.out).mono ?_; rintro e4 v4 ⟨rfl, m⟩; refine Hid.out ?_)
  refine Lib.hid ?_
  have M := Lib.hid (show LeftP w0 (X :: G :: .raw ob (outO #[c0, c1, c2, c3, c4, c5, c6, c7, c8, c9, c10, c11, c12, .int .i64 0, .int .i64 0, .int .i64 0, .int .i64 0, .bool false, .int .i64 0, .int .i64 0, .int .i64 0, .int .i64 0]) :: rest) 0 b R3 (v4) from m)
  clear m H
  have g1 := M.out.out_at (j := 2) rfl (by decide)
  have g2 : (v4).cell? ⟨ob, 13, none⟩ = some (.int .i64 0) := by rw [Lib.cell_of_heap g1]; rfl
  have g3 : (v4).frozen? ⟨ob, 13, none⟩ = false := Lib.frozen_of_heap g1 13
  clear g1
  have M := Lib.hid (show LeftP w0 (X :: G :: .raw ob (outO #[c0, c1, c2, c3, c4, c5, c6, c7, c8, c9, c10, c11, c12, .int .i64 z13, .int .i64 0, .int .i64 0, .int .i64 0, .bool false, .int .i64 0, .int .i64 0, .int .i64 0, .int .i64 0]) :: rest) 0 b R3 ((v4).setCell ⟨ob, 13, none⟩ (.int .i64 z13)) from M.out.out_set (j := 2) rfl (by decide) 13 _)
  go_upto_region 2 with fail
  clear g2 g3
  generalize (v4).setCell ⟨ob, 13, none⟩ (.int .i64 z13) = u5 at *
  obtain ⟨R6, q6⟩ : ∃ r, r = (want [59] R3).2 := ⟨_, rfl⟩
  have Q6 := Lib.hid (show want [59] R3 = ((), R6) by rw [q6])
  obtain ⟨R7, q7⟩ : ∃ r, r = (want [104, 105, 115, 116, 111, 114, 121] R6).2 := ⟨_, rfl⟩
  have Q7 := Lib.hid (show want [104, 105, 115, 116, 111, 114, 121] R6 = ((), R7) by rw [q7])
  have H := m_expect (ss := [[59], [104, 105, 115, 116, 111, 114, 121]]) (by simp) M.out (by decide) (by decide)
  have H := Lib.hid (show Calls Tryz.prog 40 #[.pointer (some ⟨b, 0, none⟩), .slice (some ⟨u5.heap.size, 0, none⟩) 2 2] ((u5).alloc (.cells #[.string ⟨#[59]⟩, .string ⟨#[104, 105, 115, 116, 111, 114, 121]⟩] 9)) (fun x w' => x = .returned (.tuple #[]) ∧ LeftP w0 (X :: G :: .raw ob (outO #[c0, c1, c2, c3, c4, c5, c6, c7, c8, c9, c10, c11, c12, .int .i64 z13, .int .i64 0, .int .i64 0, .int .i64 0, .bool false, .int .i64 0, .int .i64 0, .int .i64 0, .int .i64 0]) :: rest) 0 b R7 w') from by rw [q7, q6]; exact H)
  clear M q6 q7
  go_wp2_with (go_at_call 40; refine (H.out).mono ?_; rintro e8 v8 ⟨rfl, m⟩; refine Hid.out ?_)
  refine Lib.hid ?_
  have M := Lib.hid (show LeftP w0 (X :: G :: .raw ob (outO #[c0, c1, c2, c3, c4, c5, c6, c7, c8, c9, c10, c11, c12, .int .i64 z13, .int .i64 0, .int .i64 0, .int .i64 0, .bool false, .int .i64 0, .int .i64 0, .int .i64 0, .int .i64 0]) :: rest) 0 b R7 (v8) from m)
  clear m H
  go_upto_region 3 with fail
  have H := m_one (row := 3) (T := hiW) (by simp) M.out hE rfl (by decide) (by decide)
  obtain ⟨R9, q9⟩ : ∃ r, r = (one hiW R7).2 := ⟨_, rfl⟩
  obtain ⟨z14, y9⟩ : ∃ z, z = (one hiW R7).1 := ⟨_, rfl⟩
  have Q9 := Lib.hid (show one hiW R7 = (z14, R9) by rw [q9, y9])
  rw [← q9, ← y9] at H
  have H := Lib.hid (show Calls Tryz.prog 42 #[.pointer (some ⟨b, 0, none⟩), .int .i64 3, .slice (some ⟨v8.heap.size, 0, none⟩) 2 2] ((v8).alloc (.cells #[.string ⟨#[115, 105, 110, 99, 101]⟩, .string ⟨#[97, 108, 108]⟩] 9)) (fun x w' => x = .returned (.int .i64 z14) ∧ LeftP w0 (X :: G :: .raw ob (outO #[c0, c1, c2, c3, c4, c5, c6, c7, c8, c9, c10, c11, c12, .int .i64 z13, .int .i64 0, .int .i64 0, .int .i64 0, .bool false, .int .i64 0, .int .i64 0, .int .i64 0, .int .i64 0]) :: rest) 0 b R9 w') from H)
  clear M q9 y9
  go_wp2_with (go_at_call 42; refine (H.out).mono ?_; rintro e10 v10 ⟨rfl, m⟩; refine Hid.out ?_)
  refine Lib.hid ?_
  have M := Lib.hid (show LeftP w0 (X :: G :: .raw ob (outO #[c0, c1, c2, c3, c4, c5, c6, c7, c8, c9, c10, c11, c12, .int .i64 z13, .int .i64 0, .int .i64 0, .int .i64 0, .bool false, .int .i64 0, .int .i64 0, .int .i64 0, .int .i64 0]) :: rest) 0 b R9 (v10) from m)
  clear m H
  have g1 := M.out.out_at (j := 2) rfl (by decide)
  have g2 : (v10).cell? ⟨ob, 14, none⟩ = some (.int .i64 0) := by rw [Lib.cell_of_heap g1]; rfl
  have g3 : (v10).frozen? ⟨ob, 14, none⟩ = false := Lib.frozen_of_heap g1 14
  clear g1
  have M := Lib.hid (show LeftP w0 (X :: G :: .raw ob (outO #[c0, c1, c2, c3, c4, c5, c6, c7, c8, c9, c10, c11, c12, .int .i64 z13, .int .i64 z14, .int .i64 0, .int .i64 0, .bool false, .int .i64 0, .int .i64 0, .int .i64 0, .int .i64 0]) :: rest) 0 b R9 ((v10).setCell ⟨ob, 14, none⟩ (.int .i64 z14)) from M.out.out_set (j := 2) rfl (by decide) 14 _)
  go_upto_region 4 with fail
  clear g2 g3
  generalize (v10).setCell ⟨ob, 14, none⟩ (.int .i64 z14) = u11 at *
  obtain ⟨R12, q12⟩ : ∃ r, r = (want [59] R9).2 := ⟨_, rfl⟩
  have Q12 := Lib.hid (show want [59] R9 = ((), R12) by rw [q12])
  obtain ⟨R13, q13⟩ : ∃ r, r = (want [114, 101, 109, 111, 118, 101] R12).2 := ⟨_, rfl⟩
  have Q13 := Lib.hid (show want [114, 101, 109, 111, 118, 101] R12 = ((), R13) by rw [q13])
  have H := m_expect (ss := [[59], [114, 101, 109, 111, 118, 101]]) (by simp) M.out (by decide) (by decide)
  have H := Lib.hid (show Calls Tryz.prog 40 #[.pointer (some ⟨b, 0, none⟩), .slice (some ⟨u11.heap.size, 0, none⟩) 2 2] ((u11).alloc (.cells #[.string ⟨#[59]⟩, .string ⟨#[114, 101, 109, 111, 118, 101]⟩] 9)) (fun x w' => x = .returned (.tuple #[]) ∧ LeftP w0 (X :: G :: .raw ob (outO #[c0, c1, c2, c3, c4, c5, c6, c7, c8, c9, c10, c11, c12, .int .i64 z13, .int .i64 z14, .int .i64 0, .int .i64 0, .bool false, .int .i64 0, .int .i64 0, .int .i64 0, .int .i64 0]) :: rest) 0 b R13 w') from by rw [q13, q12]; exact H)
  clear M q12 q13
  go_wp2_with (go_at_call 40; refine (H.out).mono ?_; rintro e14 v14 ⟨rfl, m⟩; refine Hid.out ?_)
  refine Lib.hid ?_
  have M := Lib.hid (show LeftP w0 (X :: G :: .raw ob (outO #[c0, c1, c2, c3, c4, c5, c6, c7, c8, c9, c10, c11, c12, .int .i64 z13, .int .i64 z14, .int .i64 0, .int .i64 0, .bool false, .int .i64 0, .int .i64 0, .int .i64 0, .int .i64 0]) :: rest) 0 b R13 (v14) from m)
  clear m H
  go_upto_region 5 with fail
  have H := m_one (row := 4) (T := reW) (by simp) M.out hE rfl (by decide) (by decide)
  obtain ⟨R15, q15⟩ : ∃ r, r = (one reW R13).2 := ⟨_, rfl⟩
  obtain ⟨z15, y15⟩ : ∃ z, z = (one reW R13).1 := ⟨_, rfl⟩
  have Q15 := Lib.hid (show one reW R13 = (z15, R15) by rw [q15, y15])
  rw [← q15, ← y15] at H
  have H := Lib.hid (show Calls Tryz.prog 42 #[.pointer (some ⟨b, 0, none⟩), .int .i64 4, .slice (some ⟨v14.heap.size, 0, none⟩) 2 2] ((v14).alloc (.cells #[.string ⟨#[110, 111, 119]⟩, .string ⟨#[107, 101, 121]⟩] 9)) (fun x w' => x = .returned (.int .i64 z15) ∧ LeftP w0 (X :: G :: .raw ob (outO #[c0, c1, c2, c3, c4, c5, c6, c7, c8, c9, c10, c11, c12, .int .i64 z13, .int .i64 z14, .int .i64 0, .int .i64 0, .bool false, .int .i64 0, .int .i64 0, .int .i64 0, .int .i64 0]) :: rest) 0 b R15 w') from H)
  clear M q15 y15
  go_wp2_with (go_at_call 42; refine (H.out).mono ?_; rintro e16 v16 ⟨rfl, m⟩; refine Hid.out ?_)
  refine Lib.hid ?_
  have M := Lib.hid (show LeftP w0 (X :: G :: .raw ob (outO #[c0, c1, c2, c3, c4, c5, c6, c7, c8, c9, c10, c11, c12, .int .i64 z13, .int .i64 z14, .int .i64 0, .int .i64 0, .bool false, .int .i64 0, .int .i64 0, .int .i64 0, .int .i64 0]) :: rest) 0 b R15 (v16) from m)
  clear m H
  have g1 := M.out.out_at (j := 2) rfl (by decide)
  have g2 : (v16).cell? ⟨ob, 15, none⟩ = some (.int .i64 0) := by rw [Lib.cell_of_heap g1]; rfl
  have g3 : (v16).frozen? ⟨ob, 15, none⟩ = false := Lib.frozen_of_heap g1 15
  clear g1
  have M := Lib.hid (show LeftP w0 (X :: G :: .raw ob (outO #[c0, c1, c2, c3, c4, c5, c6, c7, c8, c9, c10, c11, c12, .int .i64 z13, .int .i64 z14, .int .i64 z15, .int .i64 0, .bool false, .int .i64 0, .int .i64 0, .int .i64 0, .int .i64 0]) :: rest) 0 b R15 ((v16).setCell ⟨ob, 15, none⟩ (.int .i64 z15)) from M.out.out_set (j := 2) rfl (by decide) 15 _)
  go_upto_region 6 with fail
  clear g2 g3
  generalize (v16).setCell ⟨ob, 15, none⟩ (.int .i64 z15) = u17 at *
  obtain ⟨R18, q18⟩ : ∃ r, r = (want [59] R15).2 := ⟨_, rfl⟩
  have Q18 := Lib.hid (show want [59] R15 = ((), R18) by rw [q18])
  obtain ⟨R19, q19⟩ : ∃ r, r = (want [114, 101, 99, 101, 105, 112, 116, 115] R18).2 := ⟨_, rfl⟩
  have Q19 := Lib.hid (show want [114, 101, 99, 101, 105, 112, 116, 115] R18 = ((), R19) by rw [q19])
  have H := m_expect (ss := [[59], [114, 101, 99, 101, 105, 112, 116, 115]]) (by simp) M.out (by decide) (by decide)
  have H := Lib.hid (show Calls Tryz.prog 40 #[.pointer (some ⟨b, 0, none⟩), .slice (some ⟨u17.heap.size, 0, none⟩) 2 2] ((u17).alloc (.cells #[.string ⟨#[59]⟩, .string ⟨#[114, 101, 99, 101, 105, 112, 116, 115]⟩] 9)) (fun x w' => x = .returned (.tuple #[]) ∧ LeftP w0 (X :: G :: .raw ob (outO #[c0, c1, c2, c3, c4, c5, c6, c7, c8, c9, c10, c11, c12, .int .i64 z13, .int .i64 z14, .int .i64 z15, .int .i64 0, .bool false, .int .i64 0, .int .i64 0, .int .i64 0, .int .i64 0]) :: rest) 0 b R19 w') from by rw [q19, q18]; exact H)
  clear M q18 q19
  go_wp2_with (go_at_call 40; refine (H.out).mono ?_; rintro e20 v20 ⟨rfl, m⟩; refine Hid.out ?_)
  refine Lib.hid ?_
  have M := Lib.hid (show LeftP w0 (X :: G :: .raw ob (outO #[c0, c1, c2, c3, c4, c5, c6, c7, c8, c9, c10, c11, c12, .int .i64 z13, .int .i64 z14, .int .i64 z15, .int .i64 0, .bool false, .int .i64 0, .int .i64 0, .int .i64 0, .int .i64 0]) :: rest) 0 b R19 (v20) from m)
  clear m H
  go_upto_region 7 with fail
  have H := m_one (row := 5) (T := leW) (by simp) M.out hE rfl (by decide) (by decide)
  obtain ⟨R21, q21⟩ : ∃ r, r = (one leW R19).2 := ⟨_, rfl⟩
  obtain ⟨z16, y21⟩ : ∃ z, z = (one leW R19).1 := ⟨_, rfl⟩
  have Q21 := Lib.hid (show one leW R19 = (z16, R21) by rw [q21, y21])
  rw [← q21, ← y21] at H
  have H := Lib.hid (show Calls Tryz.prog 42 #[.pointer (some ⟨b, 0, none⟩), .int .i64 5, .slice (some ⟨v20.heap.size, 0, none⟩) 5 5] ((v20).alloc (.cells #[.string ⟨#[110, 111, 110, 101]⟩, .string ⟨#[115, 101, 110, 116]⟩, .string ⟨#[104, 101, 108, 100]⟩, .string ⟨#[115, 104, 111, 119, 110]⟩, .string ⟨#[114, 101, 97, 100]⟩] 9)) (fun x w' => x = .returned (.int .i64 z16) ∧ LeftP w0 (X :: G :: .raw ob (outO #[c0, c1, c2, c3, c4, c5, c6, c7, c8, c9, c10, c11, c12, .int .i64 z13, .int .i64 z14, .int .i64 z15, .int .i64 0, .bool false, .int .i64 0, .int .i64 0, .int .i64 0, .int .i64 0]) :: rest) 0 b R21 w') from H)
  clear M q21 y21
  go_wp2_with (go_at_call 42; refine (H.out).mono ?_; rintro e22 v22 ⟨rfl, m⟩; refine Hid.out ?_)
  refine Lib.hid ?_
  have M := Lib.hid (show LeftP w0 (X :: G :: .raw ob (outO #[c0, c1, c2, c3, c4, c5, c6, c7, c8, c9, c10, c11, c12, .int .i64 z13, .int .i64 z14, .int .i64 z15, .int .i64 0, .bool false, .int .i64 0, .int .i64 0, .int .i64 0, .int .i64 0]) :: rest) 0 b R21 (v22) from m)
  clear m H
  have g1 := M.out.out_at (j := 2) rfl (by decide)
  have g2 : (v22).cell? ⟨ob, 16, none⟩ = some (.int .i64 0) := by rw [Lib.cell_of_heap g1]; rfl
  have g3 : (v22).frozen? ⟨ob, 16, none⟩ = false := Lib.frozen_of_heap g1 16
  clear g1
  have M := Lib.hid (show LeftP w0 (X :: G :: .raw ob (outO #[c0, c1, c2, c3, c4, c5, c6, c7, c8, c9, c10, c11, c12, .int .i64 z13, .int .i64 z14, .int .i64 z15, .int .i64 z16, .bool false, .int .i64 0, .int .i64 0, .int .i64 0, .int .i64 0]) :: rest) 0 b R21 ((v22).setCell ⟨ob, 16, none⟩ (.int .i64 z16)) from M.out.out_set (j := 2) rfl (by decide) 16 _)
  go_upto_region 8 with fail
  clear g2 g3
  generalize (v22).setCell ⟨ob, 16, none⟩ (.int .i64 z16) = u23 at *
  have H := Lib.hid (m_accept (s := [98, 97, 116, 99, 104]) (by simp) M.out (by decide))
  obtain ⟨R24, q24⟩ : ∃ r, r = acc [98, 97, 116, 99, 104] R21 := ⟨_, rfl⟩
  obtain ⟨bb, y24⟩ : ∃ z, z = isO [98, 97, 116, 99, 104] (hdR R21) := ⟨_, rfl⟩
  have Q24 := Lib.hid (show opt [98, 97, 116, 99, 104] (retR true) false R21 = (bb, R24) by rw [opt_acc, q24, y24])
  rw [← q24, ← y24] at H
  clear M q24 y24
  go_wp2_with (go_at_call 43; refine (H.out).mono ?_; rintro e25 v25 ⟨rfl, m⟩; refine Hid.out ?_)
  refine Lib.hid ?_
  have M := Lib.hid (show LeftP w0 (X :: G :: .raw ob (outO #[c0, c1, c2, c3, c4, c5, c6, c7, c8, c9, c10, c11, c12, .int .i64 z13, .int .i64 z14, .int .i64 z15, .int .i64 z16, .bool false, .int .i64 0, .int .i64 0, .int .i64 0, .int .i64 0]) :: rest) 0 b R24 (v25) from m)
  clear m H
  have g1 := M.out.out_at (j := 2) rfl (by decide)
  have g2 : (v25).cell? ⟨ob, 17, none⟩ = some (.bool false) := by rw [Lib.cell_of_heap g1]; rfl
  have g3 : (v25).frozen? ⟨ob, 17, none⟩ = false := Lib.frozen_of_heap g1 17
  clear g1
  have M := Lib.hid (show LeftP w0 (X :: G :: .raw ob (outO #[c0, c1, c2, c3, c4, c5, c6, c7, c8, c9, c10, c11, c12, .int .i64 z13, .int .i64 z14, .int .i64 z15, .int .i64 z16, .bool bb, .int .i64 0, .int .i64 0, .int .i64 0, .int .i64 0]) :: rest) 0 b R24 ((v25).setCell ⟨ob, 17, none⟩ (.bool bb)) from M.out.out_set (j := 2) rfl (by decide) 17 _)
  go_upto_region 9 with fail
  clear g2 g3
  generalize (v25).setCell ⟨ob, 17, none⟩ (.bool bb) = u26 at *
  obtain ⟨R27, q27⟩ : ∃ r, r = (want [59] R24).2 := ⟨_, rfl⟩
  have Q27 := Lib.hid (show want [59] R24 = ((), R27) by rw [q27])
  obtain ⟨R28, q28⟩ : ∃ r, r = (want [114, 97, 116, 101] R27).2 := ⟨_, rfl⟩
  have Q28 := Lib.hid (show want [114, 97, 116, 101] R27 = ((), R28) by rw [q28])
  have H := m_expect (ss := [[59], [114, 97, 116, 101]]) (by simp) M.out (by decide) (by decide)
  have H := Lib.hid (show Calls Tryz.prog 40 #[.pointer (some ⟨b, 0, none⟩), .slice (some ⟨u26.heap.size, 0, none⟩) 2 2] ((u26).alloc (.cells #[.string ⟨#[59]⟩, .string ⟨#[114, 97, 116, 101]⟩] 9)) (fun x w' => x = .returned (.tuple #[]) ∧ LeftP w0 (X :: G :: .raw ob (outO #[c0, c1, c2, c3, c4, c5, c6, c7, c8, c9, c10, c11, c12, .int .i64 z13, .int .i64 z14, .int .i64 z15, .int .i64 z16, .bool bb, .int .i64 0, .int .i64 0, .int .i64 0, .int .i64 0]) :: rest) 0 b R28 w') from by rw [q28, q27]; exact H)
  clear M q27 q28
  go_wp2_with (go_at_call 40; refine (H.out).mono ?_; rintro e29 v29 ⟨rfl, m⟩; refine Hid.out ?_)
  refine Lib.hid ?_
  have M := Lib.hid (show LeftP w0 (X :: G :: .raw ob (outO #[c0, c1, c2, c3, c4, c5, c6, c7, c8, c9, c10, c11, c12, .int .i64 z13, .int .i64 z14, .int .i64 z15, .int .i64 z16, .bool bb, .int .i64 0, .int .i64 0, .int .i64 0, .int .i64 0]) :: rest) 0 b R28 (v29) from m)
  clear m H
  go_upto_region 10 with fail
  have H := Lib.hid (m_number (by simp) M.out 0)
  obtain ⟨R30, q30⟩ : ∃ r, r = (number 0 R28).2 := ⟨_, rfl⟩
  obtain ⟨z18, y30⟩ : ∃ z, z = (number 0 R28).1 := ⟨_, rfl⟩
  have Q30 := Lib.hid (show number 0 R28 = (z18, R30) by rw [q30, y30])
  rw [← q30, ← y30] at H
  clear M q30 y30
  go_wp2_with (go_at_call 44; refine (H.out).mono ?_; rintro e31 v31 ⟨rfl, m⟩; refine Hid.out ?_)
  refine Lib.hid ?_
  have M := Lib.hid (show LeftP w0 (X :: G :: .raw ob (outO #[c0, c1, c2, c3, c4, c5, c6, c7, c8, c9, c10, c11, c12, .int .i64 z13, .int .i64 z14, .int .i64 z15, .int .i64 z16, .bool bb, .int .i64 0, .int .i64 0, .int .i64 0, .int .i64 0]) :: rest) 0 b R30 (v31) from m)
  clear m H
  have g1 := M.out.out_at (j := 2) rfl (by decide)
  have g2 : (v31).cell? ⟨ob, 18, none⟩ = some (.int .i64 0) := by rw [Lib.cell_of_heap g1]; rfl
  have g3 : (v31).frozen? ⟨ob, 18, none⟩ = false := Lib.frozen_of_heap g1 18
  clear g1
  have M := Lib.hid (show LeftP w0 (X :: G :: .raw ob (outO #[c0, c1, c2, c3, c4, c5, c6, c7, c8, c9, c10, c11, c12, .int .i64 z13, .int .i64 z14, .int .i64 z15, .int .i64 z16, .bool bb, .int .i64 z18, .int .i64 0, .int .i64 0, .int .i64 0]) :: rest) 0 b R30 ((v31).setCell ⟨ob, 18, none⟩ (.int .i64 z18)) from M.out.out_set (j := 2) rfl (by decide) 18 _)
  go_upto_region 11 with fail
  clear g2 g3
  generalize (v31).setCell ⟨ob, 18, none⟩ (.int .i64 z18) = u32 at *
  obtain ⟨R33, q33⟩ : ∃ r, r = (want [100, 111, 119, 110] R30).2 := ⟨_, rfl⟩
  have Q33 := Lib.hid (show want [100, 111, 119, 110] R30 = ((), R33) by rw [q33])
  have H := m_expect (ss := [[100, 111, 119, 110]]) (by simp) M.out (by decide) (by decide)
  have H := Lib.hid (show Calls Tryz.prog 40 #[.pointer (some ⟨b, 0, none⟩), .slice (some ⟨u32.heap.size, 0, none⟩) 1 1] ((u32).alloc (.cells #[.string ⟨#[100, 111, 119, 110]⟩] 9)) (fun x w' => x = .returned (.tuple #[]) ∧ LeftP w0 (X :: G :: .raw ob (outO #[c0, c1, c2, c3, c4, c5, c6, c7, c8, c9, c10, c11, c12, .int .i64 z13, .int .i64 z14, .int .i64 z15, .int .i64 z16, .bool bb, .int .i64 z18, .int .i64 0, .int .i64 0, .int .i64 0]) :: rest) 0 b R33 w') from by rw [q33]; exact H)
  clear M q33
  go_wp2_with (go_at_call 40; refine (H.out).mono ?_; rintro e34 v34 ⟨rfl, m⟩; refine Hid.out ?_)
  refine Lib.hid ?_
  have M := Lib.hid (show LeftP w0 (X :: G :: .raw ob (outO #[c0, c1, c2, c3, c4, c5, c6, c7, c8, c9, c10, c11, c12, .int .i64 z13, .int .i64 z14, .int .i64 z15, .int .i64 z16, .bool bb, .int .i64 z18, .int .i64 0, .int .i64 0, .int .i64 0]) :: rest) 0 b R33 (v34) from m)
  clear m H
  go_upto_region 12 with fail
  have H := Lib.hid (m_number (by simp) M.out 0)
  obtain ⟨R35, q35⟩ : ∃ r, r = (number 0 R33).2 := ⟨_, rfl⟩
  obtain ⟨z19, y35⟩ : ∃ z, z = (number 0 R33).1 := ⟨_, rfl⟩
  have Q35 := Lib.hid (show number 0 R33 = (z19, R35) by rw [q35, y35])
  rw [← q35, ← y35] at H
  clear M q35 y35
  go_wp2_with (go_at_call 44; refine (H.out).mono ?_; rintro e36 v36 ⟨rfl, m⟩; refine Hid.out ?_)
  refine Lib.hid ?_
  have M := Lib.hid (show LeftP w0 (X :: G :: .raw ob (outO #[c0, c1, c2, c3, c4, c5, c6, c7, c8, c9, c10, c11, c12, .int .i64 z13, .int .i64 z14, .int .i64 z15, .int .i64 z16, .bool bb, .int .i64 z18, .int .i64 0, .int .i64 0, .int .i64 0]) :: rest) 0 b R35 (v36) from m)
  clear m H
  have g1 := M.out.out_at (j := 2) rfl (by decide)
  have g2 : (v36).cell? ⟨ob, 19, none⟩ = some (.int .i64 0) := by rw [Lib.cell_of_heap g1]; rfl
  have g3 : (v36).frozen? ⟨ob, 19, none⟩ = false := Lib.frozen_of_heap g1 19
  clear g1
  have M := Lib.hid (show LeftP w0 (X :: G :: .raw ob (outO #[c0, c1, c2, c3, c4, c5, c6, c7, c8, c9, c10, c11, c12, .int .i64 z13, .int .i64 z14, .int .i64 z15, .int .i64 z16, .bool bb, .int .i64 z18, .int .i64 z19, .int .i64 0, .int .i64 0]) :: rest) 0 b R35 ((v36).setCell ⟨ob, 19, none⟩ (.int .i64 z19)) from M.out.out_set (j := 2) rfl (by decide) 19 _)
  go_upto_region 13 with fail
  clear g2 g3
  generalize (v36).setCell ⟨ob, 19, none⟩ (.int .i64 z19) = u37 at *
  obtain ⟨R38, q38⟩ : ∃ r, r = (want [111, 102] R35).2 := ⟨_, rfl⟩
  have Q38 := Lib.hid (show want [111, 102] R35 = ((), R38) by rw [q38])
  have H := m_expect (ss := [[111, 102]]) (by simp) M.out (by decide) (by decide)
  have H := Lib.hid (show Calls Tryz.prog 40 #[.pointer (some ⟨b, 0, none⟩), .slice (some ⟨u37.heap.size, 0, none⟩) 1 1] ((u37).alloc (.cells #[.string ⟨#[111, 102]⟩] 9)) (fun x w' => x = .returned (.tuple #[]) ∧ LeftP w0 (X :: G :: .raw ob (outO #[c0, c1, c2, c3, c4, c5, c6, c7, c8, c9, c10, c11, c12, .int .i64 z13, .int .i64 z14, .int .i64 z15, .int .i64 z16, .bool bb, .int .i64 z18, .int .i64 z19, .int .i64 0, .int .i64 0]) :: rest) 0 b R38 w') from by rw [q38]; exact H)
  clear M q38
  go_wp2_with (go_at_call 40; refine (H.out).mono ?_; rintro e39 v39 ⟨rfl, m⟩; refine Hid.out ?_)
  refine Lib.hid ?_
  have M := Lib.hid (show LeftP w0 (X :: G :: .raw ob (outO #[c0, c1, c2, c3, c4, c5, c6, c7, c8, c9, c10, c11, c12, .int .i64 z13, .int .i64 z14, .int .i64 z15, .int .i64 z16, .bool bb, .int .i64 z18, .int .i64 z19, .int .i64 0, .int .i64 0]) :: rest) 0 b R38 (v39) from m)
  clear m H
  go_upto_region 14 with fail
  have H := Lib.hid (m_number (by simp) M.out 0)
  obtain ⟨R40, q40⟩ : ∃ r, r = (number 0 R38).2 := ⟨_, rfl⟩
  obtain ⟨z20, y40⟩ : ∃ z, z = (number 0 R38).1 := ⟨_, rfl⟩
  have Q40 := Lib.hid (show number 0 R38 = (z20, R40) by rw [q40, y40])
  rw [← q40, ← y40] at H
  clear M q40 y40
  go_wp2_with (go_at_call 44; refine (H.out).mono ?_; rintro e41 v41 ⟨rfl, m⟩; refine Hid.out ?_)
  refine Lib.hid ?_
  have M := Lib.hid (show LeftP w0 (X :: G :: .raw ob (outO #[c0, c1, c2, c3, c4, c5, c6, c7, c8, c9, c10, c11, c12, .int .i64 z13, .int .i64 z14, .int .i64 z15, .int .i64 z16, .bool bb, .int .i64 z18, .int .i64 z19, .int .i64 0, .int .i64 0]) :: rest) 0 b R40 (v41) from m)
  clear m H
  have g1 := M.out.out_at (j := 2) rfl (by decide)
  have g2 : (v41).cell? ⟨ob, 20, none⟩ = some (.int .i64 0) := by rw [Lib.cell_of_heap g1]; rfl
  have g3 : (v41).frozen? ⟨ob, 20, none⟩ = false := Lib.frozen_of_heap g1 20
  clear g1
  have M := Lib.hid (show LeftP w0 (X :: G :: .raw ob (outO #[c0, c1, c2, c3, c4, c5, c6, c7, c8, c9, c10, c11, c12, .int .i64 z13, .int .i64 z14, .int .i64 z15, .int .i64 z16, .bool bb, .int .i64 z18, .int .i64 z19, .int .i64 z20, .int .i64 0]) :: rest) 0 b R40 ((v41).setCell ⟨ob, 20, none⟩ (.int .i64 z20)) from M.out.out_set (j := 2) rfl (by decide) 20 _)
  go_upto_region 15 with fail
  clear g2 g3
  generalize (v41).setCell ⟨ob, 20, none⟩ (.int .i64 z20) = u42 at *
  obtain ⟨R43, q43⟩ : ∃ r, r = (want [59] R40).2 := ⟨_, rfl⟩
  have Q43 := Lib.hid (show want [59] R40 = ((), R43) by rw [q43])
  have H := m_expect (ss := [[59]]) (by simp) M.out (by decide) (by decide)
  have H := Lib.hid (show Calls Tryz.prog 40 #[.pointer (some ⟨b, 0, none⟩), .slice (some ⟨u42.heap.size, 0, none⟩) 1 1] ((u42).alloc (.cells #[.string ⟨#[59]⟩] 9)) (fun x w' => x = .returned (.tuple #[]) ∧ LeftP w0 (X :: G :: .raw ob (outO #[c0, c1, c2, c3, c4, c5, c6, c7, c8, c9, c10, c11, c12, .int .i64 z13, .int .i64 z14, .int .i64 z15, .int .i64 z16, .bool bb, .int .i64 z18, .int .i64 z19, .int .i64 z20, .int .i64 0]) :: rest) 0 b R43 w') from by rw [q43]; exact H)
  clear M q43
  go_wp2_with (go_at_call 40; refine (H.out).mono ?_; rintro e44 v44 ⟨rfl, m⟩; refine Hid.out ?_)
  refine Lib.hid ?_
  have M := Lib.hid (show LeftP w0 (X :: G :: .raw ob (outO #[c0, c1, c2, c3, c4, c5, c6, c7, c8, c9, c10, c11, c12, .int .i64 z13, .int .i64 z14, .int .i64 z15, .int .i64 z16, .bool bb, .int .i64 z18, .int .i64 z19, .int .i64 z20, .int .i64 0]) :: rest) 0 b R43 (v44) from m)
  clear m H
  go_upto_region 16 with fail
  have S1 := Lib.hid (show Sy.part [106, 111, 105, 110] joW R0 = (z13, R6) by unfold Sy.part; rw [bindR_eq Q1.out, bindR_eq Q3.out, bindR_eq Q6.out]; rfl)
  have S2 := Lib.hid (show Sy.part [104, 105, 115, 116, 111, 114, 121] hiW R6 = (z14, R12) by unfold Sy.part; rw [bindR_eq Q7.out, bindR_eq Q9.out, bindR_eq Q12.out]; rfl)
  have S3 := Lib.hid (show Sy.part [114, 101, 109, 111, 118, 101] reW R12 = (z15, R18) by unfold Sy.part; rw [bindR_eq Q13.out, bindR_eq Q15.out, bindR_eq Q18.out]; rfl)
  have S4 := Lib.hid (show sLevel R18 = ((z16, bb), R27) by unfold sLevel; rw [bindR_eq Q19.out, bindR_eq Q21.out, bindR_eq Q24.out, bindR_eq Q27.out]; rfl)
  have S5 := Lib.hid (show sRate R27 = ((z18, z19, z20), R43) by unfold sRate; rw [bindR_eq Q28.out, bindR_eq Q30.out, bindR_eq Q33.out, bindR_eq Q35.out, bindR_eq Q38.out, bindR_eq Q40.out, bindR_eq Q43.out]; rfl)
  have HRU := Lib.hid (show rulesR R0 = bindR sKeep (fun ke => retR (z13, z14, z15, (z16, bb), (z18, z19, z20), ke)) R43 by unfold rulesR; rw [bindR_eq S1.out, bindR_eq S2.out, bindR_eq S3.out, bindR_eq S4.out, bindR_eq S5.out])
  clear S1 S2 S3 S4 S5 Q1 Q3 Q6 Q7 Q9 Q12 Q13 Q15 Q18 Q19 Q21 Q24 Q27 Q28 Q30 Q33 Q35 Q38 Q40 Q43
  have H := m_accept (s := [107, 101, 101, 112]) (by simp) M.out (by decide)
  clear M
  cases ho : isO [107, 101, 101, 112] (hdR R43) with
  | false =>
    have HK := Lib.hid (keep_no ho)
    rw [acc_no ho, ho] at H
    have H := Lib.hid H
    clear ho
    go_wp2_with (go_at_call 43; refine (H.out).mono ?_; rintro e45 v45 ⟨rfl, m⟩; refine Hid.out ?_)
    refine Lib.hid ?_
    have M := Lib.hid (show LeftP w0 (X :: G :: .raw ob (outO #[c0, c1, c2, c3, c4, c5, c6, c7, c8, c9, c10, c11, c12, .int .i64 z13, .int .i64 z14, .int .i64 z15, .int .i64 z16, .bool bb, .int .i64 z18, .int .i64 z19, .int .i64 z20, .int .i64 0]) :: rest) 0 b R43 (v45) from m)
    clear m H
    go_wp2
    go_end0
    exact ⟨rfl, z13, z14, z15, z16, bb, z18, z19, z20, 0, R43, by rw [HRU.out, bindR_eq HK.out]; rfl, M.out⟩
  | true =>
    have HK := Lib.hid (keep_yes ho)
    rw [acc_yes ho, ho] at H
    have H := Lib.hid H
    clear ho
    obtain ⟨R46, q46⟩ : ∃ r, r = (want [107, 101, 101, 112] R43).2 := ⟨_, rfl⟩
    rw [← q46] at H HK
    clear q46
    go_wp2_with (go_at_call 43; refine (H.out).mono ?_; rintro e47 v47 ⟨rfl, m⟩; refine Hid.out ?_)
    refine Lib.hid ?_
    have M := Lib.hid (show LeftP w0 (X :: G :: .raw ob (outO #[c0, c1, c2, c3, c4, c5, c6, c7, c8, c9, c10, c11, c12, .int .i64 z13, .int .i64 z14, .int .i64 z15, .int .i64 z16, .bool bb, .int .i64 z18, .int .i64 z19, .int .i64 z20, .int .i64 0]) :: rest) 0 b R46 (v47) from m)
    clear m H
    go_upto_region 17 with fail
    have H := Lib.hid (m_number (by simp) M.out 1)
    obtain ⟨R48, q48⟩ : ∃ r, r = (number 1 R46).2 := ⟨_, rfl⟩
    obtain ⟨ke, y48⟩ : ∃ z, z = (number 1 R46).1 := ⟨_, rfl⟩
    have Q48 := Lib.hid (show number 1 R46 = (ke, R48) by rw [q48, y48])
    rw [← q48, ← y48] at H
    clear M q48 y48
    go_wp2_with (go_at_call 44; refine (H.out).mono ?_; rintro e49 v49 ⟨rfl, m⟩; refine Hid.out ?_)
    refine Lib.hid ?_
    have M := Lib.hid (show LeftP w0 (X :: G :: .raw ob (outO #[c0, c1, c2, c3, c4, c5, c6, c7, c8, c9, c10, c11, c12, .int .i64 z13, .int .i64 z14, .int .i64 z15, .int .i64 z16, .bool bb, .int .i64 z18, .int .i64 z19, .int .i64 z20, .int .i64 0]) :: rest) 0 b R48 (v49) from m)
    clear m H
    have g1 := M.out.out_at (j := 2) rfl (by decide)
    have g2 : (v49).cell? ⟨ob, 21, none⟩ = some (.int .i64 0) := by rw [Lib.cell_of_heap g1]; rfl
    have g3 : (v49).frozen? ⟨ob, 21, none⟩ = false := Lib.frozen_of_heap g1 21
    clear g1
    have M := Lib.hid (show LeftP w0 (X :: G :: .raw ob (outO #[c0, c1, c2, c3, c4, c5, c6, c7, c8, c9, c10, c11, c12, .int .i64 z13, .int .i64 z14, .int .i64 z15, .int .i64 z16, .bool bb, .int .i64 z18, .int .i64 z19, .int .i64 z20, .int .i64 ke]) :: rest) 0 b R48 ((v49).setCell ⟨ob, 21, none⟩ (.int .i64 ke)) from M.out.out_set (j := 2) rfl (by decide) 21 _)
    go_upto_region 18 with fail
    clear g2 g3
    generalize (v49).setCell ⟨ob, 21, none⟩ (.int .i64 ke) = u50 at *
    obtain ⟨R51, q51⟩ : ∃ r, r = (want [59] R48).2 := ⟨_, rfl⟩
    have Q51 := Lib.hid (show want [59] R48 = ((), R51) by rw [q51])
    have H := m_expect (ss := [[59]]) (by simp) M.out (by decide) (by decide)
    have H := Lib.hid (show Calls Tryz.prog 40 #[.pointer (some ⟨b, 0, none⟩), .slice (some ⟨u50.heap.size, 0, none⟩) 1 1] ((u50).alloc (.cells #[.string ⟨#[59]⟩] 9)) (fun x w' => x = .returned (.tuple #[]) ∧ LeftP w0 (X :: G :: .raw ob (outO #[c0, c1, c2, c3, c4, c5, c6, c7, c8, c9, c10, c11, c12, .int .i64 z13, .int .i64 z14, .int .i64 z15, .int .i64 z16, .bool bb, .int .i64 z18, .int .i64 z19, .int .i64 z20, .int .i64 ke]) :: rest) 0 b R51 w') from by rw [q51]; exact H)
    clear M q51
    go_wp2_with (go_at_call 40; refine (H.out).mono ?_; rintro e52 v52 ⟨rfl, m⟩; refine Hid.out ?_)
    refine Lib.hid ?_
    have M := Lib.hid (show LeftP w0 (X :: G :: .raw ob (outO #[c0, c1, c2, c3, c4, c5, c6, c7, c8, c9, c10, c11, c12, .int .i64 z13, .int .i64 z14, .int .i64 z15, .int .i64 z16, .bool bb, .int .i64 z18, .int .i64 z19, .int .i64 z20, .int .i64 ke]) :: rest) 0 b R51 (v52) from m)
    clear m H
    go_wp2
    go_end0
    exact ⟨rfl, z13, z14, z15, z16, bb, z18, z19, z20, ke, R51, by rw [HRU.out, bindR_eq HK.out, Q48.out, Q51.out]; rfl, M.out⟩
end
end Go.Proofs.YtlefgffnjcmfoaaGreatDoor
