/- Several texts in one: Yp, Yq, Yr, Ys, Yt, Yu. -/
import Derived.Test.YtlefgffnjcmfoaaDoorMA
import Derived.Test.YtlefgffnjcmfoaaDoorMB
import Derived.Test.YtlefgffnjcmfoaaDoorMC
import Derived.BigQuiet
namespace Go.Proofs.YtlefgffnjcmfoaaDoor
open Go.RowKit Go.Maps Go.ChangeMaps Go.MapKept
open Lx Sy
attribute [local go_sem ↓] Go.wp_at_zero Go.wp_at_succ
/-- What it has read: the state of the grammar. -/
def Fit (L : List Tk) (r : R) (a : Nat) (p e : Int) : Prop := match r with
  | .ok l => L.drop a = l ∧ l ≠ [] ∧ e = 0
  | .error (l, x) => e = x ∧ x ≠ 0 ∧ p = posOf l ∧ a < L.length
def Ends (L : List Tk) : Prop := ∃ us E, L = us ++ [E] ∧ E.kind = 3 ∧ ∀ t ∈ us, t.kind ≠ 3
theorem Fit.lt {L : List Tk} {r : R} {a : Nat} {p e : Int} (h : Fit L r a p e) : a < L.length := by
  cases r with
  | ok l =>
    obtain ⟨h1, h2, _⟩ := h
    refine Nat.lt_of_not_le fun q => h2 ?_
    rw [← h1, List.drop_eq_nil_of_le q]
  | error x => exact h.2.2.2
theorem is_of {L : List Tk} {r : R} {a : Nat} {p e : Int} {z : Tk} (h : Fit L r a p e) (hz : L[a]? = some z) (s : S) : isO s (hdR r) = (decide (e = 0) && isB s (br z)) := by
  cases r with
  | ok l =>
    obtain ⟨h1, _, h3⟩ := h
    subst h3
    have : l = z :: L.drop (a + 1) := by
      obtain ⟨q1, q2⟩ := List.getElem?_eq_some_iff.1 hz
      rw [← h1, ← q2]; exact List.drop_eq_getElem_cons q1
    rw [this]; simp [hdR, hd, isO]
  | error x =>
    obtain ⟨h1, h2, _⟩ := h
    subst h1
    simp [hdR, isO, h2]
theorem tk_new (w : World) (p : Tk) : TkCells (w.alloc (.cells #[.int .i64 p.kind, .string (bs p.text), .int .i64 p.n, .int .i64 p.pos] 40)) w.heap.size 0 p :=
  ⟨by rw [Lib.cell_of_heap (MapKept.heap_alloc _ _).1]; rfl, by rw [Lib.cell_of_heap (MapKept.heap_alloc _ _).1]; rfl, by rw [Lib.cell_of_heap (MapKept.heap_alloc _ _).1]; rfl, by rw [Lib.cell_of_heap (MapKept.heap_alloc _ _).1]; rfl⟩
theorem drop_of {L : List Tk} {a : Nat} {z : Tk} (h : L[a]? = some z) : L.drop a = z :: L.drop (a + 1) := by
  obtain ⟨h1, h2⟩ := List.getElem?_eq_some_iff.1 h
  rw [← h2]; exact List.drop_eq_getElem_cons h1
theorem keepS {w : World} {b tb o : Nat} {v v1 : Value} {z : Tk} {x : Obj} (h : w.cell? ⟨b, 0, none⟩ = some v ∧ w.cell? ⟨b, 1, none⟩ = some v1 ∧ TkCells w tb o z) :
    (w.alloc x).cell? ⟨b, 0, none⟩ = some v ∧ (w.alloc x).cell? ⟨b, 1, none⟩ = some v1 ∧ TkCells (w.alloc x) tb o z := by
  have hb := (Below.refl w.heap.size w).alloc (Nat.le_refl _) x
  exact ⟨below_cell h.1 hb, below_cell h.2.1 hb, below_cell h.2.2.1 hb, below_cell h.2.2.2.1 hb, below_cell h.2.2.2.2.1 hb, below_cell h.2.2.2.2.2 hb⟩
section
variable {w0 w : World} {os : List Ob} {i b a : Nat} {v : Value} {p e : Int} {L : List Tk} {r : R}
theorem set_same {os : List Ob} {i : Nat} {x : Ob} (h : os[i]? = some x) : os.set i x = os := by
  obtain ⟨h1, h2⟩ := List.getElem?_eq_some_iff.1 h
  rw [← h2]; exact List.set_getElem_self h1
/-- An error at the current token, if there was none before. -/
def badR (e : Int) : R → R
  | .ok l => .error (l, e)
  | .error x => .error x
theorem Fit.bad {L : List Tk} {r : R} {a : Nat} {p e x : Int} {z : Tk} (h : Fit L r a p e) (hz : L[a]? = some z) (hx : x ≠ 0) (he : e = 0) : Fit L (badR x r) a z.pos x := by
  cases r with
  | ok l =>
    obtain ⟨h1, h2, _⟩ := h
    have hd := drop_of hz
    rw [h1] at hd
    exact ⟨rfl, hx, by rw [hd]; rfl, (List.getElem?_eq_some_iff.1 hz).1⟩
  | error y =>
    obtain ⟨h1, h2, _⟩ := h
    exact (h2 (h1.symm.trans he)).elim
theorem Fit.still {L : List Tk} {r : R} {a : Nat} {p e x : Int} (h : Fit L r a p e) (he : e ≠ 0) : Fit L (badR x r) a p e := by
  cases r with
  | ok l => exact (he h.2.2).elim
  | error y => exact h
end
end Go.Proofs.YtlefgffnjcmfoaaDoor
namespace Go.Proofs.YtlefgffnjcmfoaaDoor
open Go.RowKit Go.Maps Go.ChangeMaps Go.MapKept
open Lx Sy
attribute [local go_sem ↓] Go.wp_at_zero Go.wp_at_succ
/-- Behind the current token. -/
def Nxt (L : List Tk) (a : Nat) : R := .ok (L.drop (a + 1))
theorem ends_next {L : List Tk} {a : Nat} {z : Tk} (hE : Ends L) (hz : L[a]? = some z) (h3 : z.kind ≠ 3) : L.drop (a + 1) ≠ [] := by
  obtain ⟨us, E, rfl, h1, _⟩ := hE
  intro q
  have h2 : us.length + 1 ≤ a + 1 := by have := List.drop_eq_nil_iff.1 q; simpa using this
  have hl := (List.getElem?_eq_some_iff.1 hz).1
  have ha : a = us.length := by simp at hl; omega
  rw [ha] at hz
  simp at hz
  exact h3 (hz ▸ h1)
theorem Fit.next {L : List Tk} {a : Nat} {p : Int} {z : Tk} (hE : Ends L) (hz : L[a]? = some z) (h3 : z.kind ≠ 3) : Fit L (Nxt L a) (a + 1) p 0 := ⟨rfl, ends_next hE hz h3, rfl⟩
/-- A reader of one token, as it meets the current one. -/
theorem tok_at {α : Type} {f : B → Except Int α} {d : α} {L : List Tk} {r : R} {a : Nat} {p e : Int} {z : Tk} (h : Fit L r a p e) (hz : L[a]? = some z) :
    tokR f d r = if e = 0 then (match f (br z) with | .ok x => (x, Nxt L a) | .error y => (d, badR y r)) else (d, r) := by
  cases r with
  | ok l =>
    obtain ⟨h1, _, h3⟩ := h
    rw [if_pos h3, ← h1, drop_of hz]
    show (match f (br z) with | .ok x => (x, Except.ok (L.drop (a + 1))) | .error y => (d, Except.error (z :: L.drop (a + 1), y))) = _
    cases f (br z) <;> rfl
  | error x =>
    obtain ⟨h1, h2, _⟩ := h
    rw [if_neg (by rw [h1]; exact h2)]; rfl
theorem bad_still {L : List Tk} {r : R} {a : Nat} {p e x : Int} (h : Fit L r a p e) (he : e ≠ 0) : badR x r = r := by
  cases r with
  | ok l => exact (he h.2.2).elim
  | error y => rfl
theorem want_yes {s : S} {L : List Tk} {r : R} {a : Nat} {p e : Int} {z : Tk} (h : Fit L r a p e) (hz : L[a]? = some z) (hs : isO s (hdR r) = true) : (want s r).2 = Nxt L a ∧ e = 0 ∧ z.kind ≠ 3 := by
  rw [is_of h hz, Bool.and_eq_true, decide_eq_true_eq] at hs
  have h3 : z.kind ≠ 3 := by
    have := hs.2
    simp only [isB, br, Bool.and_eq_true, bne_iff_ne] at this
    exact this.1.1
  refine ⟨?_, hs.1, h3⟩
  unfold want
  rw [tok_at h hz, if_pos hs.1, if_pos hs.2]
theorem want_no {s : S} {L : List Tk} {r : R} {a : Nat} {p e : Int} {z : Tk} (h : Fit L r a p e) (hz : L[a]? = some z) (hs : isO s (hdR r) = false) : (want s r).2 = badR 12 r := by
  rw [is_of h hz] at hs
  unfold want
  rw [tok_at h hz]
  by_cases he : e = 0
  · have : isB s (br z) = false := by simpa [he] using hs
    rw [if_pos he, if_neg (by rw [this]; simp)]
  · rw [if_neg he, bad_still h he]
section
variable {w0 w : World} {os : List Ob} {i b a : Nat} {v : Value} {p e : Int} {L : List Tk} {r : R}
theorem name_yes {z : Tk} (h : Fit L r a p e) (hz : L[a]? = some z) (he : e = 0) (hk : z.kind = 0) : name r = (z.text, Nxt L a) := by
  unfold name
  rw [tok_at h hz, if_pos he, show (br z).1 = 0 from hk, if_pos rfl]; rfl
theorem name_no {z : Tk} (h : Fit L r a p e) (hz : L[a]? = some z) (hn : ¬ (e = 0 ∧ z.kind = 0)) : name r = ([], badR 12 r) := by
  unfold name
  rw [tok_at h hz]
  by_cases he : e = 0
  · rw [if_pos he, if_neg (show ¬ (br z).1 = 0 from fun q => hn ⟨he, q⟩)]
  · rw [if_neg he, bad_still h he]
theorem number_yes {k : Int} {z : Tk} (h : Fit L r a p e) (hz : L[a]? = some z) (he : e = 0) (hk : z.kind = 1) (hn : k ≤ z.n ∧ z.n ≤ 1073741824) : number k r = (z.n, Nxt L a) := by
  unfold number
  rw [tok_at h hz, if_pos he, if_pos (show (br z).1 = 1 from hk), if_pos (show k ≤ (br z).2.2 ∧ (br z).2.2 ≤ 1073741824 from hn)]; rfl
theorem number_far {k : Int} {z : Tk} (h : Fit L r a p e) (hz : L[a]? = some z) (he : e = 0) (hk : z.kind = 1) (hn : ¬ (k ≤ z.n ∧ z.n ≤ 1073741824)) : number k r = (0, badR 3 r) := by
  unfold number
  rw [tok_at h hz, if_pos he, if_pos (show (br z).1 = 1 from hk), if_neg (show ¬ (k ≤ (br z).2.2 ∧ (br z).2.2 ≤ 1073741824) from hn)]
theorem number_no {k : Int} {z : Tk} (h : Fit L r a p e) (hz : L[a]? = some z) (hn : ¬ (e = 0 ∧ z.kind = 1)) : number k r = (0, badR 12 r) := by
  unfold number
  rw [tok_at h hz]
  by_cases he : e = 0
  · rw [if_pos he, if_neg (show ¬ (br z).1 = 1 from fun q => hn ⟨he, q⟩)]
  · rw [if_neg he, bad_still h he]
end
end Go.Proofs.YtlefgffnjcmfoaaDoor
namespace Go.Proofs.YtlefgffnjcmfoaaDoor
open Go.RowKit Go.Maps Go.ChangeMaps Go.MapKept
open Lx Sy
attribute [local go_sem ↓] Go.wp_at_zero Go.wp_at_succ
section
variable {w0 w : World} {os : List Ob} {i b a : Nat} {v : Value} {p e : Int} {L : List Tk} {r : R}
theorem one_yes {ws : List S} {k : Nat} {s : S} {z : Tk} (h : Fit L r a p e) (hz : L[a]? = some z) (hk : ws[k]? = some s) (hb : ∀ t ∈ ws.take k, isO t (hdR r) = false) (hs : isO s (hdR r) = true) :
    one ws r = ((k : Int), Nxt L a) ∧ e = 0 ∧ z.kind ≠ 3 := by
  obtain ⟨_, q2, q3⟩ := want_yes h hz hs
  refine ⟨?_, q2, q3⟩
  obtain ⟨hl, hx⟩ := List.getElem?_eq_some_iff.1 hk
  rw [is_of h hz, Bool.and_eq_true] at hs
  have hf : find ws (br z) = some k := by
    refine List.findIdx?_eq_some_iff_getElem.2 ⟨hl, by rw [hx]; exact hs.2, fun j hj => ?_⟩
    have h1 := hb ws[j] (by
      have : (ws.take k)[j]? = some ws[j] := by rw [List.getElem?_take_of_lt hj, List.getElem?_eq_getElem]
      exact List.mem_of_getElem? this)
    rw [is_of h hz] at h1
    have : isB ws[j] (br z) = false := by simpa [q2] using h1
    rw [this]; simp
  unfold one
  rw [tok_at h hz, if_pos q2, hf]
theorem one_no {ws : List S} {z : Tk} (h : Fit L r a p e) (hz : L[a]? = some z) (hb : ∀ t ∈ ws, isO t (hdR r) = false) : one ws r = (0, badR 12 r) := by
  unfold one
  rw [tok_at h hz]
  by_cases he : e = 0
  · have hf : find ws (br z) = none := by
      refine List.findIdx?_eq_none_iff.2 fun t ht => ?_
      have h1 := hb t ht
      rw [is_of h hz] at h1
      simpa [he] using h1
    rw [if_pos he, hf]
  · rw [if_neg he, bad_still h he]
theorem take_no {ws : List S} {k : Nat} {s : S} {q : S → Bool} (hk : ws[k]? = some s) (hb : ∀ t ∈ ws.take k, q t = false) (hs : q s = false) : ∀ t ∈ ws.take (k + 1), q t = false := by
  intro t ht
  rw [List.take_add_one, hk] at ht
  rcases List.mem_append.1 ht with h | h
  · exact hb t h
  · simp at h; subst h; exact hs
/-! ### From what the one before leaves -/
/-- A literal list of words. -/
def wordsO (ws : List S) : Obj := .cells (txVs ws).toArray 9 (0, 0)
theorem tx_of {ub : Nat} {ws : List S} (h : w.heap[ub]? = some (wordsO ws)) : TxAt w (.slice (some ⟨ub, 0, none⟩) ws.length ws.length) ws := by
  refine ⟨_, _, rfl, ⟨Nat.le_refl _, fun e => by cases e⟩, fun k z hk => ⟨ub, 0, rfl, ?_⟩⟩
  rw [Lib.cell_of_heap h]
  simp [txVs, hk]
variable (hil : i < os.length) (hv : TkAt w0 v L) (hL : L.length ≤ 3000) (hE : Ends L)
include hil
theorem Left.at_ {x : Ob} : (os.set i x)[i]? = some x := List.getElem?_set_self hil
include hv hL
end
end Go.Proofs.YtlefgffnjcmfoaaDoor
namespace Go.Proofs.YtlefgffnjcmfoaaDoor
open Go.RowKit Go.Maps Go.ChangeMaps Go.MapKept
open Lx Sy
attribute [local go_sem ↓] Go.wp_at_zero Go.wp_at_succ
def isOk : R → Bool
  | .ok _ => true
  | .error _ => false
/-- The profile that is being read: its cells. -/
def outO (cs : Array Value) : Obj := .cells cs 24 (0, 0)
def rowT (tv : Value) (xs : List S) : Ob := .row 9 1 tv xs.length (txVs xs)
theorem word_at {L : List Tk} {r : R} {a : Nat} {p e : Int} {z : Tk} (h : Fit L r a p e) (hz : L[a]? = some z) : wordO (hdR r) = (decide (e = 0) && z.kind == 0) := by
  cases r with
  | ok l =>
    obtain ⟨h1, _, h3⟩ := h
    subst h3
    rw [← h1, drop_of hz]; simp [hdR, hd, wordO, br]
  | error x =>
    obtain ⟨h1, h2, _⟩ := h
    subst h1
    simp [hdR, wordO, h2]
theorem types_stop {n : Nat} {r : R} (h : wordO (hdR r) = false) : types n r = ([], r) := by
  cases n with
  | zero => show (if wordO (hdR r) = true then _ else _) = _; rw [h]; rfl
  | succ n => show (if wordO (hdR r) = true then _ else _) = _; rw [h]; rfl
theorem types_full {r : R} (h : wordO (hdR r) = true) : (types 0 r).2 = badR 6 r := by
  show (if wordO (hdR r) = true then failR [] 6 r else retR [] r).2 = _
  rw [h]
  cases r <;> rfl
theorem types_more {n : Nat} {r : R} (h : wordO (hdR r) = true) : types (n + 1) r = ((name r).1 :: (types n (name r).2).1, (types n (name r).2).2) := by
  show (if wordO (hdR r) = true then _ else _) = _
  rw [h]; rfl
theorem ok_want {s : S} {r : R} (h : isOk (want s r).2 = true) : isOk r = true := by
  cases r with
  | ok l => rfl
  | error x => cases h
theorem want_bad {s : S} {x : List Tk × Int} : (want s (.error x)).2 = .error x := rfl
/-- What is read of the names of types: xs so far, and what is left. -/
def Tys (T : List S × R) (x : S) (xs : List S) (r : R) : Prop := 1 ≤ xs.length ∧ xs.length ≤ 20 ∧ (types (20 - xs.length) r).2 = T.2 ∧ (isOk T.2 = true → xs ++ (types (20 - xs.length) r).1 = x :: T.1)
theorem Tys.start (x : S) (r : R) : Tys (types 19 r) x [x] r := ⟨by simp, by simp, rfl, fun _ => rfl⟩
theorem Tys.more {T : List S × R} {x : S} {xs : List S} {r : R} (h : Tys T x xs r) (hw : wordO (hdR r) = true) (hl : xs.length < 20) : Tys T x (xs ++ [(name r).1]) (name r).2 := by
  obtain ⟨h1, h2, h3, h4⟩ := h
  obtain ⟨n, hn⟩ : ∃ n, 20 - xs.length = n + 1 := ⟨19 - xs.length, by omega⟩
  rw [hn, types_more hw] at h3 h4
  have e : 20 - (xs ++ [(name r).1]).length = n := by simp; omega
  refine ⟨by simp, by simp; omega, by rw [e]; exact h3, fun q => ?_⟩
  rw [e, List.append_assoc]
  exact h4 q
theorem Tys.full {T : List S × R} {x : S} {xs : List S} {r : R} (h : Tys T x xs r) (hw : wordO (hdR r) = true) (hl : ¬ xs.length < 20) : badR 6 r = T.2 := by
  obtain ⟨h1, h2, h3, h4⟩ := h
  rw [show 20 - xs.length = 0 by omega, types_full hw] at h3
  exact h3
theorem Tys.stop {T : List S × R} {x : S} {xs : List S} {r : R} (h : Tys T x xs r) (hw : wordO (hdR r) = false) : r = T.2 ∧ (isOk r = true → xs = x :: T.1) := by
  obtain ⟨h1, h2, h3, h4⟩ := h
  rw [types_stop hw] at h3 h4
  have h5 : r = T.2 := h3
  refine ⟨h5, fun q => ?_⟩
  have := h4 (by rw [← h5]; exact q)
  simpa using this
/-- The part about files, if it is there. -/
theorem sFiles_no {r : R} (h : isO [102, 105, 108, 101, 115] (hdR r) = false) : sFiles r = ((0, 0, []), r) := by
  show (if isO [102, 105, 108, 101, 115] (hdR r) = true then _ else _) = _
  rw [h]; rfl
theorem sFiles_yes {r : R} (h : isO [102, 105, 108, 101, 115] (hdR r) = true) : sFiles r =
    (((number 1 (want [102, 105, 108, 101, 115] r).2).1, (number 0 (want [98, 121, 116, 101, 115] (number 1 (want [102, 105, 108, 101, 115] r).2).2).2).1, (name (want [116, 121, 112, 101, 115] (number 0 (want [98, 121, 116, 101, 115] (number 1 (want [102, 105, 108, 101, 115] r).2).2).2).2).2).1 :: (types 19 (name (want [116, 121, 112, 101, 115] (number 0 (want [98, 121, 116, 101, 115] (number 1 (want [102, 105, 108, 101, 115] r).2).2).2).2).2).2).1),
     (want [59] (types 19 (name (want [116, 121, 112, 101, 115] (number 0 (want [98, 121, 116, 101, 115] (number 1 (want [102, 105, 108, 101, 115] r).2).2).2).2).2).2).2).2) := by
  show (if isO [102, 105, 108, 101, 115] (hdR r) = true then _ else _) = _
  rw [h]; rfl
section
variable {w0 w : World} {X : Ob} {b ob : Nat} {v : Value} {L : List Tk} {r : R} {cs : Array Value} {Y : Ob}
theorem grown_alloc (w : World) (o : Obj) (row : Option Nat) : w.grownBy (w.alloc o) row := by
  have hb := (Below.refl w.heap.size w).alloc (Nat.le_refl _) o
  exact ⟨hb.os, hb.tape, hb.output, hb.size, fun x hx _ => hb.block x hx⟩
theorem want_badR (s : S) (x : Int) (r : R) : (want s (badR x r)).2 = badR x r := by cases r <;> rfl
theorem ok_badR (x : Int) (r : R) : isOk (badR x r) = false := by cases r <;> rfl
def lenAt (ob : Nat) (w : World) : Nat := match w.cell? ⟨ob, 12, none⟩ with | some (.slice _ n _) => 20 - n | _ => 0
end
end Go.Proofs.YtlefgffnjcmfoaaDoor
namespace Go.Proofs.YtlefgffnjcmfoaaDoor
open Go.RowKit Go.Maps Go.ChangeMaps Go.MapKept
open Lx Sy
attribute [local go_sem ↓] Go.wp_at_zero Go.wp_at_succ
section
variable {w : World}
/-- So far: n is left, and s are the digits behind it. -/
def Dg (D : S) (n0 n : Nat) (s : S) : Prop := (s = [] ∧ n = n0) ∨ (s ≠ [] ∧ (0 < n → Lib.decDigits n ++ s = D) ∧ (n = 0 → s = D))
theorem Dg.next {n0 n : Nat} {s : S} (h : Dg (Lib.decDigits n0) n0 n s) (hs : 0 < n ∨ s = []) : Dg (Lib.decDigits n0) n0 (n / 10) (UInt8.ofNat (48 + n % 10) :: s) := by
  refine .inr ⟨by simp, fun h1 => ?_, fun h1 => ?_⟩
  · have hb := dec_big (show ¬ n < 10 by omega)
    rcases h with ⟨rfl, rfl⟩ | ⟨_, h2, _⟩
    · exact hb.symm
    · rw [← h2 (by omega), hb]; simp
  · have hb := dec_small (show n < 10 by omega)
    have e : n % 10 = n := by omega
    rcases h with ⟨rfl, rfl⟩ | ⟨h0, h2, h3⟩
    · rw [hb, e]
    · have hn : 0 < n := hs.resolve_right h0
      rw [← h2 hn, hb, e]; rfl
theorem Dg.done {n0 n : Nat} {s : S} (h : Dg (Lib.decDigits n0) n0 n s) (hs : ¬ (0 < n ∨ s = [])) : s = Lib.decDigits n0 := by
  rcases h with ⟨rfl, _⟩ | ⟨_, _, h3⟩
  · exact (hs (.inr rfl)).elim
  · exact h3 (by omega)
theorem dec_cut : ∀ k : Nat, k < 10 → (⟨#[48, 49, 50, 51, 52, 53, 54, 55, 56, 57]⟩ : ByteArray).extract k (k + 1) = bs [UInt8.ofNat (48 + k)] := by
  intro k hk
  rw [show (⟨#[48, 49, 50, 51, 52, 53, 54, 55, 56, 57]⟩ : ByteArray) = bs [48, 49, 50, 51, 52, 53, 54, 55, 56, 57] from rfl, bs_extract]
  have : ∀ k, k < 10 → ((List.drop k [48, 49, 50, 51, 52, 53, 54, 55, 56, 57]).take (k + 1 - k) : List UInt8) = [UInt8.ofNat (48 + k)] := by decide
  rw [this k hk]
def sizeZ : Value → Nat
  | .string b => if b.size = 0 then 1 else 0
  | _ => 0
end
end Go.Proofs.YtlefgffnjcmfoaaDoor
namespace Go.Proofs.YtlefgffnjcmfoaaDoor
open Go.RowKit Go.Maps Go.ChangeMaps Go.MapKept
open Lx Sy
attribute [local go_sem ↓] Go.wp_at_zero Go.wp_at_succ
/-- A profile as a value, the names of its types at tv. -/
def pfV (p : Pf) (tv : Value) : Value := .agg #[.string (bs p.name), .int .i64 p.edit, .int .i64 p.within, .int .i64 p.delete, .bool p.react, .int .i64 p.thread, .bool p.quote, .bool p.mention, .int .i64 p.size, .int .i64 p.parts, .int .i64 p.files, .int .i64 p.bytes, tv, .int .i64 p.join, .int .i64 p.history, .int .i64 p.remove, .int .i64 p.level, .bool p.batch, .int .i64 p.rate, .int .i64 p.down, .int .i64 p.window, .int .i64 p.keep]
def PfAt (w : World) (x : Value) (p : Pf) : Prop := ∃ tv, x = pfV p tv ∧ TxAt w tv p.types
theorem PfAt.keep {w w' : World} {x : Value} {p : Pf} (h : PfAt w x p) (hb : Below w.heap.size w w') : PfAt w' x p := by
  obtain ⟨tv, h1, h2⟩ := h
  exact ⟨tv, h1, h2.keep hb⟩
def fewP (p : Pf) : Bool := decide (p.types.length ≤ 24 ∧ p.name.length ≤ 40 ∧ ∀ x ∈ p.types, x.length ≤ 40)
set_option maxHeartbeats 4000000 in
set_option maxRecDepth 100000 in
theorem y_few {w : World} {x : Value} {p : Pf} (h : PfAt w x p) : Calls Tryd.prog 8 #[x] w fun e w' => e = .returned (.bool (fewP p)) ∧ Below w.heap.size w w' := by
  obtain ⟨tv, rfl, ht⟩ := h
  obtain ⟨ta, tc, rfl⟩ := ht.slice
  unfold pfV
  have hb0 : Below w.heap.size w (w.alloc (.cells #[.string (bs p.name), .int .i64 p.edit, .int .i64 p.within, .int .i64 p.delete, .bool p.react, .int .i64 p.thread, .bool p.quote, .bool p.mention, .int .i64 p.size, .int .i64 p.parts, .int .i64 p.files, .int .i64 p.bytes, .slice ta p.types.length tc, .int .i64 p.join, .int .i64 p.history, .int .i64 p.remove, .int .i64 p.level, .bool p.batch, .int .i64 p.rate, .int .i64 p.down, .int .i64 p.window, .int .i64 p.keep] 24)) := (Below.refl _ _).alloc (Nat.le_refl _) _
  have HB0 := Lib.hid hb0
  have HT := Lib.hid (ht.keep hb0)
  have hh := (MapKept.heap_alloc w (.cells #[.string (bs p.name), .int .i64 p.edit, .int .i64 p.within, .int .i64 p.delete, .bool p.react, .int .i64 p.thread, .bool p.quote, .bool p.mention, .int .i64 p.size, .int .i64 p.parts, .int .i64 p.files, .int .i64 p.bytes, .slice ta p.types.length tc, .int .i64 p.join, .int .i64 p.history, .int .i64 p.remove, .int .i64 p.level, .bool p.batch, .int .i64 p.rate, .int .i64 p.down, .int .i64 p.window, .int .i64 p.keep] 24)).1
  have g0 : (w.alloc (.cells #[.string (bs p.name), .int .i64 p.edit, .int .i64 p.within, .int .i64 p.delete, .bool p.react, .int .i64 p.thread, .bool p.quote, .bool p.mention, .int .i64 p.size, .int .i64 p.parts, .int .i64 p.files, .int .i64 p.bytes, .slice ta p.types.length tc, .int .i64 p.join, .int .i64 p.history, .int .i64 p.remove, .int .i64 p.level, .bool p.batch, .int .i64 p.rate, .int .i64 p.down, .int .i64 p.window, .int .i64 p.keep] 24)).cell? ⟨w.heap.size, 0, none⟩ = some (.string (bs p.name)) := by rw [Lib.cell_of_heap hh]; rfl
  have g12 : (w.alloc (.cells #[.string (bs p.name), .int .i64 p.edit, .int .i64 p.within, .int .i64 p.delete, .bool p.react, .int .i64 p.thread, .bool p.quote, .bool p.mention, .int .i64 p.size, .int .i64 p.parts, .int .i64 p.files, .int .i64 p.bytes, .slice ta p.types.length tc, .int .i64 p.join, .int .i64 p.history, .int .i64 p.remove, .int .i64 p.level, .bool p.batch, .int .i64 p.rate, .int .i64 p.down, .int .i64 p.window, .int .i64 p.keep] 24)).cell? ⟨w.heap.size, 12, none⟩ = some (.slice ta p.types.length tc) := by rw [Lib.cell_of_heap hh]; rfl
  have zn := bs_size p.name
  clear ht hb0 hh
  go_enter Tryd.func8, Tryd.ntmps8
  go_wp2
  generalize w.alloc (.cells #[.string (bs p.name), .int .i64 p.edit, .int .i64 p.within, .int .i64 p.delete, .bool p.react, .int .i64 p.thread, .bool p.quote, .bool p.mention, .int .i64 p.size, .int .i64 p.parts, .int .i64 p.files, .int .i64 p.bytes, .slice ta p.types.length tc, .int .i64 p.join, .int .i64 p.history, .int .i64 p.remove, .int .i64 p.level, .bool p.batch, .int .i64 p.rate, .int .i64 p.down, .int .i64 p.window, .int .i64 p.keep] 24) = w1 at *
  go_loopw [3] (fun i wr => ∃ k : Nat, k ≤ p.types.length ∧ i = .int .i64 k ∧ k ≤ 25 ∧ Hid (∀ x ∈ p.types.take k, x.length ≤ 40) ∧ w1 = wr) (fun i _ => 26 - (intOf i).toNat)
  case atStart => exact ⟨0, Nat.zero_le _, rfl, by omega, Lib.hid (by simp), by trivial⟩
  case round =>
    obtain ⟨k, hk, rfl, hk25, HX, rfl⟩ := hrel
    by_cases hlt : k < p.types.length
    · have hlt' : (k : Int) < (p.types.length : Int) := by omega
      by_cases h24 : k ≤ 24
      · have h24' : (k : Int) ≤ 24 := by omega
        obtain ⟨s, hs⟩ : ∃ s, p.types[k]? = some s := ⟨_, List.getElem?_eq_getElem hlt⟩
        obtain ⟨g, off, cap, h1, _, hc⟩ := HT.out.form (by omega)
        cases h1
        have c0 := hc k s hs
        have zs := bs_size s
        have HS := Lib.hid hs
        clear hc hs
        by_cases h40 : 40 < s.length
        · have h40' : (40 : Int) < (s.length : Int) := by omega
          have HR := Lib.hid (show fewP p = false from decide_eq_false fun q => by have := q.2.2 s (List.mem_of_getElem? HS.out); omega)
          go_wp2
          go_ret
          exact ⟨ret_bool HR.out.symm, HB0.out⟩
        · have h40' : ¬ (40 : Int) < (s.length : Int) := by omega
          have HX2 := Lib.hid (show ∀ x ∈ p.types.take (k + 1), x.length ≤ 40 by
            intro x hx
            rw [List.take_add_one, HS.out] at hx
            rcases List.mem_append.1 hx with q | q
            · exact HX.out x q
            · simp at q; subst q; omega)
          go_wp2
          go_roundw
          case rel => exact ⟨k + 1, by omega, by go_num, by omega, HX2, by trivial⟩
          case measure => simp [intOf]; omega
      · have h24' : ¬ (k : Int) ≤ 24 := by omega
        have hl : ¬ (p.types.length : Int) ≤ 24 := by omega
        have HR := Lib.hid (show fewP p = false from decide_eq_false fun q => by have := q.1; omega)
        go_wp2
        go_ret
        exact ⟨ret_bool HR.out.symm, HB0.out⟩
    · obtain rfl : k = p.types.length := by omega
      have HX := Lib.hid (show ∀ x ∈ p.types, x.length ≤ 40 by have := HX.out; rwa [List.take_length] at this)
      by_cases hl : p.types.length ≤ 24
      · have hl' : (p.types.length : Int) ≤ 24 := by omega
        by_cases hn : p.name.length ≤ 40
        · have hn' : (p.name.length : Int) ≤ 40 := by omega
          have HR := Lib.hid (show fewP p = true from decide_eq_true ⟨hl, hn, HX.out⟩)
          go_wp2
          go_ret
          exact ⟨ret_bool HR.out.symm, HB0.out⟩
        · have hn' : ¬ (p.name.length : Int) ≤ 40 := by omega
          have HR := Lib.hid (show fewP p = false from decide_eq_false fun q => hn q.2.1)
          have hnd : decide (p.name.length ≤ 40) = false := decide_eq_false hn
          go_wp2
          go_ret
          exact ⟨ret_bool HR.out.symm, HB0.out⟩
      · have hl' : ¬ (p.types.length : Int) ≤ 24 := by omega
        have hld : decide (p.types.length ≤ 24) = false := decide_eq_false hl
        have HR := Lib.hid (show fewP p = false from decide_eq_false fun q => hl q.1)
        go_wp2
        go_ret
        exact ⟨ret_bool HR.out.symm, HB0.out⟩
end Go.Proofs.YtlefgffnjcmfoaaDoor
