/- Layer 4 as plain functions on a list of texts. No Go. -/
import Derived.Test.YtjhedlkanphlhaaGen
namespace Go.Proofs.Ytjhedlkanphlhaa
namespace Np
/-- The place of a string in a list: its length, if it isn't there. -/
def pos : List ByteArray → ByteArray → Nat
  | [], _ => 0
  | a :: l, s => if a = s then 0 else pos l s + 1
theorem pos_le (l : List ByteArray) (s : ByteArray) : pos l s ≤ l.length := by
  induction l with
  | nil => exact Nat.le_refl _
  | cons a l ih => unfold pos; split <;> simp <;> omega
theorem pos_mem {l : List ByteArray} {s : ByteArray} : s ∈ l ↔ pos l s < l.length := by
  induction l with
  | nil => simp [pos]
  | cons a l ih =>
    unfold pos
    split
    · rename_i h; simp [h]
    · rename_i h
      simp only [List.mem_cons, List.length_cons, Nat.add_lt_add_iff_right, ← ih]
      exact ⟨fun q => q.elim (fun e => absurd e.symm h) id, .inr⟩
instance (s : ByteArray) (l : List ByteArray) : Decidable (s ∈ l) := decidable_of_iff _ pos_mem.symm
theorem pos_not {l : List ByteArray} {s : ByteArray} (h : s ∉ l) : pos l s = l.length := by
  have h1 := pos_le l s
  have h2 := mt pos_mem.2 h
  omega
theorem pos_get {l : List ByteArray} {s : ByteArray} (h : s ∈ l) : l[pos l s]? = some s := by
  induction l with
  | nil => cases h
  | cons a l ih =>
    unfold pos
    split
    · rename_i e; simp [e]
    · rename_i e
      rw [List.getElem?_cons_succ]
      exact ih ((List.mem_cons.1 h).elim (fun q => absurd q.symm e) id)
theorem pos_app {l : List ByteArray} {s : ByteArray} (h : s ∈ l) (r : List ByteArray) : pos (l ++ r) s = pos l s := by
  induction l with
  | nil => cases h
  | cons a l ih =>
    simp only [List.cons_append]
    unfold pos
    split
    · rfl
    · rename_i e
      rw [ih ((List.mem_cons.1 h).elim (fun q => absurd q.symm e) id)]
theorem pos_snoc {l : List ByteArray} {s : ByteArray} (h : s ∉ l) : pos (l ++ [s]) s = l.length := by
  induction l with
  | nil => simp [pos]
  | cons a l ih =>
    simp only [List.cons_append]
    unfold pos
    rw [if_neg (fun e => h (by simp [e])), ih (fun q => h (by simp [q]))]
    rfl
theorem pos_snoc_other {l : List ByteArray} {s t : ByteArray} (h : t ∉ l) (hne : t ≠ s) : pos (l ++ [s]) t = l.length + 1 := by
  rw [pos_not (by simp [h, hne])]; simp
theorem pos_nodup {l : List ByteArray} (hd : l.Nodup) {k : Nat} (hk : k < l.length) : pos l l[k] = k := by
  have h1 := pos_get (List.getElem_mem hk)
  obtain ⟨h2, h3⟩ := List.getElem?_eq_some_iff.1 h1
  exact (List.getElem_inj hd).1 h3

/-- Of: the name, and the list behind it. -/
def of (T : List ByteArray) (s : ByteArray) : Int × List ByteArray :=
  if 65536 < s.size then (-1, T) else if s ∈ T then ((pos T s : Int), T) else ((T.length : Int), T ++ [s])
theorem of_refused {T : List ByteArray} {s : ByteArray} (h : 65536 < s.size) : of T s = (-1, T) := by unfold of; rw [if_pos h]
theorem of_known {T : List ByteArray} {s : ByteArray} (h : s.size ≤ 65536) (hm : s ∈ T) : of T s = ((pos T s : Int), T) := by unfold of; rw [if_neg (by omega), if_pos hm]
theorem of_new {T : List ByteArray} {s : ByteArray} (h : s.size ≤ 65536) (hm : s ∉ T) : of T s = ((T.length : Int), T ++ [s]) := by unfold of; rw [if_neg (by omega), if_neg hm]
theorem of_len (T : List ByteArray) (s : ByteArray) : (of T s).2.length ≤ T.length + 1 := by unfold of; (repeat' split) <;> simp
theorem of_nodup {T : List ByteArray} (h : T.Nodup) (s : ByteArray) : (of T s).2.Nodup := by
  unfold of
  (repeat' split)
  · exact h
  · exact h
  · rename_i hm
    exact List.nodup_append.2 ⟨h, by simp, fun a ha b hb e => by simp at hb; subst hb; subst e; exact hm ha⟩
/-- All of some strings are named. -/
def ofs (T : List ByteArray) : List ByteArray → List ByteArray
  | [] => T
  | s :: l => ofs (of T s).2 l
theorem ofs_snoc (T l : List ByteArray) (s : ByteArray) : ofs T (l ++ [s]) = (of (ofs T l) s).2 := by
  induction l generalizing T with
  | nil => rfl
  | cons a l ih => exact ih _
theorem ofs_len (T l : List ByteArray) : (ofs T l).length ≤ T.length + l.length := by
  induction l generalizing T with
  | nil => exact Nat.le_refl _
  | cons a l ih => have h1 := ih (of T a).2; have h2 := of_len T a; simp only [ofs, List.length_cons] at h1 ⊢; omega
theorem ofs_nodup {T : List ByteArray} (h : T.Nodup) (l : List ByteArray) : (ofs T l).Nodup := by
  induction l generalizing T with
  | nil => exact h
  | cons a l ih => exact ih (of_nodup h a)
theorem ofs_take (T l : List ByteArray) (k : Nat) (hk : k < l.length) : ofs T (l.take (k + 1)) = (of (ofs T (l.take k)) l[k]).2 := by
  rw [List.take_succ_eq_append_getElem hk, ofs_snoc]
/-- A list of texts. -/
def AllText (l : List ByteArray) : Prop := ∀ s ∈ l, s.size ≤ 65536
theorem of_text {T : List ByteArray} (h : AllText T) (s : ByteArray) : AllText (of T s).2 := by
  unfold of
  (repeat' split)
  · exact h
  · exact h
  · intro x hx
    rcases List.mem_append.1 hx with q | q
    · exact h x q
    · simp at q; subst q; omega
theorem ofs_text {T : List ByteArray} (h : AllText T) (l : List ByteArray) : AllText (ofs T l) := by
  induction l generalizing T with
  | nil => exact h
  | cons a l ih => exact ih (of_text h a)
/-- What Open returns: the error, and the list. -/
def opened (l : List ByteArray) : Int × Option (List ByteArray) :=
  if ∃ s ∈ l, 65536 < s.size then (1, none) else if l.Nodup then (0, some l) else (5, none)
theorem opened_arg {l : List ByteArray} {k : Nat} (hk : k < l.length) (h : 65536 < l[k].size) : opened l = (1, none) := by
  unfold opened; rw [if_pos ⟨_, List.getElem_mem hk, h⟩]
theorem opened_ok {l : List ByteArray} (h : AllText l) (hd : l.Nodup) : opened l = (0, some l) := by
  unfold opened; rw [if_neg (fun ⟨s, h1, h2⟩ => by have := h s h1; omega), if_pos hd]
theorem opened_twice {l : List ByteArray} (h : AllText l) (hd : ¬ l.Nodup) : opened l = (5, none) := by
  unfold opened; rw [if_neg (fun ⟨s, h1, h2⟩ => by have := h s h1; omega), if_neg hd]
theorem take_nodup {l : List ByteArray} {k : Nat} (hk : k < l.length) (h : (l.take k).Nodup) (hm : l[k] ∉ l.take k) : (l.take (k + 1)).Nodup := by
  rw [List.take_succ_eq_append_getElem hk]
  exact List.nodup_append.2 ⟨h, by simp, fun a ha b hb e => by simp at hb; subst hb; subst e; exact hm ha⟩
theorem not_nodup {l : List ByteArray} {k : Nat} (hk : k < l.length) (hm : l[k] ∈ l.take k) : ¬ l.Nodup := by
  intro hd
  have h1 := hd.sublist (List.take_sublist (k + 1) l)
  rw [List.take_succ_eq_append_getElem hk] at h1
  exact (List.nodup_append.1 h1).2.2 _ hm _ (by simp) rfl
/-- Text. -/
def text (T : List ByteArray) (k : Int) : ByteArray × Bool := if 0 ≤ k ∧ k < (T.length : Int) then (T.getD k.toNat ⟨#[]⟩, true) else (⟨#[]⟩, false)
theorem text_none {T : List ByteArray} {k : Int} (h : k < 0 ∨ (T.length : Int) ≤ k) : text T k = (⟨#[]⟩, false) := by unfold text; rw [if_neg (by omega)]
theorem text_some {T : List ByteArray} {k : Nat} (h : k < T.length) : text T (k : Int) = (T[k], true) := by
  unfold text; rw [if_pos (by omega)]; simp [List.getD_eq_getElem?_getD, h]
/-- At most n strings of at most 200 bytes. -/
def Few (l : List ByteArray) (n : Nat) : Prop := l.length ≤ n ∧ ∀ s ∈ l, s.size ≤ 200
instance (l : List ByteArray) (n : Nat) : Decidable (Few l n) := inferInstanceAs (Decidable (_ ∧ _))
def few (l : List ByteArray) (n : Nat) : Bool := decide (Few l n)
theorem Few.text {l : List ByteArray} {n : Nat} (h : Few l n) : AllText l := fun s hs => by have := h.2 s hs; omega
/-- Zero bytes. -/
def long (n : Int) : ByteArray := ⟨Array.replicate (min (max n 0) 65537).toNat 0⟩
theorem long_size (n : Int) : (long n).size = (min (max n 0) 65537).toNat := by
  show (Array.replicate _ _).size = _
  simp
end Np
end Go.Proofs.Ytjhedlkanphlhaa
