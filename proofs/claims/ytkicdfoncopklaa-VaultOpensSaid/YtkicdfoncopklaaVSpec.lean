/- A vault as plain functions: what each call returns, and what it leaves. No Go. -/
import Derived.Test.YtkicdfoncopklaaGen
namespace Go.Proofs.Ytkicdfoncopklaa
namespace Vp
def xE : ByteArray := ⟨#[]⟩
/-- A vault: which keys are good; each box's key and text. -/
structure Vt where
  good : List Bool
  boxes : List (Nat × ByteArray)
def empty : Vt := ⟨[], []⟩
/-- 0: no such key, 1: good, 2: destroyed. -/
def st (V : Vt) (k : Int) : Int := if k < 0 then 0 else match V.good[k.toNat]? with
  | none => 0
  | some true => 1
  | some false => 2
def key (V : Vt) : Vt := { V with good := V.good ++ [true] }
def lock (V : Vt) (k : Int) (s : ByteArray) : (Int × Int) × Vt :=
  if st V k = 0 then ((0, 4), V) else if st V k = 2 then ((0, 13), V) else ((V.boxes.length, 0), { V with boxes := V.boxes ++ [(k.toNat, s)] })
def opens (V : Vt) (k b : Int) : ByteArray × Int :=
  if b < 0 then (xE, 4) else match V.boxes[b.toNat]? with
  | none => (xE, 4)
  | some (q, s) => if (q : Int) = k ∧ st V k = 1 then (s, 0) else (xE, 13)
def destroy (V : Vt) (k : Int) : Int × Vt :=
  if st V k = 0 then (4, V) else if st V k = 2 then (5, V) else (0, { V with good := V.good.set k.toNat false })
structure VOp where
  do_ : Int
  key : Int
  box : Int
  text : ByteArray
structure VOp.Ok (o : VOp) : Prop where
  do_ : I64 o.do_
  key : I64 o.key
  box : I64 o.box
structure VDone where
  n : Int
  text : ByteArray
  err : Int
def act (V : Vt) (o : VOp) : VDone × Vt :=
  if o.do_ = 0 then (⟨V.good.length, xE, 0⟩, key V)
  else if o.do_ = 1 then (⟨(lock V o.key o.text).1.1, xE, (lock V o.key o.text).1.2⟩, (lock V o.key o.text).2)
  else if o.do_ = 2 then (⟨0, (opens V o.key o.box).1, (opens V o.key o.box).2⟩, V)
  else if o.do_ = 3 then (⟨0, xE, (destroy V o.key).1⟩, (destroy V o.key).2)
  else (⟨0, xE, 0⟩, V)
/-- Calls one after the other. -/
def acts (V : Vt) : List VOp → Vt
  | [] => V
  | o :: l => acts (act V o).2 l
theorem acts_snoc (V : Vt) (l : List VOp) (o : VOp) : acts V (l ++ [o]) = (act (acts V l) o).2 := by
  induction l generalizing V with
  | nil => rfl
  | cons a l ih => exact ih _
theorem acts_take (V : Vt) (l : List VOp) (k : Nat) (h : k < l.length) : acts V (l.take (k + 1)) = (act (acts V (l.take k)) l[k]).2 := by
  rw [List.take_succ_eq_append_getElem h, acts_snoc]

/-! ### Bounds -/
/-- At most n keys and boxes, no text too long for a machine. -/
structure Fine (V : Vt) (n : Nat) : Prop where
  good : V.good.length ≤ n
  boxes : V.boxes.length ≤ n
  text : ∀ x ∈ V.boxes, x.2.size ≤ 281474976710656
  of : ∀ x ∈ V.boxes, x.1 < V.good.length
theorem fine_empty (n : Nat) : Fine empty n := ⟨Nat.zero_le _, Nat.zero_le _, fun x h => (by cases h), fun x h => (by cases h)⟩
theorem Fine.mono {V : Vt} {n m : Nat} (h : Fine V n) (hm : n ≤ m) : Fine V m := ⟨Nat.le_trans h.good hm, Nat.le_trans h.boxes hm, h.text, h.of⟩
theorem st_lt {V : Vt} {k : Int} (h : st V k ≠ 0) : 0 ≤ k ∧ k.toNat < V.good.length := by
  unfold st at h
  split at h
  · exact absurd rfl h
  · refine ⟨by omega, ?_⟩
    split at h
    · exact absurd rfl h
    · rename_i q; exact (List.getElem?_eq_some_iff.1 q).1
    · rename_i q; exact (List.getElem?_eq_some_iff.1 q).1
theorem st_cases (V : Vt) (k : Int) : st V k = 0 ∨ st V k = 1 ∨ st V k = 2 := by
  unfold st
  split
  · exact .inl rfl
  · split
    · exact .inl rfl
    · exact .inr (.inl rfl)
    · exact .inr (.inr rfl)
theorem st_some {V : Vt} {k : Nat} (hk : k < V.good.length) : st V k = if V.good[k] then 1 else 2 := by
  unfold st
  rw [if_neg (by omega), Int.toNat_natCast, List.getElem?_eq_getElem hk]
  cases V.good[k] <;> rfl
theorem st_none {V : Vt} {k : Int} (h : k < 0 ∨ (V.good.length : Int) ≤ k) : st V k = 0 := by
  unfold st
  split
  · rfl
  · rw [List.getElem?_eq_none (by omega)]
theorem fine_key {V : Vt} {n : Nat} (h : Fine V n) : Fine (key V) (n + 1) := by
  refine ⟨by have := h.good; simp [key]; omega, by have := h.boxes; simp [key]; omega, h.text, fun x hx => ?_⟩
  have := h.of x hx
  simp [key]; omega
theorem fine_lock {V : Vt} {n : Nat} {k : Int} {s : ByteArray} (h : Fine V n) (hs : s.size ≤ 281474976710656) : Fine (lock V k s).2 (n + 1) := by
  unfold lock
  split
  · exact h.mono (by omega)
  · rename_i h0
    split
    · exact h.mono (by omega)
    · refine ⟨by have := h.good; simp; omega, by have := h.boxes; simp; omega, fun x hx => ?_, fun x hx => ?_⟩
      · rcases List.mem_append.1 hx with q | q
        · exact h.text x q
        · simp at q; subst q; exact hs
      · rcases List.mem_append.1 hx with q | q
        · exact h.of x q
        · simp at q; subst q; exact (st_lt h0).2
theorem fine_destroy {V : Vt} {n : Nat} {k : Int} (h : Fine V n) : Fine (destroy V k).2 n := by
  unfold destroy
  split
  · exact h
  · split
    · exact h
    · exact ⟨by have := h.good; simpa using this, h.boxes, h.text, fun x hx => by have := h.of x hx; simpa using this⟩
theorem fine_act {V : Vt} {n : Nat} {o : VOp} (h : Fine V n) (hs : o.text.size ≤ 281474976710656) : Fine (act V o).2 (n + 1) := by
  unfold act
  split
  · exact fine_key h
  · split
    · exact fine_lock h hs
    · split
      · exact h.mono (by omega)
      · split
        · exact (fine_destroy h).mono (by omega)
        · exact h.mono (by omega)
theorem fine_acts {V : Vt} {n : Nat} {l : List VOp} (h : Fine V n) (hl : ∀ o ∈ l, o.text.size ≤ 281474976710656) : Fine (acts V l) (n + l.length) := by
  induction l generalizing V n with
  | nil => exact h
  | cons a l ih =>
    have := ih (fine_act h (hl a (by simp))) (fun o ho => hl o (by simp [ho]))
    rw [List.length_cons]
    rwa [show n + (l.length + 1) = n + 1 + l.length by omega]
end Vp
end Go.Proofs.Ytkicdfoncopklaa
