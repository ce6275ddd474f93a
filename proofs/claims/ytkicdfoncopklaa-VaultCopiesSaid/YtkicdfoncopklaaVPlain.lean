/- Plain facts about vaults: what does not depend on the texts; what is lost. -/
import Derived.Test.YtkicdfoncopklaaVSpec
namespace Go.Proofs.Ytkicdfoncopklaa
namespace Vp
/-- Two vaults that differ in texts alone. -/
structure Same (X Y : Vt) : Prop where
  good : Y.good = X.good
  keys : Y.boxes.map (·.1) = X.boxes.map (·.1)
theorem Same.refl (X : Vt) : Same X X := ⟨rfl, rfl⟩
theorem Same.len {X Y : Vt} (h : Same X Y) : Y.boxes.length = X.boxes.length := by have := congrArg List.length h.keys; simpa using this
theorem Same.st {X Y : Vt} (h : Same X Y) (k : Int) : st Y k = st X k := by unfold Vp.st; rw [h.good]
theorem same_lock {X Y : Vt} (h : Same X Y) (k : Int) (s t : ByteArray) : (lock Y k t).1 = (lock X k s).1 ∧ Same (lock X k s).2 (lock Y k t).2 := by
  unfold lock
  rw [h.st]
  split
  · exact ⟨rfl, h⟩
  · split
    · exact ⟨rfl, h⟩
    · exact ⟨by rw [h.len], ⟨h.good, by simp [h.keys]⟩⟩
theorem same_opens {X Y : Vt} (h : Same X Y) (k b : Int) : (opens Y k b).2 = (opens X k b).2 := by
  unfold opens
  split
  · rfl
  · have hk : (Y.boxes.map (·.1))[b.toNat]? = (X.boxes.map (·.1))[b.toNat]? := by rw [h.keys]
    rw [List.getElem?_map, List.getElem?_map] at hk
    cases hx : X.boxes[b.toNat]? with
    | none =>
      rw [hx] at hk
      cases hy : Y.boxes[b.toNat]? with
      | none => rfl
      | some y => rw [hy] at hk; cases hk
    | some x =>
      rw [hx] at hk
      cases hy : Y.boxes[b.toNat]? with
      | none => rw [hy] at hk; cases hk
      | some y =>
        rw [hy] at hk
        simp only [Option.map_some, Option.some.injEq] at hk
        obtain ⟨x1, x2⟩ := x
        obtain ⟨y1, y2⟩ := y
        simp only at hk
        subst hk
        simp only [h.st]
        split <;> rfl
theorem same_destroy {X Y : Vt} (h : Same X Y) (k : Int) : (destroy Y k).1 = (destroy X k).1 ∧ Same (destroy X k).2 (destroy Y k).2 := by
  unfold destroy
  rw [h.st]
  split
  · exact ⟨rfl, h⟩
  · split
    · exact ⟨rfl, h⟩
    · exact ⟨rfl, ⟨by rw [h.good], h.keys⟩⟩
theorem same_act {X Y : Vt} (h : Same X Y) (d k b : Int) (s t : ByteArray) : (act Y ⟨d, k, b, t⟩).1.n = (act X ⟨d, k, b, s⟩).1.n ∧ (act Y ⟨d, k, b, t⟩).1.err = (act X ⟨d, k, b, s⟩).1.err ∧ Same (act X ⟨d, k, b, s⟩).2 (act Y ⟨d, k, b, t⟩).2 := by
  unfold act
  split
  · exact ⟨by rw [h.good], rfl, ⟨by simp [key, h.good], h.keys⟩⟩
  · split
    · have := same_lock h k s t
      exact ⟨by rw [this.1], by rw [this.1], this.2⟩
    · split
      · exact ⟨rfl, same_opens h k b, h⟩
      · split
        · have := same_destroy h k
          exact ⟨rfl, this.1, this.2⟩
        · exact ⟨rfl, rfl, h⟩
/-- What calls return, one after the other. -/
def outs (V : Vt) : List VOp → List VDone
  | [] => []
  | o :: l => (act V o).1 :: outs (act V o).2 l
theorem outs_length (V : Vt) (l : List VOp) : (outs V l).length = l.length := by
  induction l generalizing V with
  | nil => rfl
  | cons a l ih => simp [outs, ih]
theorem outs_snoc (V : Vt) (l : List VOp) (o : VOp) : outs V (l ++ [o]) = outs V l ++ [(act (acts V l) o).1] := by
  induction l generalizing V with
  | nil => rfl
  | cons a l ih => simp only [List.cons_append, outs, ih, acts]
theorem outs_take (V : Vt) (l : List VOp) (k : Nat) (h : k < l.length) : outs V (l.take (k + 1)) = outs V (l.take k) ++ [(act (acts V (l.take k)) l[k]).1] := by
  rw [List.take_succ_eq_append_getElem h, outs_snoc]
theorem outs_at (V : Vt) (l : List VOp) (k : Nat) (h : k < l.length) : (outs V l)[k]? = some (act (acts V (l.take k)) l[k]).1 := by
  induction l generalizing V k with
  | nil => exact absurd h (Nat.not_lt_zero _)
  | cons a l ih =>
    cases k with
    | zero => rfl
    | succ k => simpa [outs, acts] using ih (act V a).2 k (by simpa using h)
end Vp
end Go.Proofs.Ytkicdfoncopklaa
