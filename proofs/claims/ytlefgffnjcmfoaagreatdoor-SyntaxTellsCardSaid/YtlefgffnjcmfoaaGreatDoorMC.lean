/- Several texts in one: Ord, Ord2, Ord3, Ord4, Ord7, Tx12, Nb12. -/
import Derived.OrdersHeld
import Derived.StillTail
import Derived.Tactics
import Derived.KernelRfl
import Derived.Test.YtlefgffnjcmfoaaGreatDoorMB
import Derived.Test.YtlefgffnjcmfoaaGreatDoorMA
namespace Go.Proofs.YtlefgffnjcmfoaaGreatDoor
open Go
section
variable {P : Program} {ops : Array Oper} {Q : Exit → Act → World → Prop} {md : Region.Mode} {S : World → Prop} {c : Nat}
/-- What is listed has what it waits for listed. -/
def Shut (md : Region.Mode) (ops : Array Oper) (t : Array Bool) : Prop := ∀ j oj, ops[j]? = some oj → t.getD j false = true → ∀ e ∈ oj.after, Region.binds md e = true → t.getD e.on false = true
theorem shut_set {t : Array Bool} {j : Nat} (h : Shut md ops t) (hj : j ∈ Region.ready md ops t) : Shut md ops (t.setIfInBounds j true) := by
  obtain ⟨_, oj, hoj, hall⟩ := mem_ready.1 hj
  intro k ok hk hl e he hb
  by_cases hjk : j = k
  · subst hjk
    rw [hoj] at hk; cases hk
    exact getD_set_true (hall e he hb)
  · rw [getD_set_ne false hjk] at hl
    exact getD_set_true (h k ok hk hl e he hb)
/-- c waits for i, or for what waits for i, .. -/
def needsB (md : Region.Mode) (ops : Array Oper) : Nat → Nat → Nat → Bool
  | 0, _, _ => false
  | f + 1, c, i => Region.waitsFor md ops c i || (List.range ops.size).any fun k => Region.waitsFor md ops c k && needsB md ops f k i
theorem needs_listed {t : Array Bool} {i : Nat} (h : Shut md ops t) : ∀ (f c : Nat), needsB md ops f c i = true → (∀ oc, ops[c]? = some oc → ∀ e ∈ oc.after, Region.binds md e = true → t.getD e.on false = true) → t.getD i false = true
  | 0, _, hn, _ => by simp [needsB] at hn
  | f + 1, c, hn, hc => by
    simp only [needsB, Bool.or_eq_true, List.any_eq_true, Bool.and_eq_true] at hn
    rcases hn with hn | ⟨k, _, hk, hn⟩
    · obtain ⟨oc, hoc, e, he, hb, hon⟩ := Region.waitsFor_spec hn
      rw [← hon]; exact hc oc hoc e he hb
    · obtain ⟨oc, hoc, e, he, hb, hon⟩ := Region.waitsFor_spec hk
      have hkl : t.getD k false = true := by rw [← hon]; exact hc oc hoc e he hb
      exact needs_listed h f k hn (fun ok hok e he hb => h k ok hok hkl e he hb)
/-- Whatever order is picked, and S holds behind each operation as long as c has not come up. -/
def anyTill (P : Program) (md : Region.Mode) (ops : Array Oper) (Q : Exit → Act → World → Prop) (c : Nat) (S : World → Prop) : Nat → Array Bool → Act → World → Prop
  | 0, t, a, w => Region.ready md ops t = [] ∧ Q .normal a w
  | n + 1, t, a, w => (Region.ready md ops t = [] → Q .normal a w) ∧
    ∀ i ∈ Region.ready md ops t, wpOp P ops Q i (fun a' w' => ((t.setIfInBounds i true).getD c false = false → S w') ∧ anyTill P md ops Q c S n (t.setIfInBounds i true) a' w') a w
theorem any_of_till : ∀ (n : Nat) (t : Array Bool) (a : Act) (w : World), anyTill P md ops Q c S n t a w → wpAny P md ops Q n t a w
  | 0, _, _, _, h => h
  | n + 1, _, _, _, h => ⟨h.1, fun i hi => wpOp_mono (fun a' w' h' => any_of_till n _ a' w' h'.2) (h.2 i hi)⟩
theorem till_first {i f : Nat} {b : Bool} {oi : Oper} {v : Value} (hi : ops[i]? = some oi) (hsel : Region.noSelect ops = true) (hb : b = true → needsB md ops f c i = true) (hic : i ≠ c)
    (hQ : ∀ p a w, Q (.panic p) (a.put oi.dst v) w → Q (.panic p) a w) :
    ∀ (n : Nat) (t : Array Bool) (a : Act) (w : World), Shut md ops t →
      (∀ j oj, ops[j]? = some oj → j ≠ i → t.getD j true = false → (∀ e ∈ oj.after, Region.binds md e = true → e.on ≠ i) → oi.apart ops oj = true) →
      i ∈ Region.ready md ops t → YieldsIf P ops (fun w => b = true → S w) oi v a → (t.getD c false = false → S w) →
      anyTill P md ops Q c S n (t.setIfInBounds i true) (a.put oi.dst v) w → anyTill P md ops Q c S (n + 1) t a w := by
  have key : ∀ {t : Array Bool} {w : World}, Shut md ops t → i ∈ Region.ready md ops t → (t.getD c false = false → S w) → b = true → S w := by
    intro t w hs hr hS hbt
    apply hS
    cases hcl : t.getD c false with
    | false => rfl
    | true =>
      have := needs_listed hs f c (hb hbt) (fun oc hoc e he hb => hs c oc hoc hcl e he hb)
      rw [getD_both (mem_ready.1 hr).1] at this
      cases this
  intro n
  induction n with
  | zero =>
    intro t a w hs _ hr hy hS H
    refine ⟨fun h => (by rw [h] at hr; cases hr), fun j hj => ?_⟩
    by_cases hji : j = i
    · subst hji; exact hy.wpOp hi (key hs hr hS) ⟨fun hc => hS (by rw [getD_set_ne false hic] at hc; exact hc), H⟩
    · have := ready_mono hj hji
      rw [H.1] at this
      cases this
  | succ n ih =>
    intro t a w hs hfree hr hy hS H
    refine ⟨fun h => (by rw [h] at hr; cases hr), fun j hj => ?_⟩
    by_cases hji : j = i
    · subst hji; exact hy.wpOp hi (key hs hr hS) ⟨fun hc => hS (by rw [getD_set_ne false hic] at hc; exact hc), H⟩
    · have h1 := H.2 j (ready_mono hj hji)
      obtain ⟨hjun, oj, hoj, hall⟩ := mem_ready.1 hj
      have hnot : ∀ e ∈ oj.after, Region.binds md e = true → e.on ≠ i := fun e he hb heq => by
        have h1 := hall e he hb
        rw [heq, getD_both (mem_ready.1 hr).1] at h1
        cases h1
      have h2 := wpOp_putIf hoj (hfree j oj hoj hji hjun hnot) (fun cs b => Region.noSelect_spec hsel i oi cs b hi) (fun cs b => Region.noSelect_spec hsel j oj cs b hoj) hQ hy h1
      have hfree' : ∀ k ok, ops[k]? = some ok → k ≠ i → (t.setIfInBounds j true).getD k true = false → (∀ e ∈ ok.after, Region.binds md e = true → e.on ≠ i) → oi.apart ops ok = true := fun k ok hk hki hun hno => by
        refine hfree k ok hk hki ?_ hno
        by_cases hjk : j = k
        · subst hjk; exact hjun
        · rw [getD_set_ne true hjk] at hun; exact hun
      refine wpOp_mono (fun a' w' h3 => ?_) h2
      have hS' : (t.setIfInBounds j true).getD c false = false → S w' := fun hc => h3.2.1 (by
        rw [← Array.setIfInBounds_comm _ _ hji, getD_set_ne false hic]; exact hc)
      refine ⟨hS', ih _ a' w' (shut_set hs hj) hfree' (ready_mono hr (Ne.symm hji)) h3.1 hS' ?_⟩
      rw [Array.setIfInBounds_comm _ _ hji]
      exact h3.2.2
/-- A walk's state: what is shut goes on being so. -/
def Till (P : Program) (md : Region.Mode) (ops : Array Oper) (Q : Exit → Act → World → Prop) (c : Nat) (S : World → Prop) (n : Nat) (t : Array Bool) (a : Act) (w : World) : Prop := Shut md ops t → anyTill P md ops Q c S n t a w
/-- No tactic looks into it. -/
def HeldK (p : Prop) : Prop := p
theorem HeldK.out {p : Prop} (h : HeldK p) : p := h
def dstOf (ops : Array Oper) (i : Nat) : Option Tmp := (ops[i]?).bind (·.dst)
/-- Take number i: a load (b = true: in every world of S), or what yields in whatever world (b = false). -/
theorem till_take (i f : Nat) (b : Bool) {v : Value} {n : Nat} {t : Array Bool} {a : Act} {w : World} (hsel : Region.noSelect ops = true) (hb : (!b || needsB md ops f c i) = true) (hic : (i == c) = false)
    (hf : Region.free md ops t i = true) (hr : (Region.ready md ops t).contains i = true) (hQ : ∀ p a w, Q (.panic p) (a.put (dstOf ops i) v) w → Q (.panic p) a w)
    (hw : (ops[i]?).elim False fun oi => Region.wanted oi (yielded ops a.tmps) = true) (hS : S w)
    (hy : (ops[i]?).elim False fun oi => ∀ w, (b = true → S w) → (execOp a.eval oi).run P w = .ok (.value v) w)
    (h : Till P md ops Q c S n (t.setIfInBounds i true) (a.put (dstOf ops i) v) w) : Till P md ops Q c S (n + 1) t a w := by
  intro hs
  cases hi : ops[i]? with
  | none => rw [hi] at hw; exact hw.elim
  | some oi =>
    rw [hi] at hw hy
    simp only [Option.elim] at hw hy
    have hr' : i ∈ Region.ready md ops t := by simpa using hr
    have hd : dstOf ops i = oi.dst := by unfold dstOf; rw [hi]; rfl
    rw [hd] at h hQ
    refine till_first (b := b) (f := f) hi hsel (fun hbt => by rw [hbt] at hb; simpa using hb) (by simpa using hic) hQ n t a w hs (Region.free_spec hi hf) hr' (.inl ⟨hw, hy⟩) (fun _ => hS) (h (shut_set hs hr'))
/-- One alone may come up: what follows is held back ('K'). -/
theorem till_step (i : Nat) {n : Nat} {t : Array Bool} {a : Act} {w : World} (hr : Region.ready md ops t = [i]) (hg : (t.setIfInBounds i true).getD c false = true)
    (h : ∀ K : Act → World → Prop, HeldK (∀ a' w', Till P md ops Q c S n (t.setIfInBounds i true) a' w' → K a' w') →
      (ops[i]?).elim False fun o => if Region.wanted o (yielded ops a.tmps) = true then Oper.wp P o a w K Q else K (a.put o.dst undef) w) : Till P md ops Q c S (n + 1) t a w := by
  intro hs
  refine ⟨fun h0 => (by rw [hr] at h0; cases h0), fun j hj => ?_⟩
  have hj' : j ∈ Region.ready md ops t := hj
  rw [hr] at hj
  have hji : j = i := by simpa using hj
  subst hji
  have h1 := h _ (fun a' w' h2 => (⟨fun h0 => (by rw [hg] at h0; cases h0), h2 (shut_set hs hj')⟩ : ((t.setIfInBounds j true).getD c false = false → S w') ∧ anyTill P md ops Q c S n (t.setIfInBounds j true) a' w'))
  unfold wpOp
  cases ho : ops[j]? with
  | none => rw [ho] at h1; exact h1.elim
  | some o =>
    rw [ho] at h1
    simp only [Option.elim] at h1 ⊢
    split
    · rename_i hw; rw [if_pos hw] at h1; exact .inl h1
    · rename_i hw; rw [if_neg hw] at h1; exact h1
theorem till_end {t : Array Bool} {a : Act} {w : World} (hr : Region.ready md ops t = []) (h : Q .normal a w) : ∀ n, Till P md ops Q c S n t a w
  | 0 => fun _ => ⟨hr, h⟩
  | _ + 1 => fun _ => ⟨fun _ => h, by rw [hr]; simp⟩
theorem region_till {id : Nat} {a : Act} {w : World} (c : Nat) (S : World → Prop) (hm : P.follows .mixedOrders = true)
    (h : Till P .any ops Q c S ops.size (Array.replicate ops.size false) a { w with drawn := w.drawn + 1 }) : (Code.region id ops true).wp P Q a w :=
  wp_region_any hm (any_of_till _ _ _ _ (h (fun j oj hj hl => by rw [getD_replicate_false] at hl; cases hl)))
end
end Go.Proofs.YtlefgffnjcmfoaaGreatDoor
namespace Go.Proofs.YtlefgffnjcmfoaaGreatDoor
open Go
section
variable {P : Program} {ops : Array Oper} {Q : Exit → Act → World → Prop} {md : Region.Mode} {S : World → Prop} {c : Nat}
/-- Take number i, which yields in whatever world, once c has come up. -/
theorem till_late (i : Nat) {v : Value} {n : Nat} {t : Array Bool} {a : Act} {w : World} (hsel : Region.noSelect ops = true) (hic : (i == c) = false)
    (hf : Region.free md ops t i = true) (hr : (Region.ready md ops t).contains i = true) (hQ : ∀ p a w, Q (.panic p) (a.put (dstOf ops i) v) w → Q (.panic p) a w) (hct : t.getD c false = true)
    (hw : (ops[i]?).elim False fun oi => Region.wanted oi (yielded ops a.tmps) = true)
    (hy : (ops[i]?).elim False fun oi => ∀ w, (execOp a.eval oi).run P w = .ok (.value v) w)
    (h : Till P md ops Q c S n (t.setIfInBounds i true) (a.put (dstOf ops i) v) w) : Till P md ops Q c S (n + 1) t a w := by
  intro hs
  cases hi : ops[i]? with
  | none => rw [hi] at hw; exact hw.elim
  | some oi =>
    rw [hi] at hw hy
    simp only [Option.elim] at hw hy
    have hr' : i ∈ Region.ready md ops t := by simpa using hr
    have hd : dstOf ops i = oi.dst := by unfold dstOf; rw [hi]; rfl
    rw [hd] at h hQ
    refine till_first (b := false) (f := 0) hi hsel (fun hbt => by cases hbt) (by simpa using hic) hQ n t a w hs (Region.free_spec hi hf) hr' (.inl ⟨hw, fun w _ => hy w⟩) (fun h0 => by rw [hct] at h0; cases h0) (h (shut_set hs hr'))
/-- One alone may come up, before c: S is shown anew. -/
theorem till_before (i : Nat) {n : Nat} {t : Array Bool} {a : Act} {w : World} (hr : Region.ready md ops t = [i])
    (h : ∀ K : Act → World → Prop, HeldK (∀ a' w', S w' → Till P md ops Q c S n (t.setIfInBounds i true) a' w' → K a' w') →
      (ops[i]?).elim False fun o => if Region.wanted o (yielded ops a.tmps) = true then Oper.wp P o a w K Q else K (a.put o.dst undef) w) : Till P md ops Q c S (n + 1) t a w := by
  intro hs
  refine ⟨fun h0 => (by rw [hr] at h0; cases h0), fun j hj => ?_⟩
  have hj' : j ∈ Region.ready md ops t := hj
  rw [hr] at hj
  have hji : j = i := by simpa using hj
  subst hji
  have h1 := h _ (fun a' w' hS h2 => (⟨fun _ => hS, h2 (shut_set hs hj')⟩ : ((t.setIfInBounds j true).getD c false = false → S w') ∧ anyTill P md ops Q c S n (t.setIfInBounds j true) a' w'))
  unfold wpOp
  cases ho : ops[j]? with
  | none => rw [ho] at h1; exact h1.elim
  | some o =>
    rw [ho] at h1
    simp only [Option.elim] at h1 ⊢
    split
    · rename_i hw; rw [if_pos hw] at h1; exact .inl h1
    · rename_i hw; rw [if_neg hw] at h1; exact h1
end
end Go.Proofs.YtlefgffnjcmfoaaGreatDoor
namespace Go.Proofs.YtlefgffnjcmfoaaGreatDoor
open Go
section
variable {P : Program} {ops : Array Oper} {Q : Exit → Act → World → Prop} {md : Region.Mode} {S : World → Prop} {c : Nat}
/-- Two may come up, before c: S is shown anew behind each. -/
theorem till_split (i j : Nat) {n : Nat} {t : Array Bool} {a : Act} {w : World} (hr : Region.ready md ops t = [i, j])
    (h1 : ∀ K : Act → World → Prop, HeldK (∀ a' w', S w' → Till P md ops Q c S n (t.setIfInBounds i true) a' w' → K a' w') →
      (ops[i]?).elim False fun o => if Region.wanted o (yielded ops a.tmps) = true then Oper.wp P o a w K Q else K (a.put o.dst undef) w)
    (h2 : ∀ K : Act → World → Prop, HeldK (∀ a' w', S w' → Till P md ops Q c S n (t.setIfInBounds j true) a' w' → K a' w') →
      (ops[j]?).elim False fun o => if Region.wanted o (yielded ops a.tmps) = true then Oper.wp P o a w K Q else K (a.put o.dst undef) w) : Till P md ops Q c S (n + 1) t a w := by
  intro hs
  refine ⟨fun h0 => (by rw [hr] at h0; cases h0), fun k hk => ?_⟩
  have hk' : k ∈ Region.ready md ops t := hk
  have key : (∀ K : Act → World → Prop, HeldK (∀ a' w', S w' → Till P md ops Q c S n (t.setIfInBounds k true) a' w' → K a' w') →
      (ops[k]?).elim False fun o => if Region.wanted o (yielded ops a.tmps) = true then Oper.wp P o a w K Q else K (a.put o.dst undef) w) := by
    rw [hr] at hk
    rcases List.mem_cons.1 hk with rfl | hk
    · exact h1
    · obtain rfl := List.mem_singleton.1 hk
      exact h2
  have h3 := key _ (fun a' w' hS h4 => (⟨fun _ => hS, h4 (shut_set hs hk')⟩ : ((t.setIfInBounds k true).getD c false = false → S w') ∧ anyTill P md ops Q c S n (t.setIfInBounds k true) a' w'))
  unfold wpOp
  cases ho : ops[k]? with
  | none => rw [ho] at h3; exact h3.elim
  | some o =>
    rw [ho] at h3
    simp only [Option.elim] at h3 ⊢
    split
    · rename_i hw; rw [if_pos hw] at h3; exact .inl h3
    · rename_i hw; rw [if_neg hw] at h3; exact h3
end
end Go.Proofs.YtlefgffnjcmfoaaGreatDoor
namespace Go.Proofs.YtlefgffnjcmfoaaGreatDoor
open Go
section
variable {P : Program} {ops : Array Oper} {Q : Exit → Act → World → Prop} {md : Region.Mode} {S : World → Prop} {c : Nat}
theorem any_again {c' : Nat} {S' : World → Prop} : ∀ (n : Nat) (t : Array Bool) (a : Act) (w : World), t.getD c false = true → anyTill P md ops Q c' S' n t a w → anyTill P md ops Q c S n t a w
  | 0, _, _, _, _, h => h
  | n + 1, t, _, _, hc, h => ⟨h.1, fun i hi => wpOp_mono (fun a' w' h' => ⟨fun h0 => (by rw [getD_set_true hc] at h0; cases h0), any_again n _ a' w' (getD_set_true hc) h'.2⟩) (h.2 i hi)⟩
theorem till_again (c' : Nat) (S' : World → Prop) {n : Nat} {t : Array Bool} {a : Act} {w : World} (hc : t.getD c false = true) (h : Till P md ops Q c' S' n t a w) : Till P md ops Q c S n t a w :=
  fun hs => any_again n t a w hc (h hs)
end
end Go.Proofs.YtlefgffnjcmfoaaGreatDoor
namespace Go.Proofs.YtlefgffnjcmfoaaGreatDoor
open Go
section
variable {P : Program} {ops : Array Oper} {Q : Exit → Act → World → Prop} {md : Region.Mode} {S : World → Prop} {c : Nat}
/-- Pass over number i, which is guarded off. -/
theorem till_skip (i : Nat) {n : Nat} {t : Array Bool} {a : Act} {w : World} (hsel : Region.noSelect ops = true) (hic : (i == c) = false)
    (hf : Region.free md ops t i = true) (hr : (Region.ready md ops t).contains i = true) (hQ : ∀ p a w, Q (.panic p) (a.put (dstOf ops i) undef) w → Q (.panic p) a w)
    (hw : (ops[i]?).elim False fun oi => Region.wanted oi (yielded ops a.tmps) = false) (hS : t.getD c false = false → S w)
    (h : Till P md ops Q c S n (t.setIfInBounds i true) (a.put (dstOf ops i) undef) w) : Till P md ops Q c S (n + 1) t a w := by
  intro hs
  cases hi : ops[i]? with
  | none => rw [hi] at hw; exact hw.elim
  | some oi =>
    rw [hi] at hw
    simp only [Option.elim] at hw
    have hr' : i ∈ Region.ready md ops t := by simpa using hr
    have hd : dstOf ops i = oi.dst := by unfold dstOf; rw [hi]; rfl
    rw [hd] at h hQ
    refine till_first (b := false) (f := 0) hi hsel (fun hbt => by cases hbt) (by simpa using hic) hQ n t a w hs (Region.free_spec hi hf) hr' (.inr ⟨hw, rfl⟩) hS (h (shut_set hs hr'))
end
end Go.Proofs.YtlefgffnjcmfoaaGreatDoor
namespace Go.Proofs.YtlefgffnjcmfoaaGreatDoor
open Go.RowKit Go.Maps Go.ChangeMaps Go.MapKept
open Lx
attribute [local go_sem ↓] Go.wp_at_zero Go.wp_at_succ
def txVs (l : List S) : List Value := l.map fun t => .string (bs t)
theorem txVs_length (l : List S) : (txVs l).length = l.length := by simp [txVs]
theorem txVs_one (l : List S) : ∀ u ∈ txVs l, u.oneCell' = true := by
  intro u hu
  obtain ⟨z, _, rfl⟩ := List.mem_map.1 hu
  rfl
/-- A slice of numbers that is read. -/
def TxAt (w : World) (v : Value) (l : List S) : Prop := ∃ a cap, v = .slice a l.length cap ∧ (l.length ≤ cap ∧ (a = none → cap = 0)) ∧ ∀ (k : Nat) (z : S), l[k]? = some z → ∃ b off, a = some ⟨b, off, none⟩ ∧ w.cell? ⟨b, off + k, none⟩ = some (.string (bs z))
section
variable {w w' : World} {v : Value} {l : List S}
theorem TxAt.keep (h : TxAt w v l) (hb : Below w.heap.size w w') : TxAt w' v l := by
  obtain ⟨a, cap, hv, hl, hc⟩ := h
  refine ⟨a, cap, hv, hl, fun k z hk => ?_⟩
  obtain ⟨b, off, h1, c0⟩ := hc k z hk
  exact ⟨b, off, h1, below_cell c0 hb⟩
theorem TxAt.nil (w : World) : TxAt w (.slice none 0 0) [] := ⟨none, 0, rfl, ⟨Nat.le_refl _, fun _ => rfl⟩, fun k u hk => by simp at hk⟩
theorem TxAt.of_own {base : Nat} {e : TypeId} {n : Nat} (h : w.ownsRow base e 1 v n (txVs l)) : TxAt w v l := by
  have hn : n = l.length := by have := h.1; rw [txVs_length] at this; omega
  subst hn
  rcases h.2 with ⟨rfl, h0⟩ | ⟨g, cap, cur, rfl, _, _, hcap, _⟩
  · have : l = [] := List.eq_nil_of_length_eq_zero h0
    subst this
    exact TxAt.nil w
  · refine ⟨_, cap, rfl, ⟨hcap, fun e => by cases e⟩, fun k p hk => ⟨g, 0, rfl, ?_⟩⟩
    have h0 := h.cells rfl k (.string (bs p)) (by simp [txVs, hk])
    rwa [Lib.add_plain] at h0
theorem TxAt.slice (h : TxAt w v l) : ∃ a c, v = .slice a l.length c := by obtain ⟨a, c, hv, _⟩ := h; exact ⟨a, c, hv⟩
theorem TxAt.form (h : TxAt w v l) (h0 : 0 < l.length) : ∃ b off cap, v = .slice (some ⟨b, off, none⟩) l.length cap ∧ l.length ≤ cap ∧ ∀ (k : Nat) (z : S), l[k]? = some z → w.cell? ⟨b, off + k, none⟩ = some (.string (bs z)) := by
  obtain ⟨a, cap, hv, hl, hc⟩ := h
  obtain ⟨b, off, rfl, _⟩ := hc 0 _ (List.getElem?_eq_getElem h0)
  refine ⟨b, off, cap, hv, hl.1, fun k p hk => ?_⟩
  obtain ⟨b', off', h1, h2⟩ := hc k p hk
  cases h1
  exact h2
theorem TxAt.at_ {b off n cap : Nat} (h : TxAt w (.slice (some ⟨b, off, none⟩) n cap) l) {k : Nat} {z : S} (hk : l[k]? = some z) : w.cell? ⟨b, off + k, none⟩ = some (.string (bs z)) := by
  obtain ⟨a, cap', hv, _, hc⟩ := h
  cases hv
  obtain ⟨b', off', h1, h2⟩ := hc k z hk
  cases h1
  exact h2
end
theorem run_pushT (w : World) (v u : Value) (ks ps : List S) (hown : w.ownsRow 0 9 1 v ks.length (txVs ks)) (hu : TxAt w u ps) (hn : ks.length + ps.length ≤ 100000) :
    ∃ a c w', (Builtin.append_ #[22, 22] 22 #[v, u]).run Tryz.prog w = .ok (.slice a (ks.length + ps.length) c) w' ∧ w'.ownsRow 0 9 1 (.slice a (ks.length + ps.length) c) (ks.length + ps.length) (txVs (ks ++ ps)) ∧ w.grownBy w' v.ownBlock ∧
      ((Value.slice a (ks.length + ps.length) c).ownBlock = v.ownBlock ∨ (Value.slice a (ks.length + ps.length) c).ownBlock = some w.heap.size) := by
  obtain ⟨i0, hi, hz0, hz1, hz2⟩ := info_parts string_info
  have hint : txVs (ks ++ ps) = txVs ks ++ txVs ps := by simp [txVs]
  obtain ⟨a, cap, rfl, ⟨_, hn0⟩, hc⟩ := hu
  cases a with
  | none =>
    obtain rfl := hn0 rfl
    have h0 : ps = [] := by
      cases ps with
      | nil => rfl
      | cons z l => obtain ⟨_, _, h1, _⟩ := hc 0 z rfl; cases h1
    subst h0
    have hr := run_append_owned_none (P := Tryz.prog) (w := w) 0 22 22 9 i0 1 Tryz.underlying22 hi v ks.length _ hown
    obtain ⟨a', c', hv⟩ := own_form hown
    subst hv
    rw [List.append_nil]
    exact ⟨a', c', w, hr, hown, ⟨rfl, rfl, rfl, Nat.le_refl _, fun _ _ _ => rfl⟩, .inl rfl⟩
  | some x =>
    have hcell : ∀ j u, (txVs ps)[j]? = some u → w.cell? (x.add j) = some u := by
      intro j u hj
      unfold txVs at hj
      rw [List.getElem?_map] at hj
      cases hz : ps[j]? with
      | none => rw [hz] at hj; cases hj
      | some z =>
        rw [hz] at hj; cases hj
        obtain ⟨b, off, h1, h2⟩ := hc j z hz
        cases h1
        rw [Lib.add_plain]; exact h2
    obtain ⟨v', w', r1, r2, r3, _, r5⟩ := run_append_own_at (P := Tryz.prog) w 0 22 22 9 i0 (.string ⟨#[]⟩) 1 16 Tryz.underlying22 hi hz0 hz1 hz2 rfl (by decide) v ks.length _ hown x ps.length cap (txVs ps) (by rw [txVs_length, Nat.mul_one]) hcell (txVs_one _) (by unfold maxLen; omega) (by omega) (Nat.zero_le _)
    rw [← hint] at r2
    obtain ⟨a', c', hv⟩ := own_form r2
    subst hv
    exact ⟨a', c', w', r1, r2, r3, r5⟩
/-- One number in a new slice. -/
theorem own_txt (w : World) (z : S) : (w.alloc (.cells #[.string (bs z)] 9)).ownsRow 0 9 1 (.slice (some ⟨w.heap.size, 0, none⟩) 1 1) 1 (txVs [z]) :=
  World.ownsRow_lit w #[.string (bs z)] 1 (Nat.zero_le _) (by decide) rfl
theorem txts_one (w : World) (z : S) : TxAt (w.alloc (.cells #[.string (bs z)] 9)) (.slice (some ⟨w.heap.size, 0, none⟩) 1 1) [z] := TxAt.of_own (own_txt w z)
/-- Numbers in a new slice. -/
theorem txts_lit (w : World) (l : List S) (hl : l.length ≤ 100) : TxAt (w.alloc (.cells (txVs l).toArray 9)) (.slice (some ⟨w.heap.size, 0, none⟩) l.length l.length) l :=
  TxAt.of_own (World.ownsRow_lit (e := 9) (size := 1) (base := 0) w (txVs l).toArray l.length (Nat.zero_le _) (by unfold maxLen; omega) (by simp [txVs]))
section
variable {w0 w : World} {os : List Ob} {i : Nat} {v : Value} {ks : List S}
theorem OMem.pushT (h : OMem w0 w os) (hi : os[i]? = some (.row 9 1 v ks.length (txVs ks))) (z : S) (hn : ks.length ≤ 1000) :
    ∃ a c w', (Builtin.append_ #[22, 22] 22 #[v, .slice (some ⟨w.heap.size, 0, none⟩) 1 1]).run Tryz.prog (w.alloc (.cells #[.string (bs z)] 9)) = .ok (.slice a (ks.length + 1) c) w' ∧
      OMem w0 w' (os.set i (.row 9 1 (.slice a (ks.length + 1) c) (ks.length + 1) (txVs (ks ++ [z])))) := by
  have hb2 := (Below.refl w.heap.size w).alloc (Nat.le_refl _) (.cells #[.string (bs z)] 9)
  have h2 := h.fresh hb2
  obtain ⟨a, c, w', r1, r2, r3, r4⟩ := run_pushT _ v _ ks [z] (h2.rowAt hi) (txts_one w z) (by simp; omega)
  have e : ks.length + [z].length = ks.length + 1 := by simp
  rw [e] at r1 r2 r4
  exact ⟨a, c, w', r1, h2.rowGrow hi r3 r2 r4⟩
end
/-- A copy of numbers in a new slice: append onto an empty literal. -/
theorem copyT_run {w : World} {u : Value} {l : List S} (hu : TxAt w u l) (hn : l.length ≤ 1000) :
    ∃ a c w', (Builtin.append_ #[22, 22] 22 #[.slice (some ⟨w.heap.size, 0, none⟩) 0 0, u]).run Tryz.prog (w.alloc (.cells #[] 9)) = .ok (.slice a l.length c) w' ∧
      w'.ownsRow 0 9 1 (.slice a l.length c) l.length (txVs l) ∧ Below w.heap.size w w' ∧ ∀ x, (Value.slice a l.length c).ownBlock = some x → w.heap.size ≤ x := by
  have hb := (Below.refl w.heap.size w).alloc (Nat.le_refl _) (.cells #[] 9)
  obtain ⟨a, c, w', h1, h2, h3, h4⟩ := run_pushT _ _ u [] l (World.ownsRow_lit w #[] 0 (e := 9) (size := 1) (base := 0) (Nat.zero_le _) (by decide) rfl) (hu.keep hb) (by simp; omega)
  have e : ([] : List S).length + l.length = l.length := by simp
  rw [e, List.nil_append] at h2
  rw [e] at h1 h4
  refine ⟨a, c, w', h1, h2, below_grown hb h3 fun x hx => Nat.le_of_eq (by simpa [Value.ownBlock] using hx), fun x hx => ?_⟩
  rcases h4 with q | q
  · have := q.symm.trans hx; exact Nat.le_of_eq (by simpa [Value.ownBlock] using this)
  · have := q.symm.trans hx; simp at this; omega
theorem addT_run {w0 w : World} {v u : Value} {ks ps : List S} (hb : Below w0.heap.size w0 w) (ho : w.ownsRow 0 9 1 v ks.length (txVs ks)) (hv : ∀ x, v.ownBlock = some x → w0.heap.size ≤ x) (hu : TxAt w u ps) (hn : ks.length + ps.length ≤ 1000) :
    ∃ a c w', (Builtin.append_ #[22, 22] 22 #[v, u]).run Tryz.prog w = .ok (.slice a (ks.length + ps.length) c) w' ∧ TxAt w' (.slice a (ks.length + ps.length) c) (ks ++ ps) ∧ Below w0.heap.size w0 w' := by
  obtain ⟨a, c, w', h1, h2, h3, h4⟩ := run_pushT _ v u ks ps ho hu (by omega)
  exact ⟨a, c, w', h1, TxAt.of_own h2, below_grown hb h3 hv⟩
end Go.Proofs.YtlefgffnjcmfoaaGreatDoor
namespace Go.Proofs.YtlefgffnjcmfoaaGreatDoor
open Go.RowKit Go.Maps Go.ChangeMaps Go.MapKept
open Lx
/-- A slice of numbers that is read. -/
def NumsAt (w : World) (v : Value) (l : List Int) : Prop := ∃ a cap, v = .slice a l.length cap ∧ (l.length ≤ cap ∧ (a = none → cap = 0)) ∧ ∀ (k : Nat) (z : Int), l[k]? = some z → ∃ b off, a = some ⟨b, off, none⟩ ∧ w.cell? ⟨b, off + k, none⟩ = some (.int .i64 z)
section
variable {w w' : World} {v : Value} {l : List Int}
theorem NumsAt.keep (h : NumsAt w v l) (hb : Below w.heap.size w w') : NumsAt w' v l := by
  obtain ⟨a, cap, hv, hl, hc⟩ := h
  refine ⟨a, cap, hv, hl, fun k z hk => ?_⟩
  obtain ⟨b, off, h1, c0⟩ := hc k z hk
  exact ⟨b, off, h1, below_cell c0 hb⟩
theorem NumsAt.nil (w : World) : NumsAt w (.slice none 0 0) [] := ⟨none, 0, rfl, ⟨Nat.le_refl _, fun _ => rfl⟩, fun k u hk => by simp at hk⟩
theorem NumsAt.of_own {base : Nat} {e : TypeId} {n : Nat} (h : w.ownsRow base e 1 v n (intVs l)) : NumsAt w v l := by
  have hn : n = l.length := by have := h.1; rw [intVs_length] at this; omega
  subst hn
  rcases h.2 with ⟨rfl, h0⟩ | ⟨g, cap, cur, rfl, _, _, hcap, _⟩
  · have : l = [] := List.eq_nil_of_length_eq_zero h0
    subst this
    exact NumsAt.nil w
  · refine ⟨_, cap, rfl, ⟨hcap, fun e => by cases e⟩, fun k p hk => ⟨g, 0, rfl, ?_⟩⟩
    have h0 := h.cells rfl k (.int .i64 p) (by simp [intVs, hk])
    rwa [Lib.add_plain] at h0
theorem NumsAt.slice (h : NumsAt w v l) : ∃ a c, v = .slice a l.length c := by obtain ⟨a, c, hv, _⟩ := h; exact ⟨a, c, hv⟩
theorem NumsAt.form (h : NumsAt w v l) (h0 : 0 < l.length) : ∃ b off cap, v = .slice (some ⟨b, off, none⟩) l.length cap ∧ l.length ≤ cap ∧ ∀ (k : Nat) (z : Int), l[k]? = some z → w.cell? ⟨b, off + k, none⟩ = some (.int .i64 z) := by
  obtain ⟨a, cap, hv, hl, hc⟩ := h
  obtain ⟨b, off, rfl, _⟩ := hc 0 _ (List.getElem?_eq_getElem h0)
  refine ⟨b, off, cap, hv, hl.1, fun k p hk => ?_⟩
  obtain ⟨b', off', h1, h2⟩ := hc k p hk
  cases h1
  exact h2
theorem NumsAt.at_ {b off n cap : Nat} (h : NumsAt w (.slice (some ⟨b, off, none⟩) n cap) l) {k : Nat} {z : Int} (hk : l[k]? = some z) : w.cell? ⟨b, off + k, none⟩ = some (.int .i64 z) := by
  obtain ⟨a, cap', hv, _, hc⟩ := h
  cases hv
  obtain ⟨b', off', h1, h2⟩ := hc k z hk
  cases h1
  exact h2
end
theorem run_pushN (w : World) (v u : Value) (ks ps : List Int) (hown : w.ownsRow 0 3 1 v ks.length (intVs ks)) (hu : NumsAt w u ps) (hn : ks.length + ps.length ≤ 100000) :
    ∃ a c w', (Builtin.append_ #[80, 80] 80 #[v, u]).run Tryz.prog w = .ok (.slice a (ks.length + ps.length) c) w' ∧ w'.ownsRow 0 3 1 (.slice a (ks.length + ps.length) c) (ks.length + ps.length) (intVs (ks ++ ps)) ∧ w.grownBy w' v.ownBlock ∧
      ((Value.slice a (ks.length + ps.length) c).ownBlock = v.ownBlock ∨ (Value.slice a (ks.length + ps.length) c).ownBlock = some w.heap.size) := by
  obtain ⟨i0, hi, hz0, hz1, hz2⟩ := info_parts int_info
  have hint : intVs (ks ++ ps) = intVs ks ++ intVs ps := by simp [intVs]
  obtain ⟨a, cap, rfl, ⟨_, hn0⟩, hc⟩ := hu
  cases a with
  | none =>
    obtain rfl := hn0 rfl
    have h0 : ps = [] := by
      cases ps with
      | nil => rfl
      | cons z l => obtain ⟨_, _, h1, _⟩ := hc 0 z rfl; cases h1
    subst h0
    have hr := run_append_owned_none (P := Tryz.prog) (w := w) 0 80 80 3 i0 1 Tryz.underlying80 hi v ks.length _ hown
    obtain ⟨a', c', hv⟩ := own_form hown
    subst hv
    rw [List.append_nil]
    exact ⟨a', c', w, hr, hown, ⟨rfl, rfl, rfl, Nat.le_refl _, fun _ _ _ => rfl⟩, .inl rfl⟩
  | some x =>
    have hcell : ∀ j u, (intVs ps)[j]? = some u → w.cell? (x.add j) = some u := by
      intro j u hj
      unfold intVs at hj
      rw [List.getElem?_map] at hj
      cases hz : ps[j]? with
      | none => rw [hz] at hj; cases hj
      | some z =>
        rw [hz] at hj; cases hj
        obtain ⟨b, off, h1, h2⟩ := hc j z hz
        cases h1
        rw [Lib.add_plain]; exact h2
    obtain ⟨v', w', r1, r2, r3, _, r5⟩ := run_append_own_at (P := Tryz.prog) w 0 80 80 3 i0 (.int .i64 0) 1 8 Tryz.underlying80 hi hz0 hz1 hz2 rfl (by decide) v ks.length _ hown x ps.length cap (intVs ps) (by rw [intVs_length, Nat.mul_one]) hcell (oneCell_ints _) (by unfold maxLen; omega) (by omega) (Nat.zero_le _)
    rw [← hint] at r2
    obtain ⟨a', c', hv⟩ := own_form r2
    subst hv
    exact ⟨a', c', w', r1, r2, r3, r5⟩
/-- One number in a new slice. -/
theorem own_int (w : World) (z : Int) : (w.alloc (.cells #[.int .i64 z] 3)).ownsRow 0 3 1 (.slice (some ⟨w.heap.size, 0, none⟩) 1 1) 1 (intVs [z]) :=
  World.ownsRow_lit w #[.int .i64 z] 1 (Nat.zero_le _) (by decide) rfl
theorem nums_one (w : World) (z : Int) : NumsAt (w.alloc (.cells #[.int .i64 z] 3)) (.slice (some ⟨w.heap.size, 0, none⟩) 1 1) [z] := NumsAt.of_own (own_int w z)
/-- Numbers in a new slice. -/
theorem nums_lit (w : World) (l : List Int) (hl : l.length ≤ 100) : NumsAt (w.alloc (.cells (intVs l).toArray 3)) (.slice (some ⟨w.heap.size, 0, none⟩) l.length l.length) l :=
  NumsAt.of_own (World.ownsRow_lit (e := 3) (size := 1) (base := 0) w (intVs l).toArray l.length (Nat.zero_le _) (by unfold maxLen; omega) (by simp [intVs]))
section
variable {w0 w : World} {os : List Ob} {i : Nat} {v : Value} {ks : List Int}
theorem OMem.pushN (h : OMem w0 w os) (hi : os[i]? = some (.row 3 1 v ks.length (intVs ks))) (z : Int) (hn : ks.length ≤ 1000) :
    ∃ a c w', (Builtin.append_ #[80, 80] 80 #[v, .slice (some ⟨w.heap.size, 0, none⟩) 1 1]).run Tryz.prog (w.alloc (.cells #[.int .i64 z] 3)) = .ok (.slice a (ks.length + 1) c) w' ∧
      OMem w0 w' (os.set i (.row 3 1 (.slice a (ks.length + 1) c) (ks.length + 1) (intVs (ks ++ [z])))) := by
  have hb2 := (Below.refl w.heap.size w).alloc (Nat.le_refl _) (.cells #[.int .i64 z] 3)
  have h2 := h.fresh hb2
  obtain ⟨a, c, w', r1, r2, r3, r4⟩ := run_pushN _ v _ ks [z] (h2.rowAt hi) (nums_one w z) (by simp; omega)
  have e : ks.length + [z].length = ks.length + 1 := by simp
  rw [e] at r1 r2 r4
  exact ⟨a, c, w', r1, h2.rowGrow hi r3 r2 r4⟩
end
/-- A slice of numbers that is read. -/
def ByAt (w : World) (v : Value) (l : S) : Prop := ∃ a cap, v = .slice a l.length cap ∧ (l.length ≤ cap ∧ (a = none → cap = 0)) ∧ ∀ (k : Nat) (z : UInt8), l[k]? = some z → ∃ b off, a = some ⟨b, off, none⟩ ∧ w.cell? ⟨b, off + k, none⟩ = some (.int .u8 (z.toNat : Int))
section
variable {w w' : World} {v : Value} {l : S}
theorem ByAt.keep (h : ByAt w v l) (hb : Below w.heap.size w w') : ByAt w' v l := by
  obtain ⟨a, cap, hv, hl, hc⟩ := h
  refine ⟨a, cap, hv, hl, fun k z hk => ?_⟩
  obtain ⟨b, off, h1, c0⟩ := hc k z hk
  exact ⟨b, off, h1, below_cell c0 hb⟩
theorem ByAt.nil (w : World) : ByAt w (.slice none 0 0) [] := ⟨none, 0, rfl, ⟨Nat.le_refl _, fun _ => rfl⟩, fun k u hk => by simp at hk⟩
theorem ByAt.slice (h : ByAt w v l) : ∃ a c, v = .slice a l.length c := by obtain ⟨a, c, hv, _⟩ := h; exact ⟨a, c, hv⟩
theorem ByAt.form (h : ByAt w v l) (h0 : 0 < l.length) : ∃ b off cap, v = .slice (some ⟨b, off, none⟩) l.length cap ∧ l.length ≤ cap ∧ ∀ (k : Nat) (z : UInt8), l[k]? = some z → w.cell? ⟨b, off + k, none⟩ = some (.int .u8 (z.toNat : Int)) := by
  obtain ⟨a, cap, hv, hl, hc⟩ := h
  obtain ⟨b, off, rfl, _⟩ := hc 0 _ (List.getElem?_eq_getElem h0)
  refine ⟨b, off, cap, hv, hl.1, fun k p hk => ?_⟩
  obtain ⟨b', off', h1, h2⟩ := hc k p hk
  cases h1
  exact h2
theorem ByAt.at_ {b off n cap : Nat} (h : ByAt w (.slice (some ⟨b, off, none⟩) n cap) l) {k : Nat} {z : UInt8} (hk : l[k]? = some z) : w.cell? ⟨b, off + k, none⟩ = some (.int .u8 (z.toNat : Int)) := by
  obtain ⟨a, cap', hv, _, hc⟩ := h
  cases hv
  obtain ⟨b', off', h1, h2⟩ := hc k z hk
  cases h1
  exact h2
end
end Go.Proofs.YtlefgffnjcmfoaaGreatDoor
