/- A region that draws its order: loads are taken first under a condition on the world that need not hold any more behind one call c that waits for them all. -/
import Derived.OrdersHeld
import Derived.StillTail
import Derived.Tactics
import Derived.KernelRfl
namespace Go.Proofs.YtbjligjmckilcaaDoor
open Go
section
variable {P : Program} {ops : Array Oper} {Q : Exit → Act → World → Prop} {md : Region.Mode} {S : World → Prop} {c : Nat}
/-- What is listed has what it waits for listed. -/
def Shut (md : Region.Mode) (ops : Array Oper) (t : Array Bool) : Prop := ∀ j oj, ops[j]? = some oj → t.getD j false = true → ∀ e ∈ oj.after, Region.binds md e = true → t.getD e.on false = true
theorem shut_set {t : Array Bool} {j : Nat} (h : Shut md ops t) (hj : j ∈ Region.ready md ops t) : Shut md ops (t.setIfInBounds j true) := by
  obtain ⟨_, oj, hoj, hall⟩ := mem_ready.1 hj
  intro k ok hk hl e he hb
  by_cases hjk : j = k
  · subst hjk
    rw [hoj] at hk; cases hk
    exact getD_set_true (hall e he hb)
  · rw [getD_set_ne false hjk] at hl
    exact getD_set_true (h k ok hk hl e he hb)
/-- c waits for i, or for what waits for i, .. -/
def needsB (md : Region.Mode) (ops : Array Oper) : Nat → Nat → Nat → Bool
  | 0, _, _ => false
  | f + 1, c, i => Region.waitsFor md ops c i || (List.range ops.size).any fun k => Region.waitsFor md ops c k && needsB md ops f k i
theorem needs_listed {t : Array Bool} {i : Nat} (h : Shut md ops t) : ∀ (f c : Nat), needsB md ops f c i = true → (∀ oc, ops[c]? = some oc → ∀ e ∈ oc.after, Region.binds md e = true → t.getD e.on false = true) → t.getD i false = true
  | 0, _, hn, _ => by simp [needsB] at hn
  | f + 1, c, hn, hc => by
    simp only [needsB, Bool.or_eq_true, List.any_eq_true, Bool.and_eq_true] at hn
    rcases hn with hn | ⟨k, _, hk, hn⟩
    · obtain ⟨oc, hoc, e, he, hb, hon⟩ := Region.waitsFor_spec hn
      rw [← hon]; exact hc oc hoc e he hb
    · obtain ⟨oc, hoc, e, he, hb, hon⟩ := Region.waitsFor_spec hk
      have hkl : t.getD k false = true := by rw [← hon]; exact hc oc hoc e he hb
      exact needs_listed h f k hn (fun ok hok e he hb => h k ok hok hkl e he hb)
/-- Whatever order is picked, and S holds behind each operation as long as c has not come up. -/
def anyTill (P : Program) (md : Region.Mode) (ops : Array Oper) (Q : Exit → Act → World → Prop) (c : Nat) (S : World → Prop) : Nat → Array Bool → Act → World → Prop
  | 0, t, a, w => Region.ready md ops t = [] ∧ Q .normal a w
  | n + 1, t, a, w => (Region.ready md ops t = [] → Q .normal a w) ∧
    ∀ i ∈ Region.ready md ops t, wpOp P ops Q i (fun a' w' => ((t.setIfInBounds i true).getD c false = false → S w') ∧ anyTill P md ops Q c S n (t.setIfInBounds i true) a' w') a w
theorem any_of_till : ∀ (n : Nat) (t : Array Bool) (a : Act) (w : World), anyTill P md ops Q c S n t a w → wpAny P md ops Q n t a w
  | 0, _, _, _, h => h
  | n + 1, _, _, _, h => ⟨h.1, fun i hi => wpOp_mono (fun a' w' h' => any_of_till n _ a' w' h'.2) (h.2 i hi)⟩
theorem till_first {i f : Nat} {b : Bool} {oi : Oper} {v : Value} (hi : ops[i]? = some oi) (hsel : Region.noSelect ops = true) (hb : b = true → needsB md ops f c i = true) (hic : i ≠ c)
    (hQ : ∀ p a w, Q (.panic p) (a.put oi.dst v) w → Q (.panic p) a w) :
    ∀ (n : Nat) (t : Array Bool) (a : Act) (w : World), Shut md ops t →
      (∀ j oj, ops[j]? = some oj → j ≠ i → t.getD j true = false → (∀ e ∈ oj.after, Region.binds md e = true → e.on ≠ i) → oi.apart ops oj = true) →
      i ∈ Region.ready md ops t → YieldsIf P ops (fun w => b = true → S w) oi v a → (t.getD c false = false → S w) →
      anyTill P md ops Q c S n (t.setIfInBounds i true) (a.put oi.dst v) w → anyTill P md ops Q c S (n + 1) t a w := by
  have key : ∀ {t : Array Bool} {w : World}, Shut md ops t → i ∈ Region.ready md ops t → (t.getD c false = false → S w) → b = true → S w := by
    intro t w hs hr hS hbt
    apply hS
    cases hcl : t.getD c false with
    | false => rfl
    | true =>
      have := needs_listed hs f c (hb hbt) (fun oc hoc e he hb => hs c oc hoc hcl e he hb)
      rw [getD_both (mem_ready.1 hr).1] at this
      cases this
  intro n
  induction n with
  | zero =>
    intro t a w hs _ hr hy hS H
    refine ⟨fun h => (by rw [h] at hr; cases hr), fun j hj => ?_⟩
    by_cases hji : j = i
    · subst hji; exact hy.wpOp hi (key hs hr hS) ⟨fun hc => hS (by rw [getD_set_ne false hic] at hc; exact hc), H⟩
    · have := ready_mono hj hji
      rw [H.1] at this
      cases this
  | succ n ih =>
    intro t a w hs hfree hr hy hS H
    refine ⟨fun h => (by rw [h] at hr; cases hr), fun j hj => ?_⟩
    by_cases hji : j = i
    · subst hji; exact hy.wpOp hi (key hs hr hS) ⟨fun hc => hS (by rw [getD_set_ne false hic] at hc; exact hc), H⟩
    · have h1 := H.2 j (ready_mono hj hji)
      obtain ⟨hjun, oj, hoj, hall⟩ := mem_ready.1 hj
      have hnot : ∀ e ∈ oj.after, Region.binds md e = true → e.on ≠ i := fun e he hb heq => by
        have h1 := hall e he hb
        rw [heq, getD_both (mem_ready.1 hr).1] at h1
        cases h1
      have h2 := wpOp_putIf hoj (hfree j oj hoj hji hjun hnot) (fun cs b => Region.noSelect_spec hsel i oi cs b hi) (fun cs b => Region.noSelect_spec hsel j oj cs b hoj) hQ hy h1
      have hfree' : ∀ k ok, ops[k]? = some ok → k ≠ i → (t.setIfInBounds j true).getD k true = false → (∀ e ∈ ok.after, Region.binds md e = true → e.on ≠ i) → oi.apart ops ok = true := fun k ok hk hki hun hno => by
        refine hfree k ok hk hki ?_ hno
        by_cases hjk : j = k
        · subst hjk; exact hjun
        · rw [getD_set_ne true hjk] at hun; exact hun
      refine wpOp_mono (fun a' w' h3 => ?_) h2
      have hS' : (t.setIfInBounds j true).getD c false = false → S w' := fun hc => h3.2.1 (by
        rw [← Array.setIfInBounds_comm _ _ hji, getD_set_ne false hic]; exact hc)
      refine ⟨hS', ih _ a' w' (shut_set hs hj) hfree' (ready_mono hr (Ne.symm hji)) h3.1 hS' ?_⟩
      rw [Array.setIfInBounds_comm _ _ hji]
      exact h3.2.2
/-- A walk's state: what is shut goes on being so. -/
def Till (P : Program) (md : Region.Mode) (ops : Array Oper) (Q : Exit → Act → World → Prop) (c : Nat) (S : World → Prop) (n : Nat) (t : Array Bool) (a : Act) (w : World) : Prop := Shut md ops t → anyTill P md ops Q c S n t a w
/-- No tactic looks into it. -/
def HeldK (p : Prop) : Prop := p
theorem HeldK.out {p : Prop} (h : HeldK p) : p := h
def dstOf (ops : Array Oper) (i : Nat) : Option Tmp := (ops[i]?).bind (·.dst)
/-- Take number i: a load (b = true: in every world of S), or what yields in whatever world (b = false). -/
theorem till_take (i f : Nat) (b : Bool) {v : Value} {n : Nat} {t : Array Bool} {a : Act} {w : World} (hsel : Region.noSelect ops = true) (hb : (!b || needsB md ops f c i) = true) (hic : (i == c) = false)
    (hf : Region.free md ops t i = true) (hr : (Region.ready md ops t).contains i = true) (hQ : ∀ p a w, Q (.panic p) (a.put (dstOf ops i) v) w → Q (.panic p) a w)
    (hw : (ops[i]?).elim False fun oi => Region.wanted oi (yielded ops a.tmps) = true) (hS : S w)
    (hy : (ops[i]?).elim False fun oi => ∀ w, (b = true → S w) → (execOp a.eval oi).run P w = .ok (.value v) w)
    (h : Till P md ops Q c S n (t.setIfInBounds i true) (a.put (dstOf ops i) v) w) : Till P md ops Q c S (n + 1) t a w := by
  intro hs
  cases hi : ops[i]? with
  | none => rw [hi] at hw; exact hw.elim
  | some oi =>
    rw [hi] at hw hy
    simp only [Option.elim] at hw hy
    have hr' : i ∈ Region.ready md ops t := by simpa using hr
    have hd : dstOf ops i = oi.dst := by unfold dstOf; rw [hi]; rfl
    rw [hd] at h hQ
    refine till_first (b := b) (f := f) hi hsel (fun hbt => by rw [hbt] at hb; simpa using hb) (by simpa using hic) hQ n t a w hs (Region.free_spec hi hf) hr' (.inl ⟨hw, hy⟩) (fun _ => hS) (h (shut_set hs hr'))
/-- One alone may come up: what follows is held back ('K'). -/
theorem till_step (i : Nat) {n : Nat} {t : Array Bool} {a : Act} {w : World} (hr : Region.ready md ops t = [i]) (hg : (t.setIfInBounds i true).getD c false = true)
    (h : ∀ K : Act → World → Prop, HeldK (∀ a' w', Till P md ops Q c S n (t.setIfInBounds i true) a' w' → K a' w') →
      (ops[i]?).elim False fun o => if Region.wanted o (yielded ops a.tmps) = true then Oper.wp P o a w K Q else K (a.put o.dst undef) w) : Till P md ops Q c S (n + 1) t a w := by
  intro hs
  refine ⟨fun h0 => (by rw [hr] at h0; cases h0), fun j hj => ?_⟩
  have hj' : j ∈ Region.ready md ops t := hj
  rw [hr] at hj
  have hji : j = i := by simpa using hj
  subst hji
  have h1 := h _ (fun a' w' h2 => (⟨fun h0 => (by rw [hg] at h0; cases h0), h2 (shut_set hs hj')⟩ : ((t.setIfInBounds j true).getD c false = false → S w') ∧ anyTill P md ops Q c S n (t.setIfInBounds j true) a' w'))
  unfold wpOp
  cases ho : ops[j]? with
  | none => rw [ho] at h1; exact h1.elim
  | some o =>
    rw [ho] at h1
    simp only [Option.elim] at h1 ⊢
    split
    · rename_i hw; rw [if_pos hw] at h1; exact .inl h1
    · rename_i hw; rw [if_neg hw] at h1; exact h1
theorem till_end {t : Array Bool} {a : Act} {w : World} (hr : Region.ready md ops t = []) (h : Q .normal a w) : ∀ n, Till P md ops Q c S n t a w
  | 0 => fun _ => ⟨hr, h⟩
  | _ + 1 => fun _ => ⟨fun _ => h, by rw [hr]; simp⟩
theorem region_till {id : Nat} {a : Act} {w : World} (c : Nat) (S : World → Prop) (hm : P.follows .mixedOrders = true)
    (h : Till P .any ops Q c S ops.size (Array.replicate ops.size false) a { w with drawn := w.drawn + 1 }) : (Code.region id ops true).wp P Q a w :=
  wp_region_any hm (any_of_till _ _ _ _ (h (fun j oj hj hl => by rw [getD_replicate_false] at hl; cases hl)))
end
end Go.Proofs.YtbjligjmckilcaaDoor
