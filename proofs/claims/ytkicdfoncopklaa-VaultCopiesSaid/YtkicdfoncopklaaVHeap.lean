/- A vault in memory. -/
import Derived.Test.YtkicdfoncopklaaVSpec
import Derived.Test.YtkicdfoncopklaaObj
namespace Go.Proofs.Ytkicdfoncopklaa
open Go.RowKit Go.Maps Go.ChangeMaps Go.MapKept
open Vp

/-- What belongs to a key: whether it was destroyed, the slice of its texts, and these. -/
structure Bun where
  gone : Bool
  v : Value
  ts : List ByteArray
def bunVs : List Bun → List Value
  | [] => []
  | p :: l => .bool p.gone :: p.v :: bunVs l
def plVs : List (Nat × Nat) → List Value
  | [] => []
  | p :: l => .int .i64 (p.1 : Int) :: .int .i64 (p.2 : Int) :: plVs l
theorem bunVs_length (l : List Bun) : (bunVs l).length = l.length * 2 := by
  induction l with
  | nil => rfl
  | cons a l ih => simp [bunVs, ih]; omega
theorem plVs_length (l : List (Nat × Nat)) : (plVs l).length = l.length * 2 := by
  induction l with
  | nil => rfl
  | cons a l ih => simp [plVs, ih]; omega
theorem bunVs_app (l m : List Bun) : bunVs (l ++ m) = bunVs l ++ bunVs m := by
  induction l with
  | nil => rfl
  | cons a l ih => simp [bunVs, ih]
theorem plVs_app (l m : List (Nat × Nat)) : plVs (l ++ m) = plVs l ++ plVs m := by
  induction l with
  | nil => rfl
  | cons a l ih => simp [plVs, ih]
theorem bun_at {l : List Bun} {k : Nat} {p : Bun} (h : l[k]? = some p) : (bunVs l)[k * 2]? = some (.bool p.gone) ∧ (bunVs l)[k * 2 + 1]? = some p.v := by
  induction l generalizing k with
  | nil => simp at h
  | cons a l ih =>
    cases k with
    | zero => simp at h; subst h; exact ⟨rfl, rfl⟩
    | succ k =>
      have := ih (k := k) (by simpa using h)
      rw [show (k + 1) * 2 = k * 2 + 1 + 1 by omega]
      simpa [bunVs] using this
theorem pl_at {l : List (Nat × Nat)} {k : Nat} {p : Nat × Nat} (h : l[k]? = some p) : (plVs l)[k * 2]? = some (.int .i64 (p.1 : Int)) ∧ (plVs l)[k * 2 + 1]? = some (.int .i64 (p.2 : Int)) := by
  induction l generalizing k with
  | nil => simp at h
  | cons a l ih =>
    cases k with
    | zero => simp at h; subst h; exact ⟨rfl, rfl⟩
    | succ k =>
      have := ih (k := k) (by simpa using h)
      rw [show (k + 1) * 2 = k * 2 + 1 + 1 by omega]
      simpa [plVs] using this
theorem bun_set (l : List Bun) (k : Nat) (p : Bun) : bunVs (l.set k p) = ((bunVs l).set (k * 2) (.bool p.gone)).set (k * 2 + 1) p.v := by
  induction l generalizing k with
  | nil => simp [bunVs]
  | cons a l ih =>
    cases k with
    | zero => rfl
    | succ k =>
      rw [show (k + 1) * 2 = k * 2 + 1 + 1 by omega]
      simp [bunVs, ih]
theorem bun_set_v {l : List Bun} {k : Nat} {p : Bun} (h : l[k]? = some p) (u : Value) (ts : List ByteArray) : bunVs (l.set k ⟨p.gone, u, ts⟩) = (bunVs l).set (k * 2 + 1) u := by
  rw [bun_set, set_noop (bun_at h).1]

/-- What the keys and places say of a vault. -/
structure Rep (ks : List Bun) (ps : List (Nat × Nat)) (V : Vt) : Prop where
  good : V.good = ks.map fun p => !p.gone
  of : ps.map (·.1) = V.boxes.map (·.1)
  lt : ∀ q ∈ ps, q.1 < ks.length
  text : ∀ (j : Nat) (q : Nat × Nat) (x : Nat × ByteArray) (p : Bun), ps[j]? = some q → V.boxes[j]? = some x → ks[q.1]? = some p → p.gone = false → p.ts[q.2]? = some x.2
  few : ∀ p ∈ ks, p.ts.length ≤ ps.length
theorem Rep.keys {ks : List Bun} {ps : List (Nat × Nat)} {V : Vt} (h : Rep ks ps V) : ks.length = V.good.length := by rw [h.good, List.length_map]
theorem Rep.places {ks : List Bun} {ps : List (Nat × Nat)} {V : Vt} (h : Rep ks ps V) : ps.length = V.boxes.length := by
  have := congrArg List.length h.of; simpa using this
theorem Rep.st {ks : List Bun} {ps : List (Nat × Nat)} {V : Vt} (h : Rep ks ps V) {k : Nat} {p : Bun} (hk : ks[k]? = some p) : st V k = if p.gone then 2 else 1 := by
  have hlt := (List.getElem?_eq_some_iff.1 hk).1
  have hg : V.good[k]? = some (!p.gone) := by rw [h.good, List.getElem?_map, hk]; rfl
  have hl : k < V.good.length := by rw [← h.keys]; exact hlt
  rw [st_some hl, (List.getElem?_eq_some_iff.1 hg).2]
  cases p.gone <;> rfl
theorem Rep.box {ks : List Bun} {ps : List (Nat × Nat)} {V : Vt} (h : Rep ks ps V) {j : Nat} {q : Nat × Nat} (hq : ps[j]? = some q) : ∃ s, V.boxes[j]? = some (q.1, s) := by
  have hj := (List.getElem?_eq_some_iff.1 hq).1
  rw [h.places] at hj
  have h1 : (ps.map (·.1))[j]? = some q.1 := by rw [List.getElem?_map, hq]; rfl
  rw [h.of, List.getElem?_map, List.getElem?_eq_getElem hj] at h1
  simp at h1
  exact ⟨V.boxes[j].2, by rw [List.getElem?_eq_getElem hj, ← h1]⟩
theorem rep_empty : Rep [] [] empty := ⟨rfl, rfl, fun q h => (by cases h), fun j q x p h => (by simp at h), fun p h => (by cases h)⟩
/-- Another lot of slices with the same in them. -/
theorem Rep.same {ks ks' : List Bun} {ps : List (Nat × Nat)} {V : Vt} (h : Rep ks ps V) (he : ks'.map (fun p => (p.gone, p.ts)) = ks.map (fun p => (p.gone, p.ts))) : Rep ks' ps V := by
  have hl : ks'.length = ks.length := by have := congrArg List.length he; simpa using this
  have at_ : ∀ (k : Nat) (p : Bun), ks'[k]? = some p → ∃ p', ks[k]? = some p' ∧ p'.gone = p.gone ∧ p'.ts = p.ts := fun k p hp => by
    have h1 : (ks'.map (fun p => (p.gone, p.ts)))[k]? = some (p.gone, p.ts) := by rw [List.getElem?_map, hp]; rfl
    rw [he, List.getElem?_map] at h1
    cases hk : ks[k]? with
    | none => rw [hk] at h1; cases h1
    | some p' => rw [hk] at h1; simp at h1; exact ⟨p', rfl, h1.1, h1.2⟩
  refine ⟨?_, h.of, fun q hq => by rw [hl]; exact h.lt q hq, fun j q x p hj hx hp hg => ?_, fun p hp => ?_⟩
  · rw [h.good]
    have := congrArg (List.map (fun z : Bool × List ByteArray => !z.1)) he
    rw [List.map_map, List.map_map] at this
    exact this.symm
  · obtain ⟨p', h1, h2, h3⟩ := at_ _ p hp
    rw [← h3]; exact h.text j q x p' hj hx h1 (h2.trans hg)
  · obtain ⟨k, hk⟩ := List.mem_iff_getElem?.1 hp
    obtain ⟨p', h1, _, h3⟩ := at_ k p hk
    rw [← h3]; exact h.few p' (List.mem_of_getElem? h1)
theorem Rep.key {ks : List Bun} {ps : List (Nat × Nat)} {V : Vt} (h : Rep ks ps V) : Rep (ks ++ [⟨false, .slice none 0 0, []⟩]) ps (Vp.key V) := by
  refine ⟨by simp [Vp.key, h.good], h.of, fun q hq => by have := h.lt q hq; simp; omega, fun j q x p hj hx hp hg => ?_, fun p hp => ?_⟩
  · have := h.lt q (List.mem_of_getElem? hj)
    rw [List.getElem?_append_left this] at hp
    exact h.text j q x p hj hx hp hg
  · rcases List.mem_append.1 hp with q | q
    · exact h.few p q
    · simp at q; subst q; exact Nat.zero_le _
theorem Rep.destroy {ks : List Bun} {ps : List (Nat × Nat)} {V : Vt} (h : Rep ks ps V) {k : Nat} {p : Bun} (hk : ks[k]? = some p) (hp : p.gone = false) : Rep (ks.set k ⟨true, .slice none 0 0, []⟩) ps (Vp.destroy V k).2 := by
  have hs := h.st hk
  rw [hp] at hs
  have hd : (Vp.destroy V k).2 = { V with good := V.good.set k false } := by unfold Vp.destroy; rw [hs]; simp
  rw [hd]
  refine ⟨by simp [h.good, List.map_set], h.of, fun q hq => by have := h.lt q hq; simpa using this, fun j q x p' hj hx hp' hg => ?_, fun p' hp' => ?_⟩
  · rw [List.getElem?_set] at hp'
    split at hp'
    · split at hp'
      · cases hp'; cases hg
      · cases hp'
    · exact h.text j q x p' hj hx hp' hg
  · rcases List.mem_or_eq_of_mem_set hp' with q | q
    · exact h.few p' q
    · subst q; exact Nat.zero_le _
theorem Rep.lock {ks : List Bun} {ps : List (Nat × Nat)} {V : Vt} (h : Rep ks ps V) {k : Nat} {p : Bun} (hk : ks[k]? = some p) (hp : p.gone = false) (s : ByteArray) (u : Value) : Rep (ks.set k ⟨p.gone, u, p.ts ++ [s]⟩) (ps ++ [(k, p.ts.length)]) (Vp.lock V k s).2 := by
  have hs := h.st hk
  rw [hp] at hs
  have hlt := (List.getElem?_eq_some_iff.1 hk).1
  have hd : (Vp.lock V k s).2 = { V with boxes := V.boxes ++ [(k, s)] } := by unfold Vp.lock; rw [hs]; simp
  rw [hd]
  have hpl := h.places
  refine ⟨?_, by simp [h.of], fun q hq => ?_, fun j q x p' hj hx hp' hg => ?_, fun p' hp' => ?_⟩
  · simp only [h.good, List.map_set]
    exact (set_noop (by rw [List.getElem?_map, hk]; rfl)).symm
  · rcases List.mem_append.1 hq with z | z
    · have := h.lt q z; simpa using this
    · simp at z; subst z; simpa using hlt
  · rcases Nat.lt_or_ge j ps.length with hl | hl
    · rw [List.getElem?_append_left hl] at hj
      rw [List.getElem?_append_left (by rw [← hpl]; exact hl)] at hx
      rw [List.getElem?_set] at hp'
      split at hp'
      · rename_i e
        cases hp'
        have := h.text j q x p hj hx (by rw [← e]; exact hk) hp
        rw [List.getElem?_append_left (List.getElem?_eq_some_iff.1 this).1]
        exact this
      · exact h.text j q x p' hj hx hp' hg
    · rw [List.getElem?_append_right hl] at hj
      rw [List.getElem?_append_right (by rw [← hpl]; exact hl), ← hpl] at hx
      have hz : j - ps.length = 0 := by
        rcases Nat.eq_zero_or_pos (j - ps.length) with h | h
        · exact h
        · rw [List.getElem?_eq_none (by simp; omega)] at hj; cases hj
      rw [hz] at hj hx
      simp at hj hx
      subst hj; subst hx
      rw [List.getElem?_set_self hlt] at hp'
      cases hp'
      simp
  · rcases List.mem_or_eq_of_mem_set hp' with q | q
    · have := h.few p' q; simp; omega
    · subst q; have := h.few p (List.mem_of_getElem? hk); simp; omega

/-- No two of a vault's slices lie in one block. -/
structure Apart (b : Nat) (v u : Value) (ks : List Bun) : Prop where
  bv : v.ownBlock ≠ some b
  bu : u.ownBlock ≠ some b
  vu : ∀ x, v.ownBlock = some x → u.ownBlock ≠ some x
  bt : ∀ p ∈ ks, p.v.ownBlock ≠ some b
  vt : ∀ p ∈ ks, ∀ x, p.v.ownBlock = some x → v.ownBlock ≠ some x
  ut : ∀ p ∈ ks, ∀ x, p.v.ownBlock = some x → u.ownBlock ≠ some x
  tt : ∀ (i j : Nat) (p q : Bun), ks[i]? = some p → ks[j]? = some q → i ≠ j → ∀ x, p.v.ownBlock = some x → q.v.ownBlock ≠ some x
/-- The blocks of a vault. -/
def Its (b : Nat) (v u : Value) (ks : List Bun) (x : Nat) : Prop := x = b ∨ v.ownBlock = some x ∨ u.ownBlock = some x ∨ ∃ p ∈ ks, p.v.ownBlock = some x
theorem Its.v {b x : Nat} {v u : Value} {ks : List Bun} (h : v.ownBlock = some x) : Its b v u ks x := .inr (.inl h)
theorem Its.u {b x : Nat} {v u : Value} {ks : List Bun} (h : u.ownBlock = some x) : Its b v u ks x := .inr (.inr (.inl h))
theorem Its.t {b x : Nat} {v u : Value} {ks : List Bun} {p : Bun} (hp : p ∈ ks) (h : p.v.ownBlock = some x) : Its b v u ks x := .inr (.inr (.inr ⟨p, hp, h⟩))
section
variable {b n : Nat} {v u v' u' : Value} {ks : List Bun}
theorem Apart.keys (h : Apart b v u ks) (hlt : ∀ x, Its b v u ks x → x < n) (hv : v'.ownBlock = v.ownBlock ∨ ∀ x, v'.ownBlock = some x → n ≤ x) : Apart b v' u ks := by
  rcases hv with hv | hv
  · exact ⟨by rw [hv]; exact h.bv, h.bu, by rw [hv]; exact h.vu, h.bt, by rw [hv]; exact h.vt, h.ut, h.tt⟩
  · refine ⟨fun e => ?_, h.bu, fun x e q => ?_, h.bt, fun p hp x e q => ?_, h.ut, h.tt⟩
    · have := hv _ e; have := hlt _ (.inl rfl); omega
    · have := hv _ e; have := hlt _ (.u q); omega
    · have := hv _ q; have := hlt _ (.t hp e); omega
theorem Apart.places (h : Apart b v u ks) (hlt : ∀ x, Its b v u ks x → x < n) (hu : u'.ownBlock = u.ownBlock ∨ ∀ x, u'.ownBlock = some x → n ≤ x) : Apart b v u' ks := by
  rcases hu with hu | hu
  · exact ⟨h.bv, by rw [hu]; exact h.bu, by rw [hu]; exact h.vu, h.bt, h.vt, by rw [hu]; exact h.ut, h.tt⟩
  · refine ⟨h.bv, fun e => ?_, fun x e q => ?_, h.bt, h.vt, fun p hp x e q => ?_, h.tt⟩
    · have := hu _ e; have := hlt _ (.inl rfl); omega
    · have := hu _ q; have := hlt _ (.v e); omega
    · have := hu _ q; have := hlt _ (.t hp e); omega
theorem Apart.texts (h : Apart b v u ks) (hlt : ∀ x, Its b v u ks x → x < n) {k : Nat} {p q : Bun} (hk : ks[k]? = some p) (ht : q.v.ownBlock = p.v.ownBlock ∨ ∀ x, q.v.ownBlock = some x → n ≤ x) : Apart b v u (ks.set k q) := by
  have hm := List.mem_of_getElem? hk
  have key : ∀ r ∈ ks.set k q, ∀ x, r.v.ownBlock = some x → (∃ r' ∈ ks, r'.v.ownBlock = some x) ∨ n ≤ x := fun r hr x e => by
    rcases List.mem_or_eq_of_mem_set hr with z | z
    · exact .inl ⟨r, z, e⟩
    · subst z
      rcases ht with ht | ht
      · exact .inl ⟨p, hm, ht.symm.trans e⟩
      · exact .inr (ht x e)
  refine ⟨h.bv, h.bu, h.vu, fun r hr e => ?_, fun r hr x e z => ?_, fun r hr x e z => ?_, fun i j r s hi hj hne x e z => ?_⟩
  · rcases key r hr _ e with ⟨r', h1, h2⟩ | h1
    · exact h.bt r' h1 h2
    · have := hlt _ (.inl rfl); omega
  · rcases key r hr x e with ⟨r', h1, h2⟩ | h1
    · exact h.vt r' h1 x h2 z
    · have := hlt _ (.v z); omega
  · rcases key r hr x e with ⟨r', h1, h2⟩ | h1
    · exact h.ut r' h1 x h2 z
    · have := hlt _ (.u z); omega
  · rw [List.getElem?_set] at hi hj
    have hkl := (List.getElem?_eq_some_iff.1 hk).1
    by_cases h1 : k = i
    · rw [if_pos h1, if_pos hkl] at hi
      rw [if_neg (by omega)] at hj
      cases hi
      subst h1
      rcases ht with ht | ht
      · exact h.tt k j p s hk hj hne x (ht.symm.trans e) z
      · have := ht x e; have := hlt _ (.t (List.mem_of_getElem? hj) z); omega
    · rw [if_neg h1] at hi
      by_cases h2 : k = j
      · rw [if_pos h2, if_pos hkl] at hj
        cases hj
        subst h2
        rcases ht with ht | ht
        · exact h.tt i k r p hi hk hne x e (ht.symm.trans z)
        · have := ht x z; have := hlt _ (.t (List.mem_of_getElem? hi) e); omega
      · rw [if_neg h2] at hj
        exact h.tt i j r s hi hj hne x e z
theorem Apart.push (h : Apart b v u ks) {q : Bun} (hq : ∀ x, q.v.ownBlock ≠ some x) : Apart b v u (ks ++ [q]) := by
  have key : ∀ r ∈ ks ++ [q], ∀ x, r.v.ownBlock = some x → r ∈ ks := fun r hr x e => by
    rcases List.mem_append.1 hr with z | z
    · exact z
    · simp at z; subst z; exact absurd e (hq x)
  have at_ : ∀ (i : Nat) (r : Bun) (x : Nat), (ks ++ [q])[i]? = some r → r.v.ownBlock = some x → ks[i]? = some r := fun i r x hi e => by
    rcases Nat.lt_or_ge i ks.length with hl | hl
    · rwa [List.getElem?_append_left hl] at hi
    · rw [List.getElem?_append_right hl] at hi
      have := List.mem_of_getElem? hi
      simp at this; subst this; exact absurd e (hq x)
  exact ⟨h.bv, h.bu, h.vu, fun r hr e => h.bt r (key r hr _ e) e, fun r hr x e => h.vt r (key r hr x e) x e, fun r hr x e => h.ut r (key r hr x e) x e,
    fun i j r s hi hj hne x e z => h.tt i j r s (at_ i r x hi e) (at_ j s x hj z) hne x e z⟩
end
structure VC (w : World) (b : Nat) (V : Vt) (v u : Value) (ks : List Bun) (ps : List (Nat × Nat)) : Prop where
  blk : w.heap[b]? = some (.cells #[v, u] 54 (0, 0))
  krow : w.ownsRow 0 58 2 v ks.length (bunVs ks)
  prow : w.ownsRow 0 56 2 u ps.length (plVs ps)
  trow : ∀ p ∈ ks, w.ownsRow 0 9 1 p.v p.ts.length (strVs p.ts)
  ap : Apart b v u ks
  rep : Rep ks ps V
section
variable {w0 w w' : World} {os : List Ob} {i b : Nat} {V V' : Vt} {v u v' u' : Value} {ks ks' : List Bun} {ps ps' : List (Nat × Nat)}
theorem VC.lt (h : VC w b V v u ks ps) (x : Nat) (hx : Its b v u ks x) : x < w.heap.size := by
  rcases hx with rfl | hx | hx | ⟨p, hp, hx⟩
  · exact lt_heap h.blk
  · exact (h.krow.lt x hx).2
  · exact (h.prow.lt x hx).2
  · exact ((h.trow p hp).lt x hx).2
theorem VC.kept (h : VC w b V v u ks ps) (hb : ∀ x, Its b v u ks x → w'.heap[x]? = w.heap[x]?) : VC w' b V v u ks ps :=
  ⟨(hb b (.inl rfl)).trans h.blk, ownsRow_block h.krow fun x hx => hb x (.inr (.inl hx)), ownsRow_block h.prow fun x hx => hb x (.inr (.inr (.inl hx))),
    fun p hp => ownsRow_block (h.trow p hp) fun x hx => hb x (.inr (.inr (.inr ⟨p, hp, hx⟩))), h.ap, h.rep⟩
theorem VC.fresh (h : VC w b V v u ks ps) (hb : Below w.heap.size w w') : VC w' b V v u ks ps := h.kept fun x hx => hb.block x (h.lt x hx)
def vaultK (b : Nat) (V : Vt) : Kind where
  Q w B := ∃ v u ks ps, VC w b V v u ks ps ∧ ∀ x, B x ↔ Its b v u ks x
  lt := fun ⟨_, _, _, _, h, hB⟩ x hx => h.lt x ((hB x).1 hx)
  kept := fun ⟨v, u, ks, ps, h, hB⟩ hb => ⟨v, u, ks, ps, h.kept fun x hx => hb x ((hB x).2 hx), hB⟩
/-- A vault in block b. -/
def Ob.vault (b : Nat) (V : Vt) : Ob := .of (vaultK b V)
/-- What may change in a vault, and where it lies then. -/
def Changes (w0 w : World) (os : List Ob) (i b : Nat) (v u : Value) (ks : List Bun) : Prop := ∀ (w' : World) (V' : Vt) (v' u' : Value) (ks' : List Bun) (ps' : List (Nat × Nat)), w'.os = w.os → w'.tape = w.tape → w'.output = w.output → w.heap.size ≤ w'.heap.size →
    (∀ x, x < w.heap.size → ¬ Its b v u ks x → w'.heap[x]? = w.heap[x]?) → VC w' b V' v' u' ks' ps' → (∀ x, Its b v' u' ks' x → Its b v u ks x ∨ w.heap.size ≤ x) → OMem w0 w' (os.set i (.vault b V'))
theorem OMem.vault (h : OMem w0 w os) (hi : os[i]? = some (.vault b V)) : ∃ v u ks ps, VC w b V v u ks ps ∧ Changes w0 w os i b v u ks := by
  obtain ⟨B, ⟨v, u, ks, ps, hc, hB⟩, hch⟩ := h.change hi
  exact ⟨v, u, ks, ps, hc, fun w' V' v' u' ks' ps' hos ht ho hs hb hc' hn => hch hos ht ho hs (fun x hx hn => hb x hx fun q => hn ((hB x).2 q)) (K' := vaultK b V') (B' := Its b v' u' ks') ⟨v', u', ks', ps', hc', fun _ => Iff.rfl⟩ fun x hx => (hn x hx).imp_left (hB x).2⟩
theorem OMem.vaultNew (h : OMem w0 w os) (hb : Below w.heap.size w w') (hc : VC w' b V v u ks ps) (hn : ∀ x, Its b v u ks x → w.heap.size ≤ x) : OMem w0 w' (os ++ [.vault b V]) :=
  h.make hb (K := vaultK b V) (B := Its b v u ks) ⟨v, u, ks, ps, hc, fun _ => Iff.rfl⟩ hn
theorem VC.c0 (h : VC w b V v u ks ps) : w.cell? ⟨b, 0, none⟩ = some v := by rw [Lib.cell_of_heap h.blk]; rfl
theorem VC.c1 (h : VC w b V v u ks ps) : w.cell? ⟨b, 1, none⟩ = some u := by rw [Lib.cell_of_heap h.blk]; rfl
theorem VC.fz (h : VC w b V v u ks ps) (i : Nat) : w.frozen? ⟨b, i, none⟩ = false := Lib.frozen_of_heap h.blk i
theorem VC.vform (h : VC w b V v u ks ps) : ∃ a c, v = .slice a V.good.length c := by
  obtain ⟨a, c, rfl⟩ := own_form h.krow; exact ⟨a, c, by rw [h.rep.keys]⟩
theorem VC.uform (h : VC w b V v u ks ps) : ∃ a c, u = .slice a V.boxes.length c := by
  obtain ⟨a, c, rfl⟩ := own_form h.prow; exact ⟨a, c, by rw [h.rep.places]⟩
/-- A key that there is: where it lies. -/
theorem VC.key (h : VC w b V v u ks ps) {k : Nat} (hk : k < V.good.length) : ∃ g c p, v = .slice (some ⟨g, 0, none⟩) V.good.length c ∧ ks[k]? = some p ∧ st V k = (if p.gone then 2 else 1) ∧ w.cell? ⟨g, k * 2, none⟩ = some (.bool p.gone) ∧ w.cell? ⟨g, k * 2 + 1, none⟩ = some p.v ∧ ∀ j, w.frozen? ⟨g, j, none⟩ = false := by
  have hl : k < ks.length := by rw [h.rep.keys]; exact hk
  obtain ⟨g, c, rfl⟩ := own_some h.krow (by omega)
  have hp := List.getElem?_eq_getElem hl
  exact ⟨g, c, ks[k], by rw [h.rep.keys], hp, h.rep.st hp, own_at h.krow (bun_at hp).1, own_at h.krow (bun_at hp).2, own_fz h.krow⟩
theorem VC.place (h : VC w b V v u ks ps) {j : Nat} (hj : j < V.boxes.length) : ∃ g c q s, u = .slice (some ⟨g, 0, none⟩) V.boxes.length c ∧ ps[j]? = some q ∧ V.boxes[j]? = some (q.1, s) ∧ q.1 < V.good.length ∧ w.cell? ⟨g, j * 2, none⟩ = some (.int .i64 (q.1 : Int)) ∧ w.cell? ⟨g, j * 2 + 1, none⟩ = some (.int .i64 (q.2 : Int)) := by
  have hl : j < ps.length := by rw [h.rep.places]; exact hj
  obtain ⟨g, c, rfl⟩ := own_some h.prow (by omega)
  have hp := List.getElem?_eq_getElem hl
  obtain ⟨s, hs⟩ := h.rep.box hp
  exact ⟨g, c, ps[j], s, by rw [h.rep.places], hp, hs, by rw [← h.rep.keys]; exact h.rep.lt _ (List.getElem_mem hl), own_at h.prow (pl_at hp).1, own_at h.prow (pl_at hp).2⟩
end
end Go.Proofs.Ytkicdfoncopklaa
