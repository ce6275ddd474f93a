/- What is in a past, from the greatest node down. No Go. -/
import Derived.Test.YtihnnffhpgbgjaaGk
namespace Go.Proofs.Ytihnnffhpgbgjaa
open Gp
namespace Gp
section
variable {G : List Nd} {xs : List Int} {n m : Nd} {p q i j : Nat}
theorem idx_lt (ok : Ok G) (hn : G[p]? = some n) (hm : G[q]? = some m) (h : n.1 < m.1) : p < q := by
  obtain ⟨hp, rfl⟩ := List.getElem?_eq_some_iff.1 hn
  obtain ⟨hq, rfl⟩ := List.getElem?_eq_some_iff.1 hm
  have ha := ok.asc
  unfold ids at ha
  rw [List.pairwise_map] at ha
  rcases Nat.lt_trichotomy p q with e | e | e
  · exact e
  · subst e; omega
  · have := (List.pairwise_iff_getElem.1 ha) q p hq hp e
    omega
theorem idx_eq (ok : Ok G) (hn : G[p]? = some n) (hm : G[q]? = some m) (h : n.1 = m.1) : p = q := by
  obtain ⟨hp, rfl⟩ := List.getElem?_eq_some_iff.1 hn
  obtain ⟨hq, rfl⟩ := List.getElem?_eq_some_iff.1 hm
  have ha := ok.asc
  unfold ids at ha
  rw [List.pairwise_map] at ha
  rcases Nat.lt_trichotomy p q with e | e | e
  · have := (List.pairwise_iff_getElem.1 ha) p q hp hq e
    omega
  · exact e
  · have := (List.pairwise_iff_getElem.1 ha) q p hq hp e
    omega
theorem par_idx (ok : Ok G) (hm : G[q]? = some m) : par G m.1 = m.2 := par_of ok.asc (List.mem_of_getElem? hm)
/-- Marked by a node from place i on. -/
def Amark (G : List Nd) (xs : List Int) (i : Nat) (n : Nd) : Prop := ∃ q m, i ≤ q ∧ G[q]? = some m ∧ m.1 ∈ down G xs ∧ n.1 ∈ m.2
def Pmark (G : List Nd) (xs : List Int) (i j : Nat) (n : Nd) : Prop := (i ≤ j ∧ n.1 ∈ xs) ∨ Amark G xs i n
theorem down_mark (ok : Ok G) (hn : G[p]? = some n) : n.1 ∈ down G xs ↔ n.1 ∈ xs ∨ Amark G xs (p + 1) n := by
  have hnG := ids_of (List.mem_of_getElem? hn)
  constructor
  · intro h
    rcases (mem_down.1 h).2 with q | ⟨y, hy, ha⟩
    · exact .inl q
    · right
      have hyd : y ∈ down G xs := mem_down.2 ⟨(ha.lt ok).2.2, .inl hy⟩
      have go : ∀ y, Anc G n.1 y → y ∈ down G xs → ∃ z, z ∈ down G xs ∧ n.1 ∈ par G z := fun y ha => by
        induction ha with
        | par hp => exact fun hd => ⟨_, hd, hp⟩
        | step hp _ ih => exact fun hd => ih (down_cl ok hd (.par hp))
      obtain ⟨z, hz, hp⟩ := go y ha hyd
      obtain ⟨m, hm, rfl⟩ := mem_ids.1 (mem_down.1 hz).1
      obtain ⟨q, hq⟩ := List.getElem?_of_mem hm
      rw [par_idx ok hq] at hp
      have hlt := ((right_iff.1 (ok.rt m hm)).2.2 _ hp).2
      exact ⟨q, m, idx_lt ok hn hq hlt, hq, hz, hp⟩
  · rintro (h | ⟨q, m, _, hq, hd, hp⟩)
    · exact mem_down.2 ⟨hnG, .inl h⟩
    · exact down_cl ok hd (.par (by rw [par_idx ok hq]; exact hp))
theorem amark_step (hm : G[p]? = some m) : Amark G xs p n ↔ Amark G xs (p + 1) n ∨ (m.1 ∈ down G xs ∧ n.1 ∈ m.2) := by
  constructor
  · rintro ⟨q, k, h1, h2, h3, h4⟩
    by_cases e : q = p
    · subst e
      rw [hm] at h2
      cases h2
      exact .inr ⟨h3, h4⟩
    · exact .inl ⟨q, k, by omega, h2, h3, h4⟩
  · rintro (⟨q, k, h1, h2, h3, h4⟩ | ⟨h3, h4⟩)
    · exact ⟨q, k, by omega, h2, h3, h4⟩
    · exact ⟨p, m, Nat.le_refl _, hm, h3, h4⟩
theorem pmark_end (ok : Ok G) (hn : G[j]? = some n) : Pmark G xs 0 j n ↔ n.1 ∈ down G xs := by
  rw [down_mark ok hn]
  unfold Pmark
  constructor
  · rintro (⟨_, h⟩ | ⟨q, m, _, hq, hd, hp⟩)
    · exact .inl h
    · exact .inr ⟨q, m, idx_lt ok hn hq ((right_iff.1 (ok.rt m (List.mem_of_getElem? hq))).2.2 _ hp).2, hq, hd, hp⟩
  · rintro (h | ⟨q, m, _, hq, hd, hp⟩)
    · exact .inl ⟨Nat.zero_le _, h⟩
    · exact .inr ⟨q, m, Nat.zero_le _, hq, hd, hp⟩
/-- What a list of marks says. -/
structure Bits (G : List Nd) (bl : List Bool) (P : Nat → Nd → Prop) : Prop where
  len : bl.length = G.length
  at_ : ∀ (j : Nat) (n : Nd), G[j]? = some n → (bl[j]? = some true ↔ P j n)
theorem Bits.congr {bl : List Bool} {P P' : Nat → Nd → Prop} (h : Bits G bl P) (hp : ∀ j n, G[j]? = some n → (P' j n ↔ P j n)) : Bits G bl P' := ⟨h.len, fun j n hn => (h.at_ j n hn).trans (hp j n hn).symm⟩
theorem Bits.set {bl : List Bool} {P : Nat → Nd → Prop} (h : Bits G bl P) {t : Nat} (ht : t < G.length) : Bits G (bl.set t true) (fun j n => j = t ∨ P j n) := by
  refine ⟨by rw [List.length_set]; exact h.len, fun j n hn => ?_⟩
  rw [List.getElem?_set]
  by_cases e : t = j
  · subst e
    rw [if_pos rfl, if_pos (by rw [h.len]; exact ht)]
    simp
  · rw [if_neg e, h.at_ j n hn]
    constructor
    · exact .inr
    · rintro (q | q)
      · exact absurd q.symm e
      · exact q
theorem bits_start (G : List Nd) (xs : List Int) : Bits G (List.replicate G.length false) (Pmark G xs G.length) := by
  refine ⟨List.length_replicate, fun j n hn => ?_⟩
  have hj := (List.getElem?_eq_some_iff.1 hn).1
  rw [List.getElem?_replicate, if_pos hj]
  constructor
  · intro q; cases q
  · rintro (⟨q, _⟩ | ⟨q, m, h1, h2, _⟩)
    · omega
    · have := (List.getElem?_eq_some_iff.1 h2).1; omega
/-- The node itself is named, or it isn't. -/
theorem Bits.named {bl : List Bool} (h : Bits G bl (Pmark G xs (p + 1))) (hn : G[p]? = some n) (hx : n.1 ∈ xs) : Bits G (bl.set p true) (fun j m => (p ≤ j ∧ m.1 ∈ xs) ∨ Amark G xs (p + 1) m) :=
  (h.set (List.getElem?_eq_some_iff.1 hn).1).congr fun j m hm => by
    unfold Pmark
    constructor
    · rintro (⟨h1, h2⟩ | h)
      · by_cases e : j = p
        · exact .inl e
        · exact .inr (.inl ⟨by omega, h2⟩)
      · exact .inr (.inr h)
    · rintro (rfl | (⟨h1, h2⟩ | h))
      · rw [hn] at hm; cases hm; exact .inl ⟨Nat.le_refl _, hx⟩
      · exact .inl ⟨by omega, h2⟩
      · exact .inr h
theorem Bits.unnamed {bl : List Bool} (h : Bits G bl (Pmark G xs (p + 1))) (hn : G[p]? = some n) (hx : n.1 ∉ xs) : Bits G bl (fun j m => (p ≤ j ∧ m.1 ∈ xs) ∨ Amark G xs (p + 1) m) :=
  h.congr fun j m hm => by
    unfold Pmark
    constructor
    · rintro (⟨h1, h2⟩ | h)
      · by_cases e : j = p
        · subst e; rw [hn] at hm; cases hm; exact absurd h2 hx
        · exact .inl ⟨by omega, h2⟩
      · exact .inr h
    · rintro (⟨h1, h2⟩ | h)
      · exact .inl ⟨by omega, h2⟩
      · exact .inr h
/-- .. with the first k parents marked. -/
def Kmark (G : List Nd) (xs : List Int) (p : Nat) (n : Nd) (k j : Nat) (m : Nd) : Prop := ((p ≤ j ∧ m.1 ∈ xs) ∨ Amark G xs (p + 1) m) ∨ m.1 ∈ n.2.take k
theorem Bits.parent {bl : List Bool} (ok : Ok G) {k t : Nat} {z : Int} {o : Nd} (h : Bits G bl (Kmark G xs p n k)) (hz : n.2[k]? = some z) (ht : G[t]? = some o) (ho : o.1 = z) : Bits G (bl.set t true) (Kmark G xs p n (k + 1)) :=
  (h.set (List.getElem?_eq_some_iff.1 ht).1).congr fun j m hm => by
    unfold Kmark
    rw [List.take_add_one, hz, List.mem_append]
    constructor
    · rintro (q | q | q)
      · exact .inr (.inl q)
      · exact .inr (.inr q)
      · simp at q; exact .inl (idx_eq ok hm ht (q.trans ho.symm))
    · rintro (rfl | q | q)
      · rw [ht] at hm; cases hm; exact .inr (.inr (by simp [ho]))
      · exact .inl q
      · exact .inr (.inl q)
theorem kmark_yes (hn : G[p]? = some n) (hd : n.1 ∈ down G xs) {j : Nat} {m : Nd} : Pmark G xs p j m ↔ Kmark G xs p n n.2.length j m := by
  unfold Pmark Kmark
  rw [amark_step hn, List.take_length]
  constructor
  · rintro (h | h | ⟨_, h⟩)
    · exact .inl (.inl h)
    · exact .inl (.inr h)
    · exact .inr h
  · rintro ((h | h) | h)
    · exact .inl h
    · exact .inr (.inl h)
    · exact .inr (.inr ⟨hd, h⟩)
theorem kmark_no (hn : G[p]? = some n) (hd : n.1 ∉ down G xs) {j : Nat} {m : Nd} : Pmark G xs p j m ↔ Kmark G xs p n 0 j m := by
  unfold Pmark Kmark
  rw [amark_step hn]
  constructor
  · rintro (h | h | ⟨h, _⟩)
    · exact .inl (.inl h)
    · exact .inl (.inr h)
    · exact absurd h hd
  · rintro ((h | h) | h)
    · exact .inl h
    · exact .inr (.inl h)
    · simp at h
theorem kmark_self (ok : Ok G) (hn : G[p]? = some n) {k : Nat} : Kmark G xs p n k p n ↔ n.1 ∈ down G xs := by
  unfold Kmark
  rw [down_mark ok hn]
  constructor
  · rintro ((⟨_, h⟩ | h) | h)
    · exact .inl h
    · exact .inr h
    · have := ((right_iff.1 (ok.rt n (List.mem_of_getElem? hn))).2.2 _ (List.mem_of_mem_take h)).2
      omega
  · rintro (h | h)
    · exact .inl (.inl ⟨Nat.le_refl _, h⟩)
    · exact .inl (.inr h)
end
end Gp
end Go.Proofs.Ytihnnffhpgbgjaa
