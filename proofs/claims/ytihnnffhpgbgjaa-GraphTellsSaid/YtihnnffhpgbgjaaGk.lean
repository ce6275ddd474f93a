/- Graphs: nodes that are added again and again, until nothing new is accepted. No Go. -/
import Derived.Test.YtihnnffhpgbgjaaGl
namespace Go.Proofs.Ytihnnffhpgbgjaa
namespace Gp
/-- All nodes of a list are added, one after the other. -/
def adds (G : List Nd) (l : List Nd) : List Nd := l.foldl (fun g n => (add g n).2) G
theorem adds_snoc (G : List Nd) (l : List Nd) (n : Nd) : adds G (l ++ [n]) = (add (adds G l) n).2 := by unfold adds; rw [List.foldl_append]; rfl
theorem adds_take (G : List Nd) {l : List Nd} {k : Nat} {n : Nd} (h : l[k]? = some n) : adds G (l.take (k + 1)) = (add (adds G (l.take k)) n).2 := by
  rw [List.take_add_one, h]; exact adds_snoc _ _ _
theorem adds_ok {G : List Nd} (ok : Ok G) (l : List Nd) : Ok (adds G l) := by
  induction l generalizing G with
  | nil => exact ok
  | cons n l ih => exact ih (add_ok ok n)
/-- What an addition does. -/
theorem add_cases (G : List Nd) (n : Nd) : ((add G n).2 = G) ∨ (add G n = (0, ins n G) ∧ right n = true ∧ n.1 ∉ ids G ∧ ∀ p ∈ n.2, p ∈ ids G) := by
  unfold add
  split
  · rename_i hr
    split
    · exact .inl rfl
    · rename_i hn
      split
      · rename_i hp
        exact .inr ⟨rfl, hr, hn, hp⟩
      · exact .inl rfl
  · exact .inl rfl
theorem add_len (G : List Nd) (n : Nd) : G.length ≤ (add G n).2.length ∧ ((add G n).2.length = G.length → (add G n).2 = G) := by
  rcases add_cases G n with h | ⟨h, _⟩
  · rw [h]; exact ⟨Nat.le_refl _, fun _ => rfl⟩
  · rw [h]
    show G.length ≤ (ins n G).length ∧ ((ins n G).length = G.length → ins n G = G)
    rw [ins_len]; exact ⟨by omega, fun h => by omega⟩
theorem adds_len (l : List Nd) : ∀ G : List Nd, G.length ≤ (adds G l).length ∧ ((adds G l).length = G.length → ∀ k, adds G (l.take k) = G) := by
  induction l with
  | nil => exact fun G => ⟨Nat.le_refl _, fun _ k => by simp [adds]⟩
  | cons n l ih =>
    intro G
    obtain ⟨h1, h2⟩ := add_len G n
    obtain ⟨h3, h4⟩ := ih (add G n).2
    refine ⟨Nat.le_trans h1 h3, fun h k => ?_⟩
    have h : (adds (add G n).2 l).length = G.length := h
    have e := h2 (by omega)
    cases k with
    | zero => rfl
    | succ k =>
      show adds (add G n).2 (l.take k) = G
      rw [h4 (by omega), e]
/-- Nothing of a round is new: no addition changes anything. -/
theorem round_still {G l : List Nd} (h : (adds G l).length = G.length) : adds G l = G ∧ ∀ n ∈ l, (add G n).2 = G := by
  have h1 := (adds_len l G).2 h
  refine ⟨by have := h1 l.length; rwa [List.take_length] at this, fun n hn => ?_⟩
  obtain ⟨k, hk⟩ := List.mem_iff_getElem?.1 hn
  have := adds_take G hk
  rw [h1, h1] at this
  exact this.symm
theorem adds_from {l : List Nd} : ∀ {m : List Nd} {G : List Nd}, (∀ n ∈ G, n ∈ l) → (∀ n ∈ m, n ∈ l) → ∀ n ∈ adds G m, n ∈ l
  | [], _, h, _ => h
  | a :: m, G, h, hm => adds_from (m := m) (G := (add G a).2) (fun n hn => by
      rcases add_cases G a with e | ⟨e, _⟩
      · rw [e] at hn; exact h n hn
      · rw [e] at hn
        rcases mem_ins.1 hn with rfl | hn
        · exact hm n (by simp)
        · exact h n hn) fun n hn => hm n (by simp [hn])
/-- A graph of nodes of a list has no more nodes than the list. -/
theorem few_nodes {G l : List Nd} (ok : Ok G) (h : ∀ n ∈ G, n ∈ l) : G.length ≤ l.length := by
  have hn : G.Nodup := (List.pairwise_map.1 ok.asc).imp fun {a b} h e => by subst e; omega
  exact hn.length_le_of_subset h
/-- Rounds, until nothing is new, at most f of them. -/
def rounds (l : List Nd) : Nat → List Nd → List Nd
  | 0, G => G
  | f + 1, G => if (adds G l).length = G.length then adds G l else rounds l f (adds G l)
def known (l : List Nd) : List Nd := rounds l (l.length + 1) []
/-- The end of the rounds: a graph of nodes of the list to which nothing can be added. -/
structure Full (l G : List Nd) : Prop where
  ok : Ok G
  sub : ∀ n ∈ G, n ∈ l
  still : ∀ n ∈ l, (add G n).2 = G
theorem rounds_full (l : List Nd) : ∀ (f : Nat) (G : List Nd), Ok G → (∀ n ∈ G, n ∈ l) → l.length + 1 ≤ f + G.length → Full l (rounds l f G)
  | 0, G, ok, hs, hf => by have := few_nodes ok hs; omega
  | f + 1, G, ok, hs, hf => by
    unfold rounds
    have hs2 := adds_from hs (fun n hn => hn : ∀ n ∈ l, n ∈ l)
    have ok2 := adds_ok ok l
    by_cases h : (adds G l).length = G.length
    · rw [if_pos h]
      obtain ⟨h1, h2⟩ := round_still h
      rw [h1]
      exact ⟨ok, hs, h2⟩
    · rw [if_neg h]
      have := (adds_len l G).1
      exact rounds_full l f _ ok2 hs2 (by omega)
theorem known_full (l : List Nd) : Full l (known l) := rounds_full l _ [] ok_nil (fun _ h => by cases h) (by simp)
/-- Nodes that can come in. -/
inductive Acc (l : List Nd) : Nd → Prop
  | mk {n : Nd} (f : Int → Nd) (hl : n ∈ l) (hr : right n = true) (hf : ∀ p ∈ n.2, (f p).1 = p) (hp : ∀ p ∈ n.2, Acc l (f p)) : Acc l n
open Classical in
theorem acc_mk {l : List Nd} {n : Nd} (hl : n ∈ l) (hr : right n = true) (hp : ∀ p ∈ n.2, ∃ m : Nd, m.1 = p ∧ Acc l m) : Acc l n :=
  .mk (fun p => if h : p ∈ n.2 then (hp p h).choose else n) hl hr (fun p h => by rw [dif_pos h]; exact (hp p h).choose_spec.1) fun p h => by rw [dif_pos h]; exact (hp p h).choose_spec.2
theorem acc_in {l : List Nd} {n : Nd} (h : Acc l n) : n ∈ l := by cases h; assumption
/-- Different ids. -/
def Apart (l : List Nd) : Prop := ∀ n ∈ l, ∀ m ∈ l, n.1 = m.1 → n = m
theorem full_mem {l G : List Nd} (hd : Apart l) (h : Full l G) (n : Nd) : n ∈ G ↔ Acc l n := by
  constructor
  · intro hn
    have key : ∀ (k : Nat) (n : Nd), n.1.toNat < k → n ∈ G → Acc l n := by
      intro k
      induction k with
      | zero => intro n hk; omega
      | succ k ih =>
        intro n hk hn
        have hr := h.ok.rt n hn
        refine acc_mk (h.sub n hn) hr fun p hp => ?_
        obtain ⟨m, hm, e⟩ := mem_ids.1 (h.ok.cl n hn p hp)
        have := (right_iff.1 hr).2.2 p hp
        exact ⟨m, e, ih m (by omega) hm⟩
    exact key _ n (Nat.lt_succ_self _) hn
  · intro hn
    induction hn with
    | @mk n f hl hr hf _ ih =>
      have hs := h.still n hl
      by_cases hi : n.1 ∈ ids G
      · obtain ⟨m, hm, e⟩ := mem_ids.1 hi
        rw [← hd m (h.sub m hm) n hl e]
        exact hm
      · exfalso
        have hp : ∀ p ∈ n.2, p ∈ ids G := fun p hp => mem_ids.2 ⟨f p, ih p hp, hf p hp⟩
        have : (add G n).2 = ins n G := by unfold add; rw [if_pos hr, if_neg hi, if_pos hp]
        rw [this] at hs
        have := ins_len n G
        rw [hs] at this
        omega
/-- P7.6: the order does not matter. -/
theorem full_same {l m G H : List Nd} (hd : Apart l) (hm : ∀ n, n ∈ m ↔ n ∈ l) (hG : Full l G) (hH : Full m H) : G = H := by
  have hd2 : Apart m := fun n hn k hk e => hd n ((hm n).1 hn) k ((hm k).1 hk) e
  refine graph_ext hG.ok.asc hH.ok.asc fun n => ?_
  rw [full_mem hd hG, full_mem hd2 hH]
  have key : ∀ {a b : List Nd}, (∀ n, n ∈ a → n ∈ b) → ∀ n, Acc a n → Acc b n := fun {a b} hab n hn => by
    induction hn with
    | mk f hl hr hf _ ih => exact .mk f (hab _ hl) hr hf ih
  exact ⟨key (fun n hn => (hm n).2 hn) n, key (fun n hn => (hm n).1 hn) n⟩
/-- The ids of a list that a graph has, each once. -/
def all (G : List Nd) (l : List Nd) : List Int := l.foldl (fun out n => if n.1 ∈ ids G ∧ n.1 ∉ out then out ++ [n.1] else out) []
theorem all_take (G : List Nd) {l : List Nd} {k : Nat} {n : Nd} (h : l[k]? = some n) : all G (l.take (k + 1)) = if n.1 ∈ ids G ∧ n.1 ∉ all G (l.take k) then all G (l.take k) ++ [n.1] else all G (l.take k) := by
  unfold all
  rw [List.take_add_one, h, List.foldl_append]
  rfl
theorem all_fold (G : List Nd) : ∀ (l : List Nd) (out : List Int), out.Nodup → (l.foldl (fun out n => if n.1 ∈ ids G ∧ n.1 ∉ out then out ++ [n.1] else out) out).Nodup ∧
    ∀ x, x ∈ l.foldl (fun out n => if n.1 ∈ ids G ∧ n.1 ∉ out then out ++ [n.1] else out) out ↔ x ∈ out ∨ x ∈ ids G ∧ x ∈ ids l
  | [], out, h => ⟨h, fun x => by simp [ids]⟩
  | a :: l, out, h => by
    rw [List.foldl_cons]
    by_cases hc : a.1 ∈ ids G ∧ a.1 ∉ out
    · rw [if_pos hc]
      obtain ⟨h1, h2⟩ := all_fold G l (out ++ [a.1]) (by
        rw [List.nodup_append]
        exact ⟨h, by simp, fun x hx y hy e => by simp at hy; subst hy; subst e; exact hc.2 hx⟩)
      refine ⟨h1, fun x => ?_⟩
      rw [h2, List.mem_append, List.mem_singleton, show ids (a :: l) = a.1 :: ids l from rfl, List.mem_cons]
      constructor
      · rintro ((q | rfl) | q)
        · exact .inl q
        · exact .inr ⟨hc.1, .inl rfl⟩
        · exact .inr ⟨q.1, .inr q.2⟩
      · rintro (q | ⟨q, rfl | r⟩)
        · exact .inl (.inl q)
        · exact .inl (.inr rfl)
        · exact .inr ⟨q, r⟩
    · rw [if_neg hc]
      obtain ⟨h1, h2⟩ := all_fold G l out h
      refine ⟨h1, fun x => ?_⟩
      rw [h2, show ids (a :: l) = a.1 :: ids l from rfl, List.mem_cons]
      constructor
      · rintro (q | q)
        · exact .inl q
        · exact .inr ⟨q.1, .inr q.2⟩
      · rintro (q | ⟨q, rfl | r⟩)
        · exact .inl q
        · by_cases ho : a.1 ∈ out
          · exact .inl ho
          · exact (hc ⟨q, ho⟩).elim
        · exact .inr ⟨q, r⟩
theorem all_nodup (G l : List Nd) : (all G l).Nodup := (all_fold G l [] List.nodup_nil).1
theorem mem_all {G l : List Nd} {x : Int} : x ∈ all G l ↔ x ∈ ids G ∧ x ∈ ids l := by
  have := (all_fold G l [] List.nodup_nil).2 x
  unfold all
  rw [this]; simp
theorem full_all {l G : List Nd} (h : Full l G) {x : Int} : x ∈ all G l ↔ x ∈ ids G := by
  rw [mem_all]
  refine ⟨fun q => q.1, fun q => ⟨q, ?_⟩⟩
  obtain ⟨n, hn, e⟩ := mem_ids.1 q
  exact mem_ids.2 ⟨n, h.sub n hn, e⟩
theorem all_len {l G : List Nd} (h : Full l G) : (all G l).length = G.length := by
  have := len_same (all_nodup G l) h.ok.nodup fun x => full_all h
  rw [this]; simp [ids]
theorem all_small (G l : List Nd) : (all G l).length ≤ l.length := by
  have := (all_nodup G l).length_le_of_subset (l₂ := ids l) fun x hx => (mem_all.1 hx).2
  simpa [ids] using this
/-- P7.1: an addition that is refused, and one that is not. -/
theorem add_right {G : List Nd} {n : Nd} (h : ¬ right n = true) : add G n = (1, G) := by unfold add; rw [if_neg h]
theorem add_twice {G : List Nd} {n : Nd} (h : right n = true) (hi : n.1 ∈ ids G) (hp : par G n.1 ≠ n.2) : add G n = (5, G) := by unfold add; rw [if_pos h, if_pos hi, if_neg hp]
theorem add_there {G : List Nd} {n : Nd} (h : right n = true) (hi : n.1 ∈ ids G) (hp : par G n.1 = n.2) : add G n = (0, G) := by unfold add; rw [if_pos h, if_pos hi, if_pos hp]
theorem add_miss {G : List Nd} {n : Nd} (h : right n = true) (hi : n.1 ∉ ids G) (hp : ¬ ∀ p ∈ n.2, p ∈ ids G) : add G n = (14, G) := by unfold add; rw [if_pos h, if_neg hi, if_neg hp]
theorem add_new {G : List Nd} {n : Nd} (h : right n = true) (hi : n.1 ∉ ids G) (hp : ∀ p ∈ n.2, p ∈ ids G) : add G n = (0, ins n G) := by unfold add; rw [if_pos h, if_neg hi, if_pos hp]
theorem add_again {G : List Nd} (ok : Ok G) {n : Nd} (h : (add G n).1 = 0) : add (add G n).2 n = (0, (add G n).2) ∧ n.1 ∈ ids (add G n).2 := by
  by_cases hr : right n = true
  · by_cases hi : n.1 ∈ ids G
    · by_cases hp : par G n.1 = n.2
      · rw [add_there hr hi hp]; exact ⟨add_there hr hi hp, hi⟩
      · rw [add_twice hr hi hp] at h; exact absurd h (show ¬ (5 : Int) = 0 by decide)
    · by_cases hp : ∀ p ∈ n.2, p ∈ ids G
      · rw [add_new hr hi hp]
        have h1 : n.1 ∈ ids (ins n G) := mem_ids_ins.2 (.inl rfl)
        exact ⟨add_there hr h1 (by rw [par_ins ok.asc hi, if_pos rfl]), h1⟩
      · rw [add_miss hr hi hp] at h; exact absurd h (show ¬ (14 : Int) = 0 by decide)
  · rw [add_right hr] at h; exact absurd h (show ¬ (1 : Int) = 0 by decide)
end Gp
end Go.Proofs.Ytihnnffhpgbgjaa
