/- What is reached from some nodes: a list of what is met, and one of what is to be looked at. No Go. -/
import Derived.Test.YtihnnffhpgbgjaaGk
namespace Go.Proofs.Ytihnnffhpgbgjaa
open Gp
namespace Gp
structure Rch (G : List Nd) (xs : List Int) (least : Int) (M T : List Int) : Prop where
  nd : M.Nodup
  met : ∀ x ∈ M, least ≤ x ∧ x ∈ down G xs
  todo : ∀ x ∈ T, x ∈ xs ∨ ∃ y ∈ xs, Anc G x y
  from_ : ∀ x ∈ xs, x ∈ M ∨ x ∈ T ∨ x < least ∨ x ∉ ids G
  past : ∀ m ∈ M, ∀ p ∈ par G m, p ∈ M ∨ p ∈ T ∨ p < least
section
variable {G : List Nd} {xs M T : List Int} {least x : Int}
theorem rch_start : Rch G xs least [] xs := ⟨List.nodup_nil, fun _ h => (by cases h), fun x h => .inl h, fun x h => .inr (.inl h), fun _ h => (by cases h)⟩
theorem Rch.skip (h : Rch G xs least M (T ++ [x])) (hx : x < least ∨ x ∈ M ∨ x ∉ ids G) (ok : Ok G) : Rch G xs least M T where
  nd := h.nd
  met := h.met
  todo y hy := h.todo y (by simp [hy])
  from_ y hy := by
    rcases h.from_ y hy with q | q | q | q
    · exact .inl q
    · rcases List.mem_append.1 q with q | q
      · exact .inr (.inl q)
      · simp at q; subst q
        rcases hx with q | q | q
        · exact .inr (.inr (.inl q))
        · exact .inl q
        · exact .inr (.inr (.inr q))
    · exact .inr (.inr (.inl q))
    · exact .inr (.inr (.inr q))
  past m hm p hp := by
    rcases h.past m hm p hp with q | q | q
    · exact .inl q
    · rcases List.mem_append.1 q with q | q
      · exact .inr (.inl q)
      · simp at q; subst q
        rcases hx with q | q | q
        · exact .inr (.inr q)
        · exact .inl q
        · exact absurd (ok.lt hp).2.1 q
    · exact .inr (.inr q)
theorem Rch.take (h : Rch G xs least M (T ++ [x])) (h1 : least ≤ x) (h2 : x ∉ M) (h3 : x ∈ ids G) : Rch G xs least (M ++ [x]) (T ++ par G x) where
  nd := by
    rw [List.nodup_append]
    refine ⟨h.nd, by simp, fun a ha b hb e => ?_⟩
    simp at hb; subst hb; subst e; exact h2 ha
  met y hy := by
    rcases List.mem_append.1 hy with q | q
    · exact h.met y q
    · simp at q; subst q
      exact ⟨h1, mem_down.2 ⟨h3, h.todo y (by simp)⟩⟩
  todo y hy := by
    rcases List.mem_append.1 hy with q | q
    · exact h.todo y (by simp [q])
    · rcases h.todo x (by simp) with r | ⟨z, hz, r⟩
      · exact .inr ⟨x, r, .par q⟩
      · exact .inr ⟨z, hz, (Anc.par q).trans r⟩
  from_ y hy := by
    rcases h.from_ y hy with q | q | q | q
    · exact .inl (by simp [q])
    · rcases List.mem_append.1 q with q | q
      · exact .inr (.inl (by simp [q]))
      · simp at q; subst q; exact .inl (by simp)
    · exact .inr (.inr (.inl q))
    · exact .inr (.inr (.inr q))
  past m hm p hp := by
    rcases List.mem_append.1 hm with q | q
    · rcases h.past m q p hp with r | r | r
      · exact .inl (by simp [r])
      · rcases List.mem_append.1 r with r | r
        · exact .inr (.inl (by simp [r]))
        · simp at r; subst r; exact .inl (by simp)
      · exact .inr (.inr r)
    · simp at q; subst q; exact .inr (.inl (by simp [hp]))
theorem Rch.done (h : Rch G xs least M []) (ok : Ok G) (x : Int) : x ∈ M ↔ least ≤ x ∧ x ∈ down G xs := by
  refine ⟨h.met x, fun ⟨h1, h2⟩ => ?_⟩
  obtain ⟨hi, h2⟩ := mem_down.1 h2
  have start : ∀ y ∈ xs, y ∈ ids G → least ≤ y → y ∈ M := fun y hy hi hl => by
    rcases h.from_ y hy with q | q | q | q
    · exact q
    · cases q
    · omega
    · exact absurd hi q
  have go : ∀ y, Anc G x y → y ∈ M → x ∈ M := fun y ha => by
    induction ha with
    | par hp =>
      intro hm
      rcases h.past _ hm _ hp with q | q | q
      · exact q
      · cases q
      · omega
    | step hp ha ih =>
      intro hm
      have := (ha.lt ok).1
      rcases h.past _ hm _ hp with q | q | q
      · exact ih q
      · cases q
      · omega
  rcases h2 with q | ⟨y, hy, ha⟩
  · exact start x q hi h1
  · have hl := ha.lt ok
    exact go y ha (start y hy hl.2.2 (by omega))
theorem Rch.len (h : Rch G xs least M T) : M.length ≤ G.length := by
  have := h.nd.length_le_of_subset (l₂ := ids G) fun y hy => (mem_down.1 (h.met y hy).2).1
  rwa [show (ids G).length = G.length by simp [ids]] at this
theorem par_few (ok : Ok G) (x : Int) : (par G x).length ≤ G.length := by
  by_cases hx : x ∈ ids G
  · obtain ⟨n, hn, rfl⟩ := mem_ids.1 hx
    have hnd : (par G n.1).Nodup := by
      rw [par_of ok.asc hn]
      exact (right_iff.1 (ok.rt n hn)).2.1.imp fun h => Int.ne_of_lt h
    have := hnd.length_le_of_subset (l₂ := ids G) fun y hy => (ok.lt hy).2.1
    rwa [show (ids G).length = G.length by simp [ids]] at this
  · rw [par_no hx]; exact Nat.zero_le _
end
end Gp
end Go.Proofs.Ytihnnffhpgbgjaa
