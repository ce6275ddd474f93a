/- settle: a file becomes durable. -/
import Derived.Test.YtjbcgahdiolhhaaDoorDCrash
namespace Go.Proofs.YtjbcgahdiolhhaaDoor.D2
open Go.RowKit Go.Maps Go.ChangeMaps Go.MapKept
open Dp
attribute [local go_sem ↓] Go.wp_at_zero Go.wp_at_succ

theorem relab_own2 {w : World} {lab : Nat → Nat} {c2 : Nat} {v' : Value} (hloc : ∀ k, v'.ownBlock = some k → (k < w.heap.size ∧ lab k = c2) ∨ w.heap.size ≤ k) : ∀ k, v'.ownBlock = some k → relab lab w v' c2 k = c2 := by
  intro k hk
  unfold relab
  rcases hloc k hk with ⟨h1, h2⟩ | h
  · rw [if_pos h1]; exact h2
  · rw [if_neg (by omega), if_pos hk]

section
variable {w w1 w' : World} {lab : Nat → Nat} {id b : Nat} {D : Dk} {mk : List (Nat × Nat)} {L : Loc}
theorem DiskIn.setPend2 (h : DiskIn w lab id b D mk L) {v' : Value} {ps : List (Nat × Nat)} (hn : ps.Nodup) (hf : ∀ p ∈ ps, p.1 < 16 ∧ p.2 < 262144) (o : w.ownsRow 0 78 2 v' ps.length (secVs ps))
    (hloc : ∀ k, v'.ownBlock = some k → lab k = id + 3) (hp : Hp (w.setCell ⟨b, 1, none⟩ v') w') :
    DiskIn w' lab id b { D with pend := ps } mk { L with pv := v' } ∧ Chg id lab lab w w' := by
  have hvn : v'.ownBlock ≠ some b := fun e => by have h1 := hloc _ e; have h2 := h.lb; omega
  have k := kept_set (id := id) h.lo h.lb hp
  have ho := own_set o hvn hp
  have h6 := h.id64
  refine ⟨h.turn k ⟨h.ok.now, h.ok.dur, hn, hf, h.ok.lost, h.ok.calls, h.ok.keep, h.ok.size⟩ rfl rfl rfl rfl (.inr ?_) (by omega) (.inl ⟨by omega, by omega, rfl⟩) (.inr ⟨ho, hloc⟩) (.inl ⟨by omega, by omega, rfl, rfl⟩) (fun i hi => .inl ⟨by omega, by omega, rfl, rfl⟩) (fun i hi => .inl ⟨by omega, by omega, rfl, rfl⟩) (fun i hi => .inl ⟨by omega, by omega, rfl, rfl⟩), k.chg (by omega) (by omega)⟩
  rw [hp.heap, set_heap h.blk]; rfl
/-- A block without a label becomes one of the disk's. -/
def claimL (lab : Nat → Nat) (v : Value) (c : Nat) (x : Nat) : Nat := if v.ownBlock = some x then c else lab x
theorem claim_other {v : Value} {c x : Nat} (hz : ∀ k, v.ownBlock = some k → lab k = 0) (hx : lab x ≠ 0) : claimL lab v c x = lab x := by
  unfold claimL; rw [if_neg (fun e => hx (hz x e))]
theorem DiskIn.claim (h : DiskIn w lab id b D mk L) {v : Value} {c : Nat} (hz : ∀ k, v.ownBlock = some k → lab k = 0 ∧ k < w.heap.size) : DiskIn w (claimL lab v c) id b D mk L := by
  have h6 := h.id64
  have ho : ∀ x, lab x ≠ 0 → claimL lab v c x = lab x := fun x hx => claim_other (fun k hk => (hz k hk).1) hx
  exact { h with
    lo := fun x hx => by unfold claimL; rw [if_neg (fun e => by have := (hz x e).2; omega)]; exact h.lo x hx
    lb := by rw [ho _ (by rw [h.lb]; omega)]; exact h.lb
    lf := by rw [ho _ (by rw [h.lf]; omega)]; exact h.lf
    lm := by rw [ho _ (by rw [h.lm]; omega)]; exact h.lm
    lp := fun k hk => by rw [ho _ (by rw [h.lp k hk]; omega)]; exact h.lp k hk
    lk := fun k hk => by rw [ho _ (by rw [h.lk k hk]; omega)]; exact h.lk k hk
    lg := fun f hf => by rw [ho _ (by rw [h.lg f hf]; omega)]; exact h.lg f hf
    ln := fun f hf k hk => by rw [ho _ (by rw [h.ln f hf k hk]; omega)]; exact h.ln f hf k hk
    ld := fun f hf k hk => by rw [ho _ (by rw [h.ld f hf k hk]; omega)]; exact h.ld f hf k hk }
theorem Chg.claim {lab0 : Nat → Nat} {w0 : World} (h : Chg id lab0 lab w0 w) {v : Value} {c : Nat} (hc : id ≤ c ∧ c < id + 64) (hz : ∀ k, v.ownBlock = some k → w0.heap.size ≤ k) : Chg id lab0 (claimL lab v c) w0 w :=
  ⟨h.os, h.tape, h.output, h.size, fun x hx => by unfold claimL; rw [if_neg (fun e => by have := hz x e; omega)]; exact h.labs x hx, h.block, fun x hx => by
    unfold claimL
    split
    · exact .inr hc
    · exact h.fresh x hx⟩
end

/-! ### Plain -/
def keepsF (f : Nat) (ps : List (Nat × Nat)) : List (Nat × Nat) := ps.filter (fun p => p.1 = f)
def dropsF (f : Nat) (ps : List (Nat × Nat)) : List (Nat × Nat) := ps.filter (fun p => p.1 ≠ f)
theorem keepsF_take {f : Nat} {ps : List (Nat × Nat)} {k : Nat} {p : Nat × Nat} (h : ps[k]? = some p) : keepsF f (ps.take (k + 1)) = keepsF f (ps.take k) ++ (if p.1 = f then [p] else []) := by
  obtain ⟨hk, rfl⟩ := List.getElem?_eq_some_iff.1 h
  rw [List.take_succ_eq_append_getElem hk, keepsF, List.filter_append]
  congr 1
  by_cases hf : ps[k].1 = f <;> simp [hf]
theorem dropsF_take {f : Nat} {ps : List (Nat × Nat)} {k : Nat} {p : Nat × Nat} (h : ps[k]? = some p) : dropsF f (ps.take (k + 1)) = dropsF f (ps.take k) ++ (if p.1 = f then [] else [p]) := by
  obtain ⟨hk, rfl⟩ := List.getElem?_eq_some_iff.1 h
  rw [List.take_succ_eq_append_getElem hk, dropsF, List.filter_append]
  congr 1
  by_cases hf : ps[k].1 = f <;> simp [hf]
def marksAt (f : Nat) (ps : List (Nat × Nat)) (k : Nat) : List (Nat × Nat) := dropsF f (ps.take k) ++ ps.drop k
theorem marksAt_eq {f : Nat} {ps : List (Nat × Nat)} {k : Nat} {p : Nat × Nat} (h : ps[k]? = some p) : marksAt f ps k = dropsF f (ps.take k) ++ p :: ps.drop (k + 1) := by
  obtain ⟨hk, rfl⟩ := List.getElem?_eq_some_iff.1 h
  rw [marksAt, List.drop_eq_getElem_cons hk]
theorem marks_skip {f : Nat} {ps : List (Nat × Nat)} {k : Nat} {p : Nat × Nat} (h : ps[k]? = some p) (hf : p.1 ≠ f) : marksAt f ps (k + 1) = marksAt f ps k := by
  rw [marksAt_eq h, marksAt, dropsF_take h, if_neg hf]; simp
theorem marks_drop {f : Nat} {ps : List (Nat × Nat)} {k : Nat} {p : Nat × Nat} (hn : ps.Nodup) (hb : ∀ q ∈ ps, q.1 < 16 ∧ q.2 < 262144) (h : ps[k]? = some p) (hf : p.1 = f) :
    (marksAt f ps (k + 1)).length = (marksAt f ps k).length - 1 ∧ markMap (marksAt f ps k) (secLit p) = some (.bool true) ∧ ∀ kl, markMap (marksAt f ps (k + 1)) kl = (open Classical in if kl = secLit p then none else markMap (marksAt f ps k) kl) := by
  have e1 := marksAt_eq (f := f) h
  have e2 : marksAt f ps (k + 1) = dropsF f (ps.take k) ++ ps.drop (k + 1) := by rw [marksAt, dropsF_take h, if_pos hf]; simp
  have hpm : p ∈ ps := List.mem_of_getElem? h
  have hin : ∀ q ∈ dropsF f (ps.take k) ++ ps.drop (k + 1), q ∈ ps ∧ q ≠ p := by
    intro q hq
    rcases List.mem_append.1 hq with hq | hq
    · simp only [dropsF, List.mem_filter] at hq
      exact ⟨List.mem_of_mem_take hq.1, fun e => by subst e; simp [hf] at hq⟩
    · refine ⟨List.mem_of_mem_drop hq, fun e => ?_⟩
      subst e
      obtain ⟨hk, hpk⟩ := List.getElem?_eq_some_iff.1 h
      obtain ⟨j, hj, hjq⟩ := List.mem_iff_getElem.1 hq
      rw [List.getElem_drop] at hjq
      have hlt : k + 1 + j < ps.length := by have := hj; rw [List.length_drop] at this; omega
      exact absurd (hpk.trans hjq.symm) ((List.pairwise_iff_getElem.1 hn) k (k + 1 + j) hk hlt (by omega))
  refine ⟨by rw [e1, e2]; simp, ?_, fun kl => ?_⟩
  · unfold markMap; rw [if_pos ⟨p, by rw [e1]; simp, rfl⟩]
  · by_cases hk : kl = secLit p
    · rw [if_pos hk]
      unfold markMap
      rw [if_neg]
      rintro ⟨q, hq, hqk⟩
      rw [e2] at hq
      have := hin q hq
      have h1 := hb q this.1
      have h2 := hb p hpm
      exact this.2 (secLit_inj (by omega) (by omega) (by omega) (by omega) (hqk.trans hk))
    · rw [if_neg hk]
      unfold markMap
      congr 1
      rw [e1, e2]
      refine propext ⟨fun ⟨q, hq, hqk⟩ => ⟨q, ?_, hqk⟩, fun ⟨q, hq, hqk⟩ => ⟨q, ?_, hqk⟩⟩
      · rcases List.mem_append.1 hq with hq | hq
        · exact List.mem_append.2 (.inl hq)
        · exact List.mem_append.2 (.inr (List.mem_cons_of_mem _ hq))
      · rcases List.mem_append.1 hq with hq | hq
        · exact List.mem_append.2 (.inl hq)
        · rcases List.mem_cons.1 hq with rfl | hq
          · exact absurd hqk.symm hk
          · exact List.mem_append.2 (.inr hq)
end Go.Proofs.YtjbcgahdiolhhaaDoor.D2
