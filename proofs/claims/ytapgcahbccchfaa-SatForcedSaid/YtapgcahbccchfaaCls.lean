/- Slices of clauses, of truth values: how they lie in memory; append, copies. -/
import Derived.Test.YtapgcahbccchfaaNums
import Derived.Test.YtapgcahbccchfaaSatF
namespace Go.Proofs.Ytapgcahbccchfaa
open Go.RowKit Go.Maps Go.ChangeMaps Go.MapKept
open St

def clVs : List Cl → List Value
  | [] => []
  | p :: l => .int .i64 p.1 :: .int .i64 p.2 :: clVs l
theorem clVs_length (l : List Cl) : (clVs l).length = l.length * 2 := by
  induction l with
  | nil => rfl
  | cons a l ih => simp [clVs, ih]; omega
theorem clVs_app (l m : List Cl) : clVs (l ++ m) = clVs l ++ clVs m := by
  induction l with
  | nil => rfl
  | cons a l ih => simp [clVs, ih]
theorem cl_at {l : List Cl} {k : Nat} {p : Cl} (h : l[k]? = some p) : (clVs l)[k * 2]? = some (.int .i64 p.1) ∧ (clVs l)[k * 2 + 1]? = some (.int .i64 p.2) := by
  induction l generalizing k with
  | nil => simp at h
  | cons a l ih =>
    cases k with
    | zero => simp at h; subst h; exact ⟨rfl, rfl⟩
    | succ k =>
      have := ih (k := k) (by simpa using h)
      rw [show (k + 1) * 2 = k * 2 + 1 + 1 by omega]
      simpa [clVs] using this
theorem cl_one (l : List Cl) : ∀ u ∈ clVs l, u.oneCell' = true := by
  induction l with
  | nil => intro u hu; cases hu
  | cons a l ih =>
    intro u hu
    simp only [clVs, List.mem_cons] at hu
    rcases hu with rfl | rfl | hu
    · rfl
    · rfl
    · exact ih u hu
/-- A slice of shares that is read. -/
def ClAt (w : World) (v : Value) (l : List Cl) : Prop := ∃ a cap, v = .slice a l.length cap ∧ (l.length ≤ cap ∧ (a = none → cap = 0)) ∧ ∀ (k : Nat) (p : Cl), l[k]? = some p → ∃ b off, a = some ⟨b, off, none⟩ ∧
  w.cell? ⟨b, off + k * 2, none⟩ = some (.int .i64 p.1) ∧ w.cell? ⟨b, off + k * 2 + 1, none⟩ = some (.int .i64 p.2)
theorem ClAt.keep {w w' : World} {v : Value} {l : List Cl} (h : ClAt w v l) (hb : Below w.heap.size w w') : ClAt w' v l := by
  obtain ⟨a, cap, hv, hl, hc⟩ := h
  refine ⟨a, cap, hv, hl, fun k o hk => ?_⟩
  obtain ⟨b, off, h1, c0, c1⟩ := hc k o hk
  exact ⟨b, off, h1, below_cell c0 hb, below_cell c1 hb⟩
theorem ClAt.of_own {w : World} {base : Nat} {e : TypeId} {v : Value} {n : Nat} {l : List Cl} (h : w.ownsRow base e 2 v n (clVs l)) : ClAt w v l := by
  have hn : n = l.length := by have := h.1; rw [clVs_length] at this; omega
  subst hn
  rcases h.2 with ⟨rfl, h0⟩ | ⟨g, cap, cur, rfl, _, _, hcap, _⟩
  · have : l = [] := List.eq_nil_of_length_eq_zero h0
    subst this
    exact ⟨none, 0, rfl, ⟨Nat.le_refl _, fun _ => rfl⟩, fun k u hk => by simp at hk⟩
  · refine ⟨_, cap, rfl, ⟨hcap, fun e => by cases e⟩, fun k p hk => ⟨g, 0, rfl, ?_⟩⟩
    have h0 := h.cells rfl _ _ (cl_at hk).1
    have h1 := h.cells rfl _ _ (cl_at hk).2
    rw [Lib.add_plain] at h0 h1
    exact ⟨h0, h1⟩
/-- A slice that is not empty. -/
theorem ClAt.form {w : World} {v : Value} {l : List Cl} (h : ClAt w v l) (h0 : 0 < l.length) : ∃ b off cap, v = .slice (some ⟨b, off, none⟩) l.length cap ∧ l.length ≤ cap ∧ ∀ (k : Nat) (p : Cl), l[k]? = some p →
    w.cell? ⟨b, off + k * 2, none⟩ = some (.int .i64 p.1) ∧ w.cell? ⟨b, off + k * 2 + 1, none⟩ = some (.int .i64 p.2) := by
  obtain ⟨a, cap, hv, hl, hc⟩ := h
  obtain ⟨b, off, rfl, _⟩ := hc 0 _ (List.getElem?_eq_getElem h0)
  refine ⟨b, off, cap, hv, hl.1, fun k p hk => ?_⟩
  obtain ⟨b', off', h1, h2⟩ := hc k p hk
  cases h1
  exact h2
theorem ClAt.at_ {w : World} {b off n cap : Nat} {l : List Cl} (h : ClAt w (.slice (some ⟨b, off, none⟩) n cap) l) {k : Nat} {p : Cl} (hk : l[k]? = some p) :
    w.cell? ⟨b, off + k * 2, none⟩ = some (.int .i64 p.1) ∧ w.cell? ⟨b, off + k * 2 + 1, none⟩ = some (.int .i64 p.2) := by
  obtain ⟨a, cap', hv, _, hc⟩ := h
  cases hv
  obtain ⟨b', off', h1, h2⟩ := hc k p hk
  cases h1
  exact h2
theorem ClAt.take {w : World} {b off n cap : Nat} {l : List Cl} (h : ClAt w (.slice (some ⟨b, off, none⟩) n cap) l) {k : Nat} (hk : k ≤ l.length) : ClAt w (.slice (some ⟨b, off, none⟩) k cap) (l.take k) := by
  obtain ⟨a, cap', hv, hl, hc⟩ := h
  cases hv
  refine ⟨_, cap, by rw [List.length_take, Nat.min_eq_left hk], ⟨by rw [List.length_take]; omega, fun e => by cases e⟩, fun j p hj => ?_⟩
  rw [List.getElem?_take] at hj
  split at hj
  · exact hc j p hj
  · cases hj
theorem ClAt.drop {w : World} {b off n cap : Nat} {l : List Cl} (h : ClAt w (.slice (some ⟨b, off, none⟩) n cap) l) {k : Nat} (hk : k ≤ l.length) : ClAt w (.slice (some ⟨b, off + k * 2, none⟩) (l.length - k) (cap - k)) (l.drop k) := by
  obtain ⟨a, cap', hv, hl, hc⟩ := h
  cases hv
  refine ⟨_, cap - k, by rw [List.length_drop], ⟨by rw [List.length_drop]; omega, fun e => by cases e⟩, fun j p hj => ?_⟩
  rw [List.getElem?_drop] at hj
  obtain ⟨b', off', h1, h2, h3⟩ := hc (k + j) p hj
  cases h1
  refine ⟨b, off + k * 2, rfl, ?_, ?_⟩
  · rw [show off + k * 2 + j * 2 = off + (k + j) * 2 by omega]; exact h2
  · rw [show off + k * 2 + j * 2 + 1 = off + (k + j) * 2 + 1 by omega]; exact h3
theorem clause_info : (Try.prog.info? 40).map (fun i => (i.zero, i.size, i.bytes)) = some (some (.agg #[.int .i64 0, .int .i64 0]), 2, 16) := by kernel_rfl
/-- Shares go onto a row of shares. -/
theorem run_pushC (w : World) (v u : Value) (ks ps : List Cl) (hown : w.ownsRow 0 40 2 v ks.length (clVs ks)) (hu : ClAt w u ps) (hn : ks.length + ps.length ≤ 100000) :
    ∃ a c w', (Builtin.append_ #[22, 22] 22 #[v, u]).run Try.prog w = .ok (.slice a (ks.length + ps.length) c) w' ∧ w'.ownsRow 0 40 2 (.slice a (ks.length + ps.length) c) (ks.length + ps.length) (clVs (ks ++ ps)) ∧ w.grownBy w' v.ownBlock ∧
      ((Value.slice a (ks.length + ps.length) c).ownBlock = v.ownBlock ∨ (Value.slice a (ks.length + ps.length) c).ownBlock = some w.heap.size) := by
  obtain ⟨i0, hi, hz0, hz1, hz2⟩ := info_parts clause_info
  by_cases h0 : ps.length = 0
  · obtain rfl := List.eq_nil_of_length_eq_zero h0
    obtain ⟨a, cap, rfl, ⟨_, hn0⟩, _⟩ := hu
    cases a with
    | none =>
      obtain rfl := hn0 rfl
      have hr := run_append_owned_none (P := Try.prog) (w := w) 0 22 22 40 i0 2 Try.underlying22 hi v ks.length _ hown
      obtain ⟨a', c', hv⟩ := own_form hown
      subst hv
      rw [List.append_nil]
      exact ⟨a', c', w, hr, hown, ⟨rfl, rfl, rfl, Nat.le_refl _, fun _ _ _ => rfl⟩, .inl rfl⟩
    | some x =>
      obtain ⟨v', w', r1, r2, r3, _, r5⟩ := run_append_own_at (P := Try.prog) w 0 22 22 40 i0 (.agg #[.int .i64 0, .int .i64 0]) 2 16 Try.underlying22 hi hz0 hz1 hz2 rfl (by decide) v ks.length _ hown x 0 cap [] rfl (fun j u hj => by simp at hj) (fun u hu => by cases hu) (by unfold maxLen; omega) (by omega) (Nat.zero_le _)
      rw [List.append_nil] at r2 ⊢
      obtain ⟨a', c', hv⟩ := own_form r2
      subst hv
      exact ⟨a', c', w', r1, r2, r3, r5⟩
  · obtain ⟨b, off, cap, rfl, hl, hc⟩ := hu.form (by omega)
    have hcell : ∀ j u, (clVs ps)[j]? = some u → w.cell? ((⟨b, off, none⟩ : Addr).add j) = some u := by
      intro j u hj
      have hj2 : j < ps.length * 2 := by have := (List.getElem?_eq_some_iff.1 hj).1; rwa [clVs_length] at this
      have hk : j / 2 < ps.length := by omega
      have hp := List.getElem?_eq_getElem hk
      have h1 := cl_at hp
      have h2 := hc _ _ hp
      rw [Lib.add_plain]
      rcases Nat.mod_two_eq_zero_or_one j with hm | hm
      · rw [show j = j / 2 * 2 by omega] at hj ⊢
        rw [h1.1] at hj; cases hj
        exact h2.1
      · rw [show j = j / 2 * 2 + 1 by omega] at hj ⊢
        rw [h1.2] at hj; cases hj
        exact h2.2
    obtain ⟨v', w', r1, r2, r3, _, r5⟩ := run_append_own_at (P := Try.prog) w 0 22 22 40 i0 (.agg #[.int .i64 0, .int .i64 0]) 2 16 Try.underlying22 hi hz0 hz1 hz2 rfl (by decide) v ks.length _ hown ⟨b, off, none⟩ ps.length cap (clVs ps) (clVs_length _) hcell (cl_one _) (by unfold maxLen; omega) (by omega) (Nat.zero_le _)
    rw [← clVs_app] at r2
    obtain ⟨a, c, rfl⟩ := own_form r2
    exact ⟨a, c, w', r1, r2, r3, r5⟩
theorem own_clause (w : World) (p : Cl) : (w.alloc (.cells #[.int .i64 p.1, .int .i64 p.2] 40)).ownsRow 0 40 2 (.slice (some ⟨w.heap.size, 0, none⟩) 1 1) 1 (clVs [p]) :=
  World.ownsRow_lit w #[.int .i64 p.1, .int .i64 p.2] 1 (Nat.zero_le _) (by decide) rfl
theorem copyC_run {w : World} {u : Value} {l : List Cl} (hu : ClAt w u l) (hn : l.length ≤ 1000) :
    ∃ a c w', (Builtin.append_ #[22, 22] 22 #[.slice (some ⟨w.heap.size, 0, none⟩) 0 0, u]).run Try.prog (w.alloc (.cells #[] 40)) = .ok (.slice a l.length c) w' ∧
      w'.ownsRow 0 40 2 (.slice a l.length c) l.length (clVs l) ∧ Below w.heap.size w w' ∧ ∀ x, (Value.slice a l.length c).ownBlock = some x → w.heap.size ≤ x := by
  have hb := (Below.refl w.heap.size w).alloc (Nat.le_refl _) (.cells #[] 40)
  obtain ⟨a, c, w', h1, h2, h3, h4⟩ := run_pushC _ _ u [] l (World.ownsRow_lit w #[] 0 (e := 40) (size := 2) (base := 0) (Nat.zero_le _) (by decide) rfl) (hu.keep hb) (by simp; omega)
  have e : ([] : List Cl).length + l.length = l.length := by simp
  rw [e, List.nil_append] at h2
  rw [e] at h1 h4
  refine ⟨a, c, w', h1, h2, below_grown hb h3 fun x hx => Nat.le_of_eq (by simpa [Value.ownBlock] using hx), fun x hx => ?_⟩
  rcases h4 with q | q
  · have := q.symm.trans hx; exact Nat.le_of_eq (by simpa [Value.ownBlock] using this)
  · have := q.symm.trans hx; simp at this; omega
theorem snocC_run {w0 w : World} {v : Value} {ks : List Cl} (hb : Below w0.heap.size w0 w) (ho : w.ownsRow 0 40 2 v ks.length (clVs ks)) (hv : ∀ x, v.ownBlock = some x → w0.heap.size ≤ x) (p : Cl) (hn : ks.length ≤ 1000) :
    ∃ a c w', (Builtin.append_ #[22, 22] 22 #[v, .slice (some ⟨w.heap.size, 0, none⟩) 1 1]).run Try.prog (w.alloc (.cells #[.int .i64 p.1, .int .i64 p.2] 40)) = .ok (.slice a (ks.length + 1) c) w' ∧
      w'.ownsRow 0 40 2 (.slice a (ks.length + 1) c) (ks.length + 1) (clVs (ks ++ [p])) ∧ Below w0.heap.size w0 w' ∧ ∀ x, (Value.slice a (ks.length + 1) c).ownBlock = some x → w0.heap.size ≤ x := by
  have hb2 := (Below.refl w.heap.size w).alloc (Nat.le_refl _) (.cells #[.int .i64 p.1, .int .i64 p.2] 40)
  have ho2 := ownsRow_block (w' := w.alloc (.cells #[.int .i64 p.1, .int .i64 p.2] 40)) ho fun x hx => hb2.block x (ho.lt x hx).2
  obtain ⟨a, c, w', h1, h2, h3, h4⟩ := run_pushC _ v _ ks [p] ho2 (ClAt.of_own (own_clause w p)) (by simp; omega)
  have e : ks.length + [p].length = ks.length + 1 := by simp
  rw [e] at h1 h2 h4
  refine ⟨a, c, w', h1, h2, below_grown (hb.trans (hb2.mono hb.size)) h3 hv, fun x hx => ?_⟩
  rcases h4 with q | q
  · exact hv x (q.symm.trans hx)
  · have := q.symm.trans hx; have := hb.size; simp at *; omega

theorem pushC_run {w0 w : World} {v u : Value} {ks ps : List Cl} (hb : Below w0.heap.size w0 w) (ho : w.ownsRow 0 40 2 v ks.length (clVs ks)) (hv : ∀ x, v.ownBlock = some x → w0.heap.size ≤ x) (hu : ClAt w u ps) (hn : ks.length + ps.length ≤ 1000) :
    ∃ a c w', (Builtin.append_ #[22, 22] 22 #[v, u]).run Try.prog w = .ok (.slice a (ks.length + ps.length) c) w' ∧ ClAt w' (.slice a (ks.length + ps.length) c) (ks ++ ps) ∧ Below w0.heap.size w0 w' := by
  obtain ⟨a, c, w', h1, h2, h3, h4⟩ := run_pushC _ v u ks ps ho hu (by omega)
  exact ⟨a, c, w', h1, ClAt.of_own h2, below_grown hb h3 hv⟩
theorem ClAt.nil (w : World) : ClAt w (.slice none 0 0) [] := ⟨none, 0, rfl, ⟨Nat.le_refl _, fun _ => rfl⟩, fun k u hk => by simp at hk⟩
theorem ClAt.slice {w : World} {v : Value} {l : List Cl} (h : ClAt w v l) : ∃ a c, v = .slice a l.length c := by obtain ⟨a, c, hv, _⟩ := h; exact ⟨a, c, hv⟩
/-- Clauses in a new slice. -/
theorem cls_lit (w : World) (l : List Cl) (hl : l.length ≤ 100) : ClAt (w.alloc (.cells (clVs l).toArray 40)) (.slice (some ⟨w.heap.size, 0, none⟩) l.length l.length) l :=
  ClAt.of_own (World.ownsRow_lit (e := 40) (size := 2) (base := 0) w (clVs l).toArray l.length (Nat.zero_le _) (by unfold maxLen; omega) (by simp [clVs_length]))
section
variable {w0 w : World} {os : List Ob} {i : Nat} {v : Value} {ks : List Cl}
theorem OMem.pushC (h : OMem w0 w os) (hi : os[i]? = some (.row 40 2 v ks.length (clVs ks))) (p : Cl) (hn : ks.length ≤ 1000) :
    ∃ a c w', (Builtin.append_ #[22, 22] 22 #[v, .slice (some ⟨w.heap.size, 0, none⟩) 1 1]).run Try.prog (w.alloc (.cells #[.int .i64 p.1, .int .i64 p.2] 40)) = .ok (.slice a (ks.length + 1) c) w' ∧
      OMem w0 w' (os.set i (.row 40 2 (.slice a (ks.length + 1) c) (ks.length + 1) (clVs (ks ++ [p])))) := by
  have hb2 := (Below.refl w.heap.size w).alloc (Nat.le_refl _) (.cells #[.int .i64 p.1, .int .i64 p.2] 40)
  have h2 := h.fresh hb2
  obtain ⟨a, c, w', r1, r2, r3, r4⟩ := run_pushC _ v _ ks [p] (h2.rowAt hi) (ClAt.of_own (own_clause w p)) (by simp; omega)
  have e : ks.length + [p].length = ks.length + 1 := by simp
  rw [e] at r1 r2 r4
  exact ⟨a, c, w', r1, h2.rowGrow hi r3 r2 r4⟩
end
/-- A row that was just made, in whatever new block. -/
theorem OMem.rowNewAt {w0 w w' : World} {os : List Ob} {e : TypeId} {size n : Nat} {v : Value} {xs : List Value} (h : OMem w0 w os) (hb : Below w.heap.size w w') (ho : w'.ownsRow 0 e size v n xs) (hn : ∀ x, v.ownBlock = some x → w.heap.size ≤ x) : OMem w0 w' (os ++ [.row e size v n xs]) :=
  h.make hb (K := rowK e size v n xs) (B := fun x => v.ownBlock = some x) (S := fun _ => False) ⟨ho, fun _ => Iff.rfl, fun _ => id⟩ hn fun _ h => h.elim

/-! ### Truth values -/
def boVs (l : List Bool) : List Value := l.map Value.bool
theorem boVs_length (l : List Bool) : (boVs l).length = l.length := by simp [boVs]
theorem bool_info : (Try.prog.info? 4).map (fun i => (i.zero, i.size, i.bytes)) = some (some (.bool false), 1, 1) := by kernel_rfl
/-- A slice of truth values that is read. -/
def BoolsAt (w : World) (v : Value) (l : List Bool) : Prop := ∃ a cap, v = .slice a l.length cap ∧ (l.length ≤ cap ∧ (a = none → cap = 0)) ∧ ∀ (k : Nat) (z : Bool), l[k]? = some z → ∃ b off, a = some ⟨b, off, none⟩ ∧ w.cell? ⟨b, off + k, none⟩ = some (.bool z)
section
variable {w w' : World} {v : Value} {l : List Bool}
theorem BoolsAt.keep (h : BoolsAt w v l) (hb : Below w.heap.size w w') : BoolsAt w' v l := by
  obtain ⟨a, cap, hv, hl, hc⟩ := h
  refine ⟨a, cap, hv, hl, fun k z hk => ?_⟩
  obtain ⟨b, off, h1, c0⟩ := hc k z hk
  exact ⟨b, off, h1, below_cell c0 hb⟩
theorem BoolsAt.nil (w : World) : BoolsAt w (.slice none 0 0) [] := ⟨none, 0, rfl, ⟨Nat.le_refl _, fun _ => rfl⟩, fun k u hk => by simp at hk⟩
theorem BoolsAt.of_own {base : Nat} {e : TypeId} {n : Nat} (h : w.ownsRow base e 1 v n (boVs l)) : BoolsAt w v l := by
  have hn : n = l.length := by have := h.1; rw [boVs_length] at this; omega
  subst hn
  rcases h.2 with ⟨rfl, h0⟩ | ⟨g, cap, cur, rfl, _, _, hcap, _⟩
  · have : l = [] := List.eq_nil_of_length_eq_zero h0
    subst this
    exact BoolsAt.nil w
  · refine ⟨_, cap, rfl, ⟨hcap, fun e => by cases e⟩, fun k p hk => ⟨g, 0, rfl, ?_⟩⟩
    have h0 := h.cells rfl k (.bool p) (by simp [boVs, hk])
    rwa [Lib.add_plain] at h0
theorem BoolsAt.slice (h : BoolsAt w v l) : ∃ a c, v = .slice a l.length c := by obtain ⟨a, c, hv, _⟩ := h; exact ⟨a, c, hv⟩
theorem BoolsAt.form (h : BoolsAt w v l) (h0 : 0 < l.length) : ∃ b off cap, v = .slice (some ⟨b, off, none⟩) l.length cap ∧ l.length ≤ cap ∧ ∀ (k : Nat) (z : Bool), l[k]? = some z → w.cell? ⟨b, off + k, none⟩ = some (.bool z) := by
  obtain ⟨a, cap, hv, hl, hc⟩ := h
  obtain ⟨b, off, rfl, _⟩ := hc 0 _ (List.getElem?_eq_getElem h0)
  refine ⟨b, off, cap, hv, hl.1, fun k p hk => ?_⟩
  obtain ⟨b', off', h1, h2⟩ := hc k p hk
  cases h1
  exact h2
end
theorem bools_lit (w : World) (l : List Bool) (hl : l.length ≤ 100) : BoolsAt (w.alloc (.cells (boVs l).toArray 4)) (.slice (some ⟨w.heap.size, 0, none⟩) l.length l.length) l :=
  BoolsAt.of_own (World.ownsRow_lit (e := 4) (size := 1) (base := 0) w (boVs l).toArray l.length (Nat.zero_le _) (by unfold maxLen; omega) (by simp [boVs]))
theorem make_bools (w : World) (n : Nat) (hn : n ≤ 100000) : ∃ w', (Instr.makeSlice 23 (.int .i64 (n : Int)) (.int .i64 (n : Int))).run Try.prog w = .ok (.slice (some ⟨w.heap.size, 0, none⟩) n n) w' ∧
    w'.ownsRow 0 4 1 (.slice (some ⟨w.heap.size, 0, none⟩) n n) n (boVs (List.replicate n false)) ∧ w.grownBy w' none := by
  obtain ⟨i0, hi, hz0, hz1, hz2⟩ := info_parts bool_info
  obtain ⟨w', r1, r2, r3⟩ := run_make_full (P := Try.prog) w 0 23 4 i0 (.bool false) 1 Try.underlying23 hi hz0 hz1 .i64 .i64 n (by rw [hz2]; omega) (by unfold maxLen; omega) (Nat.zero_le _)
  refine ⟨w', r1, ?_, r3⟩
  rw [show (madeCells (Value.bool false).cells (n * 1)).toList = boVs (List.replicate n false) by
    rw [Nat.mul_one]
    show (madeCells #[Value.bool false] n).toList = _
    rw [toList_madeCells_one]; simp [boVs]] at r2
  exact r2

/-! ### What a call leaves -/
def Reads (w : World) (r : Value) (e : Ending) (w' : World) : Prop := e = .returned r ∧ Below w.heap.size w w'
end Go.Proofs.Ytapgcahbccchfaa
