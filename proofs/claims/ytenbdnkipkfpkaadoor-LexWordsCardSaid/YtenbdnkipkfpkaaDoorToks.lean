/- Slices of tokens: how they lie in memory; append. -/
import Derived.Test.YtenbdnkipkfpkaaDoorStr
import Derived.Test.YtenbdnkipkfpkaaDoorLz
namespace Go.Proofs.YtenbdnkipkfpkaaDoor
open Go.RowKit Go.Maps Go.ChangeMaps Go.MapKept
open Lx
def tkVs : List Tk → List Value
  | [] => []
  | p :: l => .int .i64 p.kind :: .string (bs p.text) :: .int .i64 p.n :: .int .i64 p.pos :: tkVs l
theorem tkVs_length (l : List Tk) : (tkVs l).length = l.length * 4 := by
  induction l with
  | nil => rfl
  | cons a l ih => simp [tkVs, ih]; omega
theorem tkVs_app (l m : List Tk) : tkVs (l ++ m) = tkVs l ++ tkVs m := by
  induction l with
  | nil => rfl
  | cons a l ih => simp [tkVs, ih]
theorem tk_at {l : List Tk} {k : Nat} {p : Tk} (h : l[k]? = some p) : (tkVs l)[k * 4]? = some (.int .i64 p.kind) ∧ (tkVs l)[k * 4 + 1]? = some (.string (bs p.text)) ∧ (tkVs l)[k * 4 + 2]? = some (.int .i64 p.n) ∧ (tkVs l)[k * 4 + 3]? = some (.int .i64 p.pos) := by
  induction l generalizing k with
  | nil => simp at h
  | cons a l ih =>
    cases k with
    | zero => simp at h; subst h; exact ⟨rfl, rfl, rfl, rfl⟩
    | succ k =>
      have := ih (k := k) (by simpa using h)
      rw [show (k + 1) * 4 = k * 4 + 1 + 1 + 1 + 1 by omega]
      simpa [tkVs] using this
theorem tk_one (l : List Tk) : ∀ u ∈ tkVs l, u.oneCell' = true := by
  induction l with
  | nil => intro u hu; cases hu
  | cons a l ih =>
    intro u hu
    simp only [tkVs, List.mem_cons] at hu
    rcases hu with rfl | rfl | rfl | rfl | hu
    · rfl
    · rfl
    · rfl
    · rfl
    · exact ih u hu
/-- Where a token lies. -/
def TkCells (w : World) (b o : Nat) (p : Tk) : Prop := w.cell? ⟨b, o, none⟩ = some (.int .i64 p.kind) ∧ w.cell? ⟨b, o + 1, none⟩ = some (.string (bs p.text)) ∧ w.cell? ⟨b, o + 2, none⟩ = some (.int .i64 p.n) ∧ w.cell? ⟨b, o + 3, none⟩ = some (.int .i64 p.pos)
/-- A slice of tokens that is read. -/
def TkAt (w : World) (v : Value) (l : List Tk) : Prop := ∃ a cap, v = .slice a l.length cap ∧ (l.length ≤ cap ∧ (a = none → cap = 0)) ∧ ∀ (k : Nat) (p : Tk), l[k]? = some p → ∃ b off, a = some ⟨b, off, none⟩ ∧ TkCells w b (off + k * 4) p
theorem TkAt.keep {w w' : World} {v : Value} {l : List Tk} (h : TkAt w v l) (hb : Below w.heap.size w w') : TkAt w' v l := by
  obtain ⟨a, cap, hv, hl, hc⟩ := h
  refine ⟨a, cap, hv, hl, fun k o hk => ?_⟩
  obtain ⟨b, off, h1, c0, c1, c2, c3⟩ := hc k o hk
  exact ⟨b, off, h1, below_cell c0 hb, below_cell c1 hb, below_cell c2 hb, below_cell c3 hb⟩
theorem TkAt.nil (w : World) : TkAt w (.slice none 0 0) [] := ⟨none, 0, rfl, ⟨Nat.le_refl _, fun _ => rfl⟩, fun k u hk => by simp at hk⟩
theorem TkAt.of_own {w : World} {base : Nat} {e : TypeId} {v : Value} {n : Nat} {l : List Tk} (h : w.ownsRow base e 4 v n (tkVs l)) : TkAt w v l := by
  have hn : n = l.length := by have := h.1; rw [tkVs_length] at this; omega
  subst hn
  rcases h.2 with ⟨rfl, h0⟩ | ⟨g, cap, cur, rfl, _, _, hcap, _⟩
  · have : l = [] := List.eq_nil_of_length_eq_zero h0
    subst this
    exact TkAt.nil w
  · refine ⟨_, cap, rfl, ⟨hcap, fun e => by cases e⟩, fun k p hk => ⟨g, 0, rfl, ?_⟩⟩
    have h0 := h.cells rfl _ _ (tk_at hk).1
    have h1 := h.cells rfl _ _ (tk_at hk).2.1
    have h2 := h.cells rfl _ _ (tk_at hk).2.2.1
    have h3 := h.cells rfl _ _ (tk_at hk).2.2.2
    rw [Lib.add_plain] at h0 h1 h2 h3
    exact ⟨h0, h1, h2, h3⟩
theorem TkAt.slice {w : World} {v : Value} {l : List Tk} (h : TkAt w v l) : ∃ a c, v = .slice a l.length c := by obtain ⟨a, c, hv, _⟩ := h; exact ⟨a, c, hv⟩
/-- A slice that is not empty. -/
theorem TkAt.form {w : World} {v : Value} {l : List Tk} (h : TkAt w v l) (h0 : 0 < l.length) : ∃ b off cap, v = .slice (some ⟨b, off, none⟩) l.length cap ∧ l.length ≤ cap ∧ ∀ (k : Nat) (p : Tk), l[k]? = some p → TkCells w b (off + k * 4) p := by
  obtain ⟨a, cap, hv, hl, hc⟩ := h
  obtain ⟨b, off, rfl, _⟩ := hc 0 _ (List.getElem?_eq_getElem h0)
  refine ⟨b, off, cap, hv, hl.1, fun k p hk => ?_⟩
  obtain ⟨b', off', h1, h2⟩ := hc k p hk
  cases h1
  exact h2
theorem token_info : (Tryd.prog.info? 25).map (fun i => (i.zero, i.size, i.bytes)) = some (some (.agg #[.int .i64 0, .string ⟨#[]⟩, .int .i64 0, .int .i64 0]), 4, 40) := by kernel_rfl
theorem run_pushK (w : World) (v u : Value) (ks ps : List Tk) (hown : w.ownsRow 0 25 4 v ks.length (tkVs ks)) (hu : TkAt w u ps) (hn : ks.length + ps.length ≤ 100000) :
    ∃ a c w', (Builtin.append_ #[22, 22] 22 #[v, u]).run Tryd.prog w = .ok (.slice a (ks.length + ps.length) c) w' ∧ w'.ownsRow 0 25 4 (.slice a (ks.length + ps.length) c) (ks.length + ps.length) (tkVs (ks ++ ps)) ∧ w.grownBy w' v.ownBlock ∧
      ((Value.slice a (ks.length + ps.length) c).ownBlock = v.ownBlock ∨ (Value.slice a (ks.length + ps.length) c).ownBlock = some w.heap.size) := by
  obtain ⟨i0, hi, hz0, hz1, hz2⟩ := info_parts token_info
  by_cases h0 : ps.length = 0
  · obtain rfl := List.eq_nil_of_length_eq_zero h0
    obtain ⟨a, cap, rfl, ⟨_, hn0⟩, _⟩ := hu
    cases a with
    | none =>
      obtain rfl := hn0 rfl
      have hr := run_append_owned_none (P := Tryd.prog) (w := w) 0 22 22 25 i0 4 Tryd.underlying22 hi v ks.length _ hown
      obtain ⟨a', c', hv⟩ := own_form hown
      subst hv
      rw [List.append_nil]
      exact ⟨a', c', w, hr, hown, ⟨rfl, rfl, rfl, Nat.le_refl _, fun _ _ _ => rfl⟩, .inl rfl⟩
    | some x =>
      obtain ⟨v', w', r1, r2, r3, _, r5⟩ := run_append_own_at (P := Tryd.prog) w 0 22 22 25 i0 (.agg #[.int .i64 0, .string ⟨#[]⟩, .int .i64 0, .int .i64 0]) 4 40 Tryd.underlying22 hi hz0 hz1 hz2 rfl (by decide) v ks.length _ hown x 0 cap [] rfl (fun j u hj => by simp at hj) (fun u hu => by cases hu) (by unfold maxLen; omega) (by omega) (Nat.zero_le _)
      rw [List.append_nil] at r2 ⊢
      obtain ⟨a', c', hv⟩ := own_form r2
      subst hv
      exact ⟨a', c', w', r1, r2, r3, r5⟩
  · obtain ⟨b, off, cap, rfl, hl, hc⟩ := hu.form (by omega)
    have hcell : ∀ j u, (tkVs ps)[j]? = some u → w.cell? ((⟨b, off, none⟩ : Addr).add j) = some u := by
      intro j u hj
      have hj2 : j < ps.length * 4 := by have := (List.getElem?_eq_some_iff.1 hj).1; rwa [tkVs_length] at this
      have hk : j / 4 < ps.length := by omega
      have hp := List.getElem?_eq_getElem hk
      have h1 := tk_at hp
      have h2 := hc _ _ hp
      rw [Lib.add_plain]
      have hm : j = j / 4 * 4 ∨ j = j / 4 * 4 + 1 ∨ j = j / 4 * 4 + 2 ∨ j = j / 4 * 4 + 3 := by omega
      rcases hm with hm | hm | hm | hm
      · rw [hm] at hj ⊢
        rw [h1.1] at hj; cases hj
        exact h2.1
      · rw [hm] at hj ⊢
        rw [h1.2.1] at hj; cases hj
        exact h2.2.1
      · rw [hm] at hj ⊢
        rw [h1.2.2.1] at hj; cases hj
        exact h2.2.2.1
      · rw [hm] at hj ⊢
        rw [h1.2.2.2] at hj; cases hj
        exact h2.2.2.2
    obtain ⟨v', w', r1, r2, r3, _, r5⟩ := run_append_own_at (P := Tryd.prog) w 0 22 22 25 i0 (.agg #[.int .i64 0, .string ⟨#[]⟩, .int .i64 0, .int .i64 0]) 4 40 Tryd.underlying22 hi hz0 hz1 hz2 rfl (by decide) v ks.length _ hown ⟨b, off, none⟩ ps.length cap (tkVs ps) (tkVs_length _) hcell (tk_one _) (by unfold maxLen; omega) (by omega) (Nat.zero_le _)
    rw [← tkVs_app] at r2
    obtain ⟨a, c, rfl⟩ := own_form r2
    exact ⟨a, c, w', r1, r2, r3, r5⟩
theorem own_token (w : World) (p : Tk) : (w.alloc (.cells #[.int .i64 p.kind, .string (bs p.text), .int .i64 p.n, .int .i64 p.pos] 25)).ownsRow 0 25 4 (.slice (some ⟨w.heap.size, 0, none⟩) 1 1) 1 (tkVs [p]) :=
  World.ownsRow_lit w #[.int .i64 p.kind, .string (bs p.text), .int .i64 p.n, .int .i64 p.pos] 1 (Nat.zero_le _) (by decide) rfl
theorem tks_lit (w : World) (l : List Tk) (hl : l.length ≤ 100) : TkAt (w.alloc (.cells (tkVs l).toArray 25)) (.slice (some ⟨w.heap.size, 0, none⟩) l.length l.length) l :=
  TkAt.of_own (World.ownsRow_lit (e := 25) (size := 4) (base := 0) w (tkVs l).toArray l.length (Nat.zero_le _) (by unfold maxLen; omega) (by simp [tkVs_length]))
section
variable {w0 w : World} {os : List Ob} {i : Nat} {v : Value} {ks : List Tk}
theorem OMem.pushK (h : OMem w0 w os) (hi : os[i]? = some (.row 25 4 v ks.length (tkVs ks))) (p : Tk) (hn : ks.length ≤ 5000) :
    ∃ a c w', (Builtin.append_ #[22, 22] 22 #[v, .slice (some ⟨w.heap.size, 0, none⟩) 1 1]).run Tryd.prog (w.alloc (.cells #[.int .i64 p.kind, .string (bs p.text), .int .i64 p.n, .int .i64 p.pos] 25)) = .ok (.slice a (ks.length + 1) c) w' ∧
      OMem w0 w' (os.set i (.row 25 4 (.slice a (ks.length + 1) c) (ks.length + 1) (tkVs (ks ++ [p])))) := by
  have hb2 := (Below.refl w.heap.size w).alloc (Nat.le_refl _) (.cells #[.int .i64 p.kind, .string (bs p.text), .int .i64 p.n, .int .i64 p.pos] 25)
  have h2 := h.fresh hb2
  obtain ⟨a, c, w', r1, r2, r3, r4⟩ := run_pushK _ v _ ks [p] (h2.rowAt hi) (TkAt.of_own (own_token w p)) (by simp; omega)
  have e : ks.length + [p].length = ks.length + 1 := by simp
  rw [e] at r1 r2 r4
  exact ⟨a, c, w', r1, h2.rowGrow hi r3 r2 r4⟩
end
end Go.Proofs.YtenbdnkipkfpkaaDoor
