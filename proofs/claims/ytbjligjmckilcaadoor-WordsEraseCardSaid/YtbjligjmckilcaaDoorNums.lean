/- Slices of numbers that are read; append, parts; calls that only read. No layer's own. -/
import Derived.Test.YtbjligjmckilcaaDoorObj7
import Derived.Laws.OwnMore
import Derived.Lib.AppendZeros
namespace Go.Proofs.YtbjligjmckilcaaDoor
open Go.RowKit Go.Maps Go.ChangeMaps Go.MapKept
attribute [local go_sem ↓] Go.wp_at_zero Go.wp_at_succ

theorem Calls.same {P : Program} {f : FuncId} {args : Array Value} {w : World} {r : Ending} (h : Calls P f args w fun e w' => e = r ∧ w = w') : Calls P f args w fun e w' => e = r ∧ w' = w := h.mono fun _ _ ⟨h, e⟩ => ⟨h, e.symm⟩
theorem drewN_below (w : World) (n : Nat) : Below w.heap.size w (w.drewN n) := ⟨rfl, rfl, rfl, Nat.le_refl _, fun _ _ => rfl⟩
theorem below_grown {w w1 w' : World} {row : Option Nat} (hb : Below w.heap.size w w1) (hg : w1.grownBy w' row) (hr : ∀ x, row = some x → w.heap.size ≤ x) : Below w.heap.size w w' :=
  ⟨hg.os.trans hb.os, hg.tape.trans hb.tape, hg.output.trans hb.output, Nat.le_trans hb.size hg.size, fun x hx => by
    have hs := hb.size
    rw [hg.block x (by omega) (fun e => by have := hr x e.symm; omega), hb.block x hx]⟩
/-- A slice of numbers that is read. -/
def NumsAt (w : World) (v : Value) (l : List Int) : Prop := ∃ a cap, v = .slice a l.length cap ∧ (l.length ≤ cap ∧ (a = none → cap = 0)) ∧ ∀ (k : Nat) (z : Int), l[k]? = some z → ∃ b off, a = some ⟨b, off, none⟩ ∧ w.cell? ⟨b, off + k, none⟩ = some (.int .i64 z)
section
variable {w w' : World} {v : Value} {l : List Int}
theorem NumsAt.keep (h : NumsAt w v l) (hb : Below w.heap.size w w') : NumsAt w' v l := by
  obtain ⟨a, cap, hv, hl, hc⟩ := h
  refine ⟨a, cap, hv, hl, fun k z hk => ?_⟩
  obtain ⟨b, off, h1, c0⟩ := hc k z hk
  exact ⟨b, off, h1, below_cell c0 hb⟩
theorem NumsAt.nil (w : World) : NumsAt w (.slice none 0 0) [] := ⟨none, 0, rfl, ⟨Nat.le_refl _, fun _ => rfl⟩, fun k u hk => by simp at hk⟩
theorem NumsAt.of_own {base : Nat} {e : TypeId} {n : Nat} (h : w.ownsRow base e 1 v n (intVs l)) : NumsAt w v l := by
  have hn : n = l.length := by have := h.1; rw [intVs_length] at this; omega
  subst hn
  rcases h.2 with ⟨rfl, h0⟩ | ⟨g, cap, cur, rfl, _, _, hcap, _⟩
  · have : l = [] := List.eq_nil_of_length_eq_zero h0
    subst this
    exact NumsAt.nil w
  · refine ⟨_, cap, rfl, ⟨hcap, fun e => by cases e⟩, fun k p hk => ⟨g, 0, rfl, ?_⟩⟩
    have h0 := h.cells rfl k (.int .i64 p) (by simp [intVs, hk])
    rwa [Lib.add_plain] at h0
theorem NumsAt.slice (h : NumsAt w v l) : ∃ a c, v = .slice a l.length c := by obtain ⟨a, c, hv, _⟩ := h; exact ⟨a, c, hv⟩
theorem NumsAt.form (h : NumsAt w v l) (h0 : 0 < l.length) : ∃ b off cap, v = .slice (some ⟨b, off, none⟩) l.length cap ∧ l.length ≤ cap ∧ ∀ (k : Nat) (z : Int), l[k]? = some z → w.cell? ⟨b, off + k, none⟩ = some (.int .i64 z) := by
  obtain ⟨a, cap, hv, hl, hc⟩ := h
  obtain ⟨b, off, rfl, _⟩ := hc 0 _ (List.getElem?_eq_getElem h0)
  refine ⟨b, off, cap, hv, hl.1, fun k p hk => ?_⟩
  obtain ⟨b', off', h1, h2⟩ := hc k p hk
  cases h1
  exact h2
theorem NumsAt.at_ {b off n cap : Nat} (h : NumsAt w (.slice (some ⟨b, off, none⟩) n cap) l) {k : Nat} {z : Int} (hk : l[k]? = some z) : w.cell? ⟨b, off + k, none⟩ = some (.int .i64 z) := by
  obtain ⟨a, cap', hv, _, hc⟩ := h
  cases hv
  obtain ⟨b', off', h1, h2⟩ := hc k z hk
  cases h1
  exact h2
end
theorem run_pushN (w : World) (v u : Value) (ks ps : List Int) (hown : w.ownsRow 0 3 1 v ks.length (intVs ks)) (hu : NumsAt w u ps) (hn : ks.length + ps.length ≤ 100000) :
    ∃ a c w', (Builtin.append_ #[30, 30] 30 #[v, u]).run Tryd.prog w = .ok (.slice a (ks.length + ps.length) c) w' ∧ w'.ownsRow 0 3 1 (.slice a (ks.length + ps.length) c) (ks.length + ps.length) (intVs (ks ++ ps)) ∧ w.grownBy w' v.ownBlock ∧
      ((Value.slice a (ks.length + ps.length) c).ownBlock = v.ownBlock ∨ (Value.slice a (ks.length + ps.length) c).ownBlock = some w.heap.size) := by
  obtain ⟨i0, hi, hz0, hz1, hz2⟩ := info_parts int_info
  have hint : intVs (ks ++ ps) = intVs ks ++ intVs ps := by simp [intVs]
  obtain ⟨a, cap, rfl, ⟨_, hn0⟩, hc⟩ := hu
  cases a with
  | none =>
    obtain rfl := hn0 rfl
    have h0 : ps = [] := by
      cases ps with
      | nil => rfl
      | cons z l => obtain ⟨_, _, h1, _⟩ := hc 0 z rfl; cases h1
    subst h0
    have hr := run_append_owned_none (P := Tryd.prog) (w := w) 0 30 30 3 i0 1 Tryd.underlying30 hi v ks.length _ hown
    obtain ⟨a', c', hv⟩ := own_form hown
    subst hv
    rw [List.append_nil]
    exact ⟨a', c', w, hr, hown, ⟨rfl, rfl, rfl, Nat.le_refl _, fun _ _ _ => rfl⟩, .inl rfl⟩
  | some x =>
    have hcell : ∀ j u, (intVs ps)[j]? = some u → w.cell? (x.add j) = some u := by
      intro j u hj
      unfold intVs at hj
      rw [List.getElem?_map] at hj
      cases hz : ps[j]? with
      | none => rw [hz] at hj; cases hj
      | some z =>
        rw [hz] at hj; cases hj
        obtain ⟨b, off, h1, h2⟩ := hc j z hz
        cases h1
        rw [Lib.add_plain]; exact h2
    obtain ⟨v', w', r1, r2, r3, _, r5⟩ := run_append_own_at (P := Tryd.prog) w 0 30 30 3 i0 (.int .i64 0) 1 8 Tryd.underlying30 hi hz0 hz1 hz2 rfl (by decide) v ks.length _ hown x ps.length cap (intVs ps) (by rw [intVs_length, Nat.mul_one]) hcell (oneCell_ints _) (by unfold maxLen; omega) (by omega) (Nat.zero_le _)
    rw [← hint] at r2
    obtain ⟨a', c', hv⟩ := own_form r2
    subst hv
    exact ⟨a', c', w', r1, r2, r3, r5⟩
/-- One number in a new slice. -/
theorem own_int (w : World) (z : Int) : (w.alloc (.cells #[.int .i64 z] 3)).ownsRow 0 3 1 (.slice (some ⟨w.heap.size, 0, none⟩) 1 1) 1 (intVs [z]) :=
  World.ownsRow_lit w #[.int .i64 z] 1 (Nat.zero_le _) (by decide) rfl
theorem nums_one (w : World) (z : Int) : NumsAt (w.alloc (.cells #[.int .i64 z] 3)) (.slice (some ⟨w.heap.size, 0, none⟩) 1 1) [z] := NumsAt.of_own (own_int w z)
/-- Numbers in a new slice. -/
theorem nums_lit (w : World) (l : List Int) (hl : l.length ≤ 100) : NumsAt (w.alloc (.cells (intVs l).toArray 3)) (.slice (some ⟨w.heap.size, 0, none⟩) l.length l.length) l :=
  NumsAt.of_own (World.ownsRow_lit (e := 3) (size := 1) (base := 0) w (intVs l).toArray l.length (Nat.zero_le _) (by unfold maxLen; omega) (by simp [intVs]))
section
variable {w0 w : World} {os : List Ob} {i : Nat} {v : Value} {ks : List Int}
theorem OMem.pushN (h : OMem w0 w os) (hi : os[i]? = some (.row 3 1 v ks.length (intVs ks))) (z : Int) (hn : ks.length ≤ 1000) :
    ∃ a c w', (Builtin.append_ #[30, 30] 30 #[v, .slice (some ⟨w.heap.size, 0, none⟩) 1 1]).run Tryd.prog (w.alloc (.cells #[.int .i64 z] 3)) = .ok (.slice a (ks.length + 1) c) w' ∧
      OMem w0 w' (os.set i (.row 3 1 (.slice a (ks.length + 1) c) (ks.length + 1) (intVs (ks ++ [z])))) := by
  have hb2 := (Below.refl w.heap.size w).alloc (Nat.le_refl _) (.cells #[.int .i64 z] 3)
  have h2 := h.fresh hb2
  obtain ⟨a, c, w', r1, r2, r3, r4⟩ := run_pushN _ v _ ks [z] (h2.rowAt hi) (nums_one w z) (by simp; omega)
  have e : ks.length + [z].length = ks.length + 1 := by simp
  rw [e] at r1 r2 r4
  exact ⟨a, c, w', r1, h2.rowGrow hi r3 r2 r4⟩
end
/-- A copy of numbers in a new slice: append onto an empty literal. -/
theorem copyN_run {w : World} {u : Value} {l : List Int} (hu : NumsAt w u l) (hn : l.length ≤ 1000) :
    ∃ a c w', (Builtin.append_ #[30, 30] 30 #[.slice (some ⟨w.heap.size, 0, none⟩) 0 0, u]).run Tryd.prog (w.alloc (.cells #[] 3)) = .ok (.slice a l.length c) w' ∧
      w'.ownsRow 0 3 1 (.slice a l.length c) l.length (intVs l) ∧ Below w.heap.size w w' ∧ ∀ x, (Value.slice a l.length c).ownBlock = some x → w.heap.size ≤ x := by
  have hb := (Below.refl w.heap.size w).alloc (Nat.le_refl _) (.cells #[] 3)
  obtain ⟨a, c, w', h1, h2, h3, h4⟩ := run_pushN _ _ u [] l (World.ownsRow_lit w #[] 0 (e := 3) (size := 1) (base := 0) (Nat.zero_le _) (by decide) rfl) (hu.keep hb) (by simp; omega)
  have e : ([] : List Int).length + l.length = l.length := by simp
  rw [e, List.nil_append] at h2
  rw [e] at h1 h4
  refine ⟨a, c, w', h1, h2, below_grown hb h3 fun x hx => Nat.le_of_eq (by simpa [Value.ownBlock] using hx), fun x hx => ?_⟩
  rcases h4 with q | q
  · have := q.symm.trans hx; exact Nat.le_of_eq (by simpa [Value.ownBlock] using this)
  · have := q.symm.trans hx; simp at this; omega
theorem addN_run {w0 w : World} {v u : Value} {ks ps : List Int} (hb : Below w0.heap.size w0 w) (ho : w.ownsRow 0 3 1 v ks.length (intVs ks)) (hv : ∀ x, v.ownBlock = some x → w0.heap.size ≤ x) (hu : NumsAt w u ps) (hn : ks.length + ps.length ≤ 1000) :
    ∃ a c w', (Builtin.append_ #[30, 30] 30 #[v, u]).run Tryd.prog w = .ok (.slice a (ks.length + ps.length) c) w' ∧ NumsAt w' (.slice a (ks.length + ps.length) c) (ks ++ ps) ∧ Below w0.heap.size w0 w' := by
  obtain ⟨a, c, w', h1, h2, h3, h4⟩ := run_pushN _ v u ks ps ho hu (by omega)
  exact ⟨a, c, w', h1, NumsAt.of_own h2, below_grown hb h3 hv⟩
end Go.Proofs.YtbjligjmckilcaaDoor
