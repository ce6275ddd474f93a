/- Slices of shares and of numbers: how they lie in memory; make, append, parts, stores. -/
import Derived.Test.YtemokedoeneibaaSNum
import Derived.Test.YtemokedoeneibaaLag
import Derived.Test.YtemokedoeneibaaObj
import Derived.Laws.OwnMore
import Derived.Lib.AppendZeros
namespace Go.Proofs.Ytemokedoeneibaa
open Go.RowKit Go.Maps Go.ChangeMaps Go.MapKept
open Sp

def ptVs : List Pt → List Value
  | [] => []
  | p :: l => .int .i64 p.1 :: .int .i64 p.2 :: ptVs l
theorem ptVs_length (l : List Pt) : (ptVs l).length = l.length * 2 := by
  induction l with
  | nil => rfl
  | cons a l ih => simp [ptVs, ih]; omega
theorem ptVs_app (l m : List Pt) : ptVs (l ++ m) = ptVs l ++ ptVs m := by
  induction l with
  | nil => rfl
  | cons a l ih => simp [ptVs, ih]
theorem pt_at {l : List Pt} {k : Nat} {p : Pt} (h : l[k]? = some p) : (ptVs l)[k * 2]? = some (.int .i64 p.1) ∧ (ptVs l)[k * 2 + 1]? = some (.int .i64 p.2) := by
  induction l generalizing k with
  | nil => simp at h
  | cons a l ih =>
    cases k with
    | zero => simp at h; subst h; exact ⟨rfl, rfl⟩
    | succ k =>
      have := ih (k := k) (by simpa using h)
      rw [show (k + 1) * 2 = k * 2 + 1 + 1 by omega]
      simpa [ptVs] using this
theorem pt_set (l : List Pt) (k : Nat) (p : Pt) : ptVs (l.set k p) = ((ptVs l).set (k * 2) (.int .i64 p.1)).set (k * 2 + 1) (.int .i64 p.2) := by
  induction l generalizing k with
  | nil => simp [ptVs]
  | cons a l ih =>
    cases k with
    | zero => rfl
    | succ k =>
      rw [show (k + 1) * 2 = k * 2 + 1 + 1 by omega]
      simp [ptVs, ih]
theorem pt_set_y {l : List Pt} {k : Nat} {p : Pt} (h : l[k]? = some p) (y : Int) : ptVs (l.set k (p.1, y)) = (ptVs l).set (k * 2 + 1) (.int .i64 y) := by
  rw [pt_set, set_noop (pt_at h).1]
theorem pt_one (l : List Pt) : ∀ u ∈ ptVs l, u.oneCell' = true := by
  induction l with
  | nil => intro u hu; cases hu
  | cons a l ih =>
    intro u hu
    simp only [ptVs, List.mem_cons] at hu
    rcases hu with rfl | rfl | hu
    · rfl
    · rfl
    · exact ih u hu
/-- A slice of shares that is read. -/
def SharesAt (w : World) (v : Value) (l : List Pt) : Prop := ∃ a cap, v = .slice a l.length cap ∧ (l.length ≤ cap ∧ (a = none → cap = 0)) ∧ ∀ (k : Nat) (p : Pt), l[k]? = some p → ∃ b off, a = some ⟨b, off, none⟩ ∧
  w.cell? ⟨b, off + k * 2, none⟩ = some (.int .i64 p.1) ∧ w.cell? ⟨b, off + k * 2 + 1, none⟩ = some (.int .i64 p.2)
theorem SharesAt.keep {w w' : World} {v : Value} {l : List Pt} (h : SharesAt w v l) (hb : Below w.heap.size w w') : SharesAt w' v l := by
  obtain ⟨a, cap, hv, hl, hc⟩ := h
  refine ⟨a, cap, hv, hl, fun k o hk => ?_⟩
  obtain ⟨b, off, h1, c0, c1⟩ := hc k o hk
  exact ⟨b, off, h1, below_cell c0 hb, below_cell c1 hb⟩
theorem SharesAt.of_own {w : World} {base : Nat} {e : TypeId} {v : Value} {n : Nat} {l : List Pt} (h : w.ownsRow base e 2 v n (ptVs l)) : SharesAt w v l := by
  have hn : n = l.length := by have := h.1; rw [ptVs_length] at this; omega
  subst hn
  rcases h.2 with ⟨rfl, h0⟩ | ⟨g, cap, cur, rfl, _, _, hcap, _⟩
  · have : l = [] := List.eq_nil_of_length_eq_zero h0
    subst this
    exact ⟨none, 0, rfl, ⟨Nat.le_refl _, fun _ => rfl⟩, fun k u hk => by simp at hk⟩
  · refine ⟨_, cap, rfl, ⟨hcap, fun e => by cases e⟩, fun k p hk => ⟨g, 0, rfl, ?_⟩⟩
    have h0 := h.cells rfl _ _ (pt_at hk).1
    have h1 := h.cells rfl _ _ (pt_at hk).2
    rw [Lib.add_plain] at h0 h1
    exact ⟨h0, h1⟩
/-- A slice that is not empty. -/
theorem SharesAt.form {w : World} {v : Value} {l : List Pt} (h : SharesAt w v l) (h0 : 0 < l.length) : ∃ b off cap, v = .slice (some ⟨b, off, none⟩) l.length cap ∧ l.length ≤ cap ∧ ∀ (k : Nat) (p : Pt), l[k]? = some p →
    w.cell? ⟨b, off + k * 2, none⟩ = some (.int .i64 p.1) ∧ w.cell? ⟨b, off + k * 2 + 1, none⟩ = some (.int .i64 p.2) := by
  obtain ⟨a, cap, hv, hl, hc⟩ := h
  obtain ⟨b, off, rfl, _⟩ := hc 0 _ (List.getElem?_eq_getElem h0)
  refine ⟨b, off, cap, hv, hl.1, fun k p hk => ?_⟩
  obtain ⟨b', off', h1, h2⟩ := hc k p hk
  cases h1
  exact h2
theorem SharesAt.at_ {w : World} {b off n cap : Nat} {l : List Pt} (h : SharesAt w (.slice (some ⟨b, off, none⟩) n cap) l) {k : Nat} {p : Pt} (hk : l[k]? = some p) :
    w.cell? ⟨b, off + k * 2, none⟩ = some (.int .i64 p.1) ∧ w.cell? ⟨b, off + k * 2 + 1, none⟩ = some (.int .i64 p.2) := by
  obtain ⟨a, cap', hv, _, hc⟩ := h
  cases hv
  obtain ⟨b', off', h1, h2⟩ := hc k p hk
  cases h1
  exact h2
theorem SharesAt.take {w : World} {b off n cap : Nat} {l : List Pt} (h : SharesAt w (.slice (some ⟨b, off, none⟩) n cap) l) {k : Nat} (hk : k ≤ l.length) : SharesAt w (.slice (some ⟨b, off, none⟩) k cap) (l.take k) := by
  obtain ⟨a, cap', hv, hl, hc⟩ := h
  cases hv
  refine ⟨_, cap, by rw [List.length_take, Nat.min_eq_left hk], ⟨by rw [List.length_take]; omega, fun e => by cases e⟩, fun j p hj => ?_⟩
  rw [List.getElem?_take] at hj
  split at hj
  · exact hc j p hj
  · cases hj
theorem SharesAt.drop {w : World} {b off n cap : Nat} {l : List Pt} (h : SharesAt w (.slice (some ⟨b, off, none⟩) n cap) l) {k : Nat} (hk : k ≤ l.length) : SharesAt w (.slice (some ⟨b, off + k * 2, none⟩) (l.length - k) (cap - k)) (l.drop k) := by
  obtain ⟨a, cap', hv, hl, hc⟩ := h
  cases hv
  refine ⟨_, cap - k, by rw [List.length_drop], ⟨by rw [List.length_drop]; omega, fun e => by cases e⟩, fun j p hj => ?_⟩
  rw [List.getElem?_drop] at hj
  obtain ⟨b', off', h1, h2, h3⟩ := hc (k + j) p hj
  cases h1
  refine ⟨b, off + k * 2, rfl, ?_, ?_⟩
  · rw [show off + k * 2 + j * 2 = off + (k + j) * 2 by omega]; exact h2
  · rw [show off + k * 2 + j * 2 + 1 = off + (k + j) * 2 + 1 by omega]; exact h3
theorem share_info : (Try.prog.info? 39).map (fun i => (i.zero, i.size, i.bytes)) = some (some (.agg #[.int .i64 0, .int .i64 0]), 2, 16) := by kernel_rfl
/-- Shares go onto a row of shares. -/
theorem run_push (w : World) (v u : Value) (ks ps : List Pt) (hown : w.ownsRow 0 39 2 v ks.length (ptVs ks)) (hu : SharesAt w u ps) (hn : ks.length + ps.length ≤ 100000) :
    ∃ a c w', (Builtin.append_ #[22, 22] 22 #[v, u]).run Try.prog w = .ok (.slice a (ks.length + ps.length) c) w' ∧ w'.ownsRow 0 39 2 (.slice a (ks.length + ps.length) c) (ks.length + ps.length) (ptVs (ks ++ ps)) ∧ w.grownBy w' v.ownBlock ∧
      ((Value.slice a (ks.length + ps.length) c).ownBlock = v.ownBlock ∨ (Value.slice a (ks.length + ps.length) c).ownBlock = some w.heap.size) := by
  obtain ⟨i0, hi, hz0, hz1, hz2⟩ := info_parts share_info
  by_cases h0 : ps.length = 0
  · obtain rfl := List.eq_nil_of_length_eq_zero h0
    obtain ⟨a, cap, rfl, ⟨_, hn0⟩, _⟩ := hu
    cases a with
    | none =>
      obtain rfl := hn0 rfl
      have hr := run_append_owned_none (P := Try.prog) (w := w) 0 22 22 39 i0 2 Try.underlying22 hi v ks.length _ hown
      obtain ⟨a', c', hv⟩ := own_form hown
      subst hv
      rw [List.append_nil]
      exact ⟨a', c', w, hr, hown, ⟨rfl, rfl, rfl, Nat.le_refl _, fun _ _ _ => rfl⟩, .inl rfl⟩
    | some x =>
      obtain ⟨v', w', r1, r2, r3, _, r5⟩ := run_append_own_at (P := Try.prog) w 0 22 22 39 i0 (.agg #[.int .i64 0, .int .i64 0]) 2 16 Try.underlying22 hi hz0 hz1 hz2 rfl (by decide) v ks.length _ hown x 0 cap [] rfl (fun j u hj => by simp at hj) (fun u hu => by cases hu) (by unfold maxLen; omega) (by omega) (Nat.zero_le _)
      rw [List.append_nil] at r2 ⊢
      obtain ⟨a', c', hv⟩ := own_form r2
      subst hv
      exact ⟨a', c', w', r1, r2, r3, r5⟩
  · obtain ⟨b, off, cap, rfl, hl, hc⟩ := hu.form (by omega)
    have hcell : ∀ j u, (ptVs ps)[j]? = some u → w.cell? ((⟨b, off, none⟩ : Addr).add j) = some u := by
      intro j u hj
      have hj2 : j < ps.length * 2 := by have := (List.getElem?_eq_some_iff.1 hj).1; rwa [ptVs_length] at this
      have hk : j / 2 < ps.length := by omega
      have hp := List.getElem?_eq_getElem hk
      have h1 := pt_at hp
      have h2 := hc _ _ hp
      rw [Lib.add_plain]
      rcases Nat.mod_two_eq_zero_or_one j with hm | hm
      · rw [show j = j / 2 * 2 by omega] at hj ⊢
        rw [h1.1] at hj; cases hj
        exact h2.1
      · rw [show j = j / 2 * 2 + 1 by omega] at hj ⊢
        rw [h1.2] at hj; cases hj
        exact h2.2
    obtain ⟨v', w', r1, r2, r3, _, r5⟩ := run_append_own_at (P := Try.prog) w 0 22 22 39 i0 (.agg #[.int .i64 0, .int .i64 0]) 2 16 Try.underlying22 hi hz0 hz1 hz2 rfl (by decide) v ks.length _ hown ⟨b, off, none⟩ ps.length cap (ptVs ps) (ptVs_length _) hcell (pt_one _) (by unfold maxLen; omega) (by omega) (Nat.zero_le _)
    rw [← ptVs_app] at r2
    obtain ⟨a, c, rfl⟩ := own_form r2
    exact ⟨a, c, w', r1, r2, r3, r5⟩
theorem made_pts (n : Nat) : (madeCells #[Value.int .i64 0, .int .i64 0] (n * 2)).toList = ptVs (List.replicate n (0, 0)) := by
  apply List.ext_getElem?
  intro j
  by_cases hj : j < n * 2
  · have hk : j / 2 < n := by omega
    have hp : (List.replicate n ((0, 0) : Pt))[j / 2]? = some (0, 0) := by simp [hk]
    have h1 := pt_at hp
    rcases Nat.mod_two_eq_zero_or_one j with hm | hm
    · rw [show (ptVs (List.replicate n (0, 0)))[j]? = (ptVs (List.replicate n (0, 0)))[j / 2 * 2]? by congr 1; omega, h1.1]
      simp [madeCells, hj, hm]
    · rw [show (ptVs (List.replicate n (0, 0)))[j]? = (ptVs (List.replicate n (0, 0)))[j / 2 * 2 + 1]? by congr 1; omega, h1.2]
      simp [madeCells, hj, hm]
  · rw [List.getElem?_eq_none (by rw [Array.length_toList, size_madeCells]; omega), List.getElem?_eq_none (by rw [ptVs_length, List.length_replicate]; omega)]
theorem make_ints (w : World) (n : Nat) (hn : n ≤ 100000) : ∃ w', (Instr.makeSlice 43 (.int .i64 (n : Int)) (.int .i64 (n : Int))).run Try.prog w = .ok (.slice (some ⟨w.heap.size, 0, none⟩) n n) w' ∧
    w'.ownsRow 0 3 1 (.slice (some ⟨w.heap.size, 0, none⟩) n n) n (intVs (List.replicate n 0)) ∧ w.grownBy w' none := by
  obtain ⟨i0, hi, hz0, hz1, hz2⟩ := info_parts int_info
  obtain ⟨w', r1, r2, r3⟩ := run_make_full (P := Try.prog) w 0 43 3 i0 (.int .i64 0) 1 Try.underlying43 hi hz0 hz1 .i64 .i64 n (by rw [hz2]; omega) (by unfold maxLen; omega) (Nat.zero_le _)
  refine ⟨w', r1, ?_, r3⟩
  rw [show (madeCells (Value.int IntKind.i64 0).cells (n * 1)).toList = intVs (List.replicate n 0) by
    rw [Nat.mul_one]
    show (madeCells #[Value.int .i64 0] n).toList = _
    rw [toList_madeCells_one]; simp [intVs]] at r2
  exact r2
theorem make_shares (w : World) (n : Nat) (hn : n ≤ 100000) : ∃ w', (Instr.makeSlice 22 (.int .i64 (n : Int)) (.int .i64 (n : Int))).run Try.prog w = .ok (.slice (some ⟨w.heap.size, 0, none⟩) n n) w' ∧
    w'.ownsRow 0 39 2 (.slice (some ⟨w.heap.size, 0, none⟩) n n) n (ptVs (List.replicate n (0, 0))) ∧ w.grownBy w' none := by
  obtain ⟨i0, hi, hz0, hz1, hz2⟩ := info_parts share_info
  obtain ⟨w', r1, r2, r3⟩ := run_make_full (P := Try.prog) w 0 22 39 i0 (.agg #[.int .i64 0, .int .i64 0]) 2 Try.underlying22 hi hz0 hz1 .i64 .i64 n (by rw [hz2]; omega) (by unfold maxLen; omega) (Nat.zero_le _)
  refine ⟨w', r1, ?_, r3⟩
  rw [show (madeCells (Value.agg #[.int .i64 0, .int .i64 0]).cells (n * 2)).toList = ptVs (List.replicate n (0, 0)) from made_pts n] at r2
  exact r2
section
variable {w0 w w' : World} {os : List Ob} {i n n' g c size : Nat} {e : TypeId} {v v' : Value} {xs xs' : List Value}
/-- A slice that was just made. -/
theorem OMem.rowMade (h : OMem w0 w os) (hg : w.grownBy w' none) (ho : w'.ownsRow 0 e size (.slice (some ⟨w.heap.size, 0, none⟩) n c) n xs) : OMem w0 w' (os ++ [.row e size (.slice (some ⟨w.heap.size, 0, none⟩) n c) n xs]) :=
  h.make ⟨hg.os, hg.tape, hg.output, hg.size, fun x hx => hg.block x hx (by simp)⟩ (K := rowK e size (.slice (some ⟨w.heap.size, 0, none⟩) n c) n xs) (B := fun x => (Value.slice (some ⟨w.heap.size, 0, none⟩) n c).ownBlock = some x) ⟨ho, fun _ => Iff.rfl⟩ fun x hx => by
    have : w.heap.size = x := by simpa [Value.ownBlock] using hx
    omega
/-- A store into a slice. -/
theorem OMem.rowSet (h : OMem w0 w os) (hi : os[i]? = some (.row e size (.slice (some ⟨g, 0, none⟩) n c) n xs)) (j : Nat) (y : Value) : OMem w0 (w.setCell ⟨g, j, none⟩ y) (os.set i (.row e size (.slice (some ⟨g, 0, none⟩) n c) n (xs.set j y))) := by
  obtain ⟨B, hq, hch⟩ := h.change hi
  refine hch rfl rfl rfl (by rw [set_size]; exact Nat.le_refl _) (fun x _ hn => set_other fun e => hn ((hq.2 x).2 (by rw [e]; rfl))) (K' := rowK e size (.slice (some ⟨g, 0, none⟩) n c) n (xs.set j y)) (B' := B) ⟨own_set hq.1 j y, hq.2⟩ fun x hx => .inl hx
end
end Go.Proofs.Ytemokedoeneibaa
