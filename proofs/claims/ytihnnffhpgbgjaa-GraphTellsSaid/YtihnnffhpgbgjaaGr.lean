/- Graphs without cycles, as lists of nodes with ascending ids: what they say. No Go. -/
import Derived.KernelRfl
namespace Go.Proofs.Ytihnnffhpgbgjaa
namespace Gp
/-- A node: its id and its parents. -/
abbrev Nd := Int × List Int
def right (n : Nd) : Bool := decide ((0 ≤ n.1 ∧ n.1 < 100000) ∧ n.2.Pairwise (· < ·) ∧ ∀ p ∈ n.2, 0 ≤ p ∧ p < n.1)
theorem right_iff {n : Nd} : right n = true ↔ (0 ≤ n.1 ∧ n.1 < 100000) ∧ n.2.Pairwise (· < ·) ∧ ∀ p ∈ n.2, 0 ≤ p ∧ p < n.1 := decide_eq_true_iff
def ids (G : List Nd) : List Int := G.map (·.1)
def par (G : List Nd) (x : Int) : List Int := ((G.find? fun n => n.1 == x).map (·.2)).getD []
/-- A node at its place. -/
def ins (n : Nd) : List Nd → List Nd
  | [] => [n]
  | m :: l => if n.1 < m.1 then n :: m :: l else m :: ins n l
def add (G : List Nd) (n : Nd) : Int × List Nd :=
  if right n = true then if n.1 ∈ ids G then (if par G n.1 = n.2 then 0 else 5, G) else if ∀ p ∈ n.2, p ∈ ids G then (0, ins n G) else (14, G) else (1, G)
/-- A graph. -/
structure Ok (G : List Nd) : Prop where
  asc : (ids G).Pairwise (· < ·)
  rt : ∀ n ∈ G, right n = true
  cl : ∀ n ∈ G, ∀ p ∈ n.2, p ∈ ids G
theorem ok_nil : Ok [] := ⟨List.Pairwise.nil, (fun _ h => by cases h), (fun _ h => by cases h)⟩
theorem mem_ids {G : List Nd} {x : Int} : x ∈ ids G ↔ ∃ n ∈ G, n.1 = x := List.mem_map
theorem ids_of {G : List Nd} {n : Nd} (h : n ∈ G) : n.1 ∈ ids G := mem_ids.2 ⟨n, h, rfl⟩
theorem mem_ins {n m : Nd} : ∀ {G : List Nd}, m ∈ ins n G ↔ m = n ∨ m ∈ G
  | [] => by simp [ins]
  | a :: l => by
    unfold ins
    split
    · simp
    · rw [List.mem_cons, mem_ins (G := l), List.mem_cons]
      constructor
      · rintro (h | h | h)
        · exact .inr (.inl h)
        · exact .inl h
        · exact .inr (.inr h)
      · rintro (h | h | h)
        · exact .inr (.inl h)
        · exact .inl h
        · exact .inr (.inr h)
theorem mem_ids_ins {n : Nd} {G : List Nd} {x : Int} : x ∈ ids (ins n G) ↔ x = n.1 ∨ x ∈ ids G := by
  simp only [mem_ids, mem_ins]
  constructor
  · rintro ⟨m, rfl | h, rfl⟩
    · exact .inl rfl
    · exact .inr ⟨m, h, rfl⟩
  · rintro (rfl | ⟨m, h, rfl⟩)
    · exact ⟨n, .inl rfl, rfl⟩
    · exact ⟨m, .inr h, rfl⟩
theorem ins_len (n : Nd) : ∀ G : List Nd, (ins n G).length = G.length + 1
  | [] => rfl
  | a :: l => by
    unfold ins
    split
    · rfl
    · rw [List.length_cons, ins_len n l, List.length_cons]
theorem ins_asc {n : Nd} : ∀ {G : List Nd}, (ids G).Pairwise (· < ·) → n.1 ∉ ids G → (ids (ins n G)).Pairwise (· < ·)
  | [], _, _ => by simp [ins, ids]
  | a :: l, h, hn => by
    obtain ⟨h1, h2⟩ := List.pairwise_cons.1 (show (a.1 :: ids l).Pairwise (· < ·) from h)
    have hna : n.1 ≠ a.1 := fun e => hn (by rw [e]; exact ids_of (by simp))
    unfold ins
    split
    · rename_i hlt
      show (n.1 :: a.1 :: ids l).Pairwise (· < ·)
      refine List.pairwise_cons.2 ⟨fun x hx => ?_, h⟩
      rcases List.mem_cons.1 hx with rfl | hx
      · exact hlt
      · have := h1 x hx; omega
    · rename_i hlt
      show (a.1 :: ids (ins n l)).Pairwise (· < ·)
      refine List.pairwise_cons.2 ⟨fun x hx => ?_, ins_asc h2 fun q => hn (by rw [mem_ids] at q ⊢; obtain ⟨m, hm, e⟩ := q; exact ⟨m, by simp [hm], e⟩)⟩
      rcases mem_ids_ins.1 hx with rfl | hx
      · omega
      · exact h1 x hx
theorem find_of {G : List Nd} (h : (ids G).Pairwise (· < ·)) {n : Nd} (hn : n ∈ G) : (G.find? fun m => m.1 == n.1) = some n := by
  induction G with
  | nil => cases hn
  | cons a l ih =>
    obtain ⟨h1, h2⟩ := List.pairwise_cons.1 (show (a.1 :: ids l).Pairwise (· < ·) from h)
    rcases List.mem_cons.1 hn with rfl | hn
    · simp
    · have hne : a.1 ≠ n.1 := by have := h1 n.1 (ids_of hn); omega
      rw [List.find?_cons_of_neg (by simpa using hne)]
      exact ih h2 hn
theorem par_of {G : List Nd} (h : (ids G).Pairwise (· < ·)) {n : Nd} (hn : n ∈ G) : par G n.1 = n.2 := by
  unfold par; rw [find_of h hn]; rfl
theorem par_no {G : List Nd} {x : Int} (h : x ∉ ids G) : par G x = [] := by
  unfold par
  rw [List.find?_eq_none.2 fun n hn => by
    intro e
    exact h (mem_ids.2 ⟨n, hn, by simpa using e⟩)]
  rfl
theorem par_ins {G : List Nd} {n : Nd} (h : (ids G).Pairwise (· < ·)) (hn : n.1 ∉ ids G) (x : Int) : par (ins n G) x = if x = n.1 then n.2 else par G x := by
  have ha := ins_asc h hn
  by_cases e : x = n.1
  · subst e; rw [if_pos rfl]; exact par_of ha (mem_ins.2 (.inl rfl))
  · rw [if_neg e]
    by_cases hx : x ∈ ids G
    · obtain ⟨m, hm, rfl⟩ := mem_ids.1 hx
      rw [par_of ha (mem_ins.2 (.inr hm)), par_of h hm]
    · rw [par_no hx, par_no fun q => (mem_ids_ins.1 q).elim e hx]
theorem add_ok {G : List Nd} (h : Ok G) (n : Nd) : Ok (add G n).2 := by
  unfold add
  split
  · rename_i hr
    split
    · exact h
    · rename_i hn
      split
      · rename_i hp
        refine ⟨ins_asc h.asc hn, fun m hm => ?_, fun m hm p hpm => ?_⟩
        · rcases mem_ins.1 hm with rfl | hm
          · exact hr
          · exact h.rt m hm
        · rcases mem_ins.1 hm with rfl | hm
          · exact mem_ids_ins.2 (.inr (hp p hpm))
          · exact mem_ids_ins.2 (.inr (h.cl m hm p hpm))
      · exact h
  · exact h
section
variable {G : List Nd}
theorem Ok.lt (h : Ok G) {x p : Int} (hp : p ∈ par G x) : (0 ≤ p ∧ p < x) ∧ p ∈ ids G ∧ x ∈ ids G := by
  by_cases hx : x ∈ ids G
  · obtain ⟨n, hn, rfl⟩ := mem_ids.1 hx
    rw [par_of h.asc hn] at hp
    exact ⟨(right_iff.1 (h.rt n hn)).2.2 p hp, h.cl n hn p hp, hx⟩
  · rw [par_no hx] at hp; cases hp
theorem Ok.range (h : Ok G) {x : Int} (hx : x ∈ ids G) : 0 ≤ x ∧ x < 100000 := by
  obtain ⟨n, hn, rfl⟩ := mem_ids.1 hx
  exact (right_iff.1 (h.rt n hn)).1
theorem Ok.nodup (h : Ok G) : (ids G).Nodup := h.asc.imp fun h => Int.ne_of_lt h
end
/-- a is in the past of b. -/
inductive Anc (G : List Nd) (a : Int) : Int → Prop
  | par {b : Int} (h : a ∈ par G b) : Anc G a b
  | step {b p : Int} (hp : p ∈ par G b) (h : Anc G a p) : Anc G a b
section
variable {G : List Nd} {a b c : Int}
theorem anc_iff : Anc G a b ↔ a ∈ par G b ∨ ∃ p ∈ par G b, Anc G a p := by
  constructor
  · rintro (h | ⟨hp, h⟩)
    · exact .inl h
    · exact .inr ⟨_, hp, h⟩
  · rintro (h | ⟨p, hp, h⟩)
    · exact .par h
    · exact .step hp h
theorem Anc.trans (h : Anc G a b) (k : Anc G b c) : Anc G a c := by
  induction k with
  | par hp => exact .step hp h
  | step hp _ ih => exact .step hp ih
theorem Anc.lt (ok : Ok G) (h : Anc G a b) : (0 ≤ a ∧ a < b) ∧ a ∈ ids G ∧ b ∈ ids G := by
  induction h with
  | par hp => exact ok.lt hp
  | step hp _ ih =>
    have := ok.lt hp
    exact ⟨by omega, ih.2.1, this.2.2⟩
end

/-! ### Levels -/
/-- One more than the greatest, or 0. -/
def top (l : List Int) : Int := l.foldl (fun m v => max m (v + 1)) 0
theorem fold_ge : ∀ (l : List Int) (b : Int), b ≤ l.foldl (fun m v => max m (v + 1)) b ∧ (∀ v ∈ l, v + 1 ≤ l.foldl (fun m v => max m (v + 1)) b) ∧ (l.foldl (fun m v => max m (v + 1)) b = b ∨ ∃ v ∈ l, l.foldl (fun m v => max m (v + 1)) b = v + 1)
  | [], b => ⟨Int.le_refl _, (fun v h => by cases h), .inl rfl⟩
  | a :: l, b => by
    obtain ⟨h1, h2, h3⟩ := fold_ge l (max b (a + 1))
    simp only [List.foldl_cons]
    refine ⟨by omega, fun v hv => ?_, ?_⟩
    · rcases List.mem_cons.1 hv with rfl | hv
      · omega
      · exact h2 v hv
    · rcases h3 with h3 | ⟨v, hv, h3⟩
      · by_cases hba : a + 1 ≤ b
        · exact .inl (by omega)
        · exact .inr ⟨a, by simp, by omega⟩
      · exact .inr ⟨v, by simp [hv], h3⟩
theorem top_nonneg (l : List Int) : 0 ≤ top l := (fold_ge l 0).1
theorem top_ge {l : List Int} {v : Int} (h : v ∈ l) : v + 1 ≤ top l := (fold_ge l 0).2.1 v h
theorem top_is (l : List Int) : top l = 0 ∨ ∃ v ∈ l, top l = v + 1 := (fold_ge l 0).2.2
theorem top_le {l : List Int} {b : Int} (h0 : 0 ≤ b) (h : ∀ v ∈ l, v + 1 ≤ b) : top l ≤ b := by
  rcases top_is l with e | ⟨v, hv, e⟩
  · omega
  · have := h v hv; omega
theorem top_eq {l : List Int} {b : Int} (h0 : 0 ≤ b) (h : ∀ v ∈ l, v + 1 ≤ b) (h1 : b = 0 ∨ ∃ v ∈ l, b = v + 1) : top l = b := by
  have := top_le h0 h
  rcases h1 with rfl | ⟨v, hv, rfl⟩
  · have := top_nonneg l; omega
  · have := top_ge hv; omega
def levF (G : List Nd) : Nat → Int → Int
  | 0, _ => 0
  | f + 1, x => top ((par G x).map (levF G f))
open Classical in
noncomputable def lev (G : List Nd) (x : Int) : Int := if x ∈ ids G then levF G (x.toNat + 1) x else -1
theorem levF_same {G : List Nd} (ok : Ok G) : ∀ (f g : Nat) (x : Int), x.toNat < f → x.toNat < g → levF G f x = levF G g x
  | 0, _, _, h, _ => by omega
  | _ + 1, 0, _, _, h => by omega
  | f + 1, g + 1, x, h1, h2 => by
    unfold levF
    congr 1
    refine List.map_congr_left fun p hp => levF_same ok f g p ?_ ?_
    · have := (ok.lt hp).1; omega
    · have := (ok.lt hp).1; omega
section
variable {G : List Nd} {a b x : Int}
theorem lev_no (h : x ∉ ids G) : lev G x = -1 := if_neg h
theorem lev_eq (ok : Ok G) (h : x ∈ ids G) : lev G x = top ((par G x).map (lev G)) := by
  unfold lev
  rw [if_pos h]
  conv => lhs; unfold levF
  congr 1
  refine List.map_congr_left fun p hp => ?_
  have hl := ok.lt hp
  rw [if_pos hl.2.1]
  exact levF_same ok _ _ p (by omega) (by omega)
theorem lev_nonneg (ok : Ok G) (h : x ∈ ids G) : 0 ≤ lev G x := by rw [lev_eq ok h]; exact top_nonneg _
theorem lev_par (ok : Ok G) (h : a ∈ par G b) : lev G a < lev G b := by
  rw [lev_eq ok (ok.lt h).2.2]
  have := top_ge (List.mem_map.2 ⟨a, h, rfl⟩ : lev G a ∈ (par G b).map (lev G))
  omega
theorem lev_anc (ok : Ok G) (h : Anc G a b) : lev G a < lev G b := by
  induction h with
  | par hp => exact lev_par ok hp
  | step hp _ ih => have := lev_par ok hp; omega
/-- A level has a chain below it: there are more nodes than levels. -/
theorem lev_chain (ok : Ok G) : ∀ (m : Nat) (x : Int), x ∈ ids G → lev G x = (m : Int) → ∃ l : List Int, l.length = m + 1 ∧ l.Nodup ∧ ∀ y ∈ l, y ∈ ids G ∧ lev G y ≤ (m : Int)
  | 0, x, hx, h => ⟨[x], rfl, by simp, fun y hy => by simp at hy; subst hy; exact ⟨hx, by omega⟩⟩
  | m + 1, x, hx, h => by
    have h1 := lev_eq ok hx
    rcases top_is ((par G x).map (lev G)) with e | ⟨v, hv, e⟩
    · omega
    · obtain ⟨p, hp, rfl⟩ := List.mem_map.1 hv
      obtain ⟨l, l1, l2, l3⟩ := lev_chain ok m p (ok.lt hp).2.1 (by omega)
      refine ⟨x :: l, by simp [l1], List.nodup_cons.2 ⟨fun hm => by have := (l3 x hm).2; omega, l2⟩, fun y hy => ?_⟩
      rcases List.mem_cons.1 hy with rfl | hy
      · exact ⟨hx, by omega⟩
      · have := l3 y hy; exact ⟨this.1, by omega⟩
theorem lev_lt (ok : Ok G) (hx : x ∈ ids G) : lev G x < (G.length : Int) := by
  have h0 := lev_nonneg ok hx
  obtain ⟨l, l1, l2, l3⟩ := lev_chain ok (lev G x).toNat x hx (by omega)
  have := l2.length_le_of_subset (l₂ := ids G) fun y hy => (l3 y hy).1
  rw [l1, show (ids G).length = G.length by simp [ids]] at this
  omega
end
end Gp
end Go.Proofs.Ytihnnffhpgbgjaa
