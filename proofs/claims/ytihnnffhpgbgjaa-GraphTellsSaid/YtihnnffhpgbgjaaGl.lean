/- Graphs: pasts, heads, what is sorted; parts. No Go. -/
import Derived.Test.YtihnnffhpgbgjaaGr
namespace Go.Proofs.Ytihnnffhpgbgjaa
namespace Gp
/-- Two lists in the same strict order with the same elements. -/
theorem sorted_ext {α : Type} {R : α → α → Prop} (as : ∀ a b, R a b → ¬ R b a) : ∀ l m : List α, l.Pairwise R → m.Pairwise R → (∀ x, x ∈ l ↔ x ∈ m) → l = m
  | [], [], _, _, _ => rfl
  | [], b :: m, _, _, h => by have := (h b).2 (by simp); cases this
  | a :: l, [], _, _, h => by have := (h a).1 (by simp); cases this
  | a :: l, b :: m, hl, hm, h => by
    obtain ⟨h1, h2⟩ := List.pairwise_cons.1 hl
    obtain ⟨h3, h4⟩ := List.pairwise_cons.1 hm
    have hab : a = b := by
      rcases List.mem_cons.1 ((h a).1 (by simp)) with e | q
      · exact e
      · rcases List.mem_cons.1 ((h b).2 (by simp)) with e | r
        · exact e.symm
        · exact (as _ _ (h3 a q) (h1 b r)).elim
    subst hab
    congr 1
    refine sorted_ext as l m h2 h4 fun x => ?_
    constructor
    · intro hx
      rcases List.mem_cons.1 ((h x).1 (by simp [hx])) with e | q
      · subst e; exact (as _ _ (h1 x hx) (h1 x hx)).elim
      · exact q
    · intro hx
      rcases List.mem_cons.1 ((h x).2 (by simp [hx])) with e | q
      · subst e; exact (as _ _ (h3 x hx) (h3 x hx)).elim
      · exact q
theorem asc_ext {l m : List Int} (hl : l.Pairwise (· < ·)) (hm : m.Pairwise (· < ·)) (h : ∀ x, x ∈ l ↔ x ∈ m) : l = m := sorted_ext (fun a b h1 h2 => by omega) l m hl hm h
/-- Two graphs with the same nodes are equal. -/
theorem graph_ext {G H : List Nd} (hG : (ids G).Pairwise (· < ·)) (hH : (ids H).Pairwise (· < ·)) (h : ∀ n, n ∈ G ↔ n ∈ H) : G = H :=
  sorted_ext (R := fun a b : Nd => a.1 < b.1) (fun a b h1 h2 => by omega) G H (List.pairwise_map.1 hG) (List.pairwise_map.1 hH) h
open Classical in
noncomputable def ancB (G : List Nd) (a b : Int) : Bool := decide (Anc G a b)
open Classical in
theorem ancB_iff {G : List Nd} {a b : Int} : ancB G a b = true ↔ Anc G a b := decide_eq_true_iff
open Classical in
theorem ancB_no {G : List Nd} {a b : Int} (h : ¬ Anc G a b) : ancB G a b = false := decide_eq_false h
theorem anc_same {G : List Nd} {a b : Int} {t : Bool} (h : t = true ↔ Anc G a b) : ancB G a b = t := by
  rw [Bool.eq_iff_iff, ancB_iff]; exact h.symm
noncomputable def inDown (G : List Nd) (xs : List Int) (x : Int) : Bool := xs.contains x || xs.any (ancB G x)
theorem inDown_iff {G : List Nd} {xs : List Int} {x : Int} : inDown G xs x = true ↔ x ∈ xs ∨ ∃ y ∈ xs, Anc G x y := by
  unfold inDown
  rw [Bool.or_eq_true, List.contains_iff_mem, List.any_eq_true]
  simp only [ancB_iff]
noncomputable def down (G : List Nd) (xs : List Int) : List Int := (ids G).filter (inDown G xs)
noncomputable def past (G : List Nd) (x : Int) : List Int := (ids G).filter fun y => ancB G y x
noncomputable def heads (G : List Nd) : List Int := (ids G).filter fun x => G.all fun n => !n.2.contains x
noncomputable def sorted (G : List Nd) (xs : List Int) : List Int := (List.range G.length).flatMap fun (v : Nat) => (ids G).filter fun x => decide (lev G x = (v : Int)) && xs.contains x
noncomputable def restrict (G : List Nd) (xs : List Int) : List Nd := G.filter fun n => inDown G xs n.1
section
variable {G : List Nd} {xs ys : List Int} {x y a b : Int}
theorem mem_down : x ∈ down G xs ↔ x ∈ ids G ∧ (x ∈ xs ∨ ∃ y ∈ xs, Anc G x y) := by
  unfold down; rw [List.mem_filter, inDown_iff]
theorem mem_past (ok : Ok G) : x ∈ past G y ↔ Anc G x y := by
  unfold past; rw [List.mem_filter, ancB_iff]
  exact ⟨fun h => h.2, fun h => ⟨(h.lt ok).2.1, h⟩⟩
theorem down_asc (ok : Ok G) : (down G xs).Pairwise (· < ·) := ok.asc.filter _
theorem past_asc (ok : Ok G) : (past G x).Pairwise (· < ·) := ok.asc.filter _
theorem heads_asc (ok : Ok G) : (heads G).Pairwise (· < ·) := ok.asc.filter _
theorem down_par (G : List Nd) (x : Int) : down G (par G x) = past G x := by
  unfold down past
  refine List.filter_congr fun y _ => ?_
  rw [Bool.eq_iff_iff, inDown_iff, ancB_iff]
  exact anc_iff.symm
theorem past_has (ok : Ok G) (a b : Int) : (past G b).contains a = ancB G a b := by
  rw [Bool.eq_iff_iff, List.contains_iff_mem, mem_past ok, ancB_iff]
theorem mem_heads (ok : Ok G) : x ∈ heads G ↔ x ∈ ids G ∧ ∀ y, ¬ Anc G x y := by
  unfold heads
  rw [List.mem_filter, List.all_eq_true]
  refine and_congr_right fun _ => ⟨fun h y hy => ?_, fun h n hn => ?_⟩
  · have key : ∃ z, x ∈ par G z := by
      induction hy with
      | par hp => exact ⟨_, hp⟩
      | step _ _ ih => exact ih
    obtain ⟨z, hz⟩ := key
    obtain ⟨n, hn, rfl⟩ := mem_ids.1 (ok.lt hz).2.2
    rw [par_of ok.asc hn] at hz
    have := h n hn
    rw [Bool.not_eq_true', ← Bool.not_eq_true, List.contains_iff_mem] at this
    exact this hz
  · rw [Bool.not_eq_true', ← Bool.not_eq_true, List.contains_iff_mem]
    intro hx
    exact h n.1 (.par (by rw [par_of ok.asc hn]; exact hx))
/-! ### Sorted -/
def Lv (G : List Nd) (a b : Int) : Prop := lev G a < lev G b ∨ lev G a = lev G b ∧ a < b
theorem lv_asym (a b : Int) (h : Lv G a b) : ¬ Lv G b a := fun k => by unfold Lv at *; omega
theorem mem_sorted (ok : Ok G) : x ∈ sorted G xs ↔ x ∈ ids G ∧ x ∈ xs := by
  unfold sorted
  rw [List.mem_flatMap]
  constructor
  · rintro ⟨v, _, h⟩
    obtain ⟨h1, h2⟩ := List.mem_filter.1 h
    rw [Bool.and_eq_true, List.contains_iff_mem] at h2
    exact ⟨h1, h2.2⟩
  · rintro ⟨h1, h2⟩
    have h3 := lev_nonneg ok h1
    have h4 := lev_lt ok h1
    refine ⟨(lev G x).toNat, List.mem_range.2 (by omega), List.mem_filter.2 ⟨h1, ?_⟩⟩
    rw [Bool.and_eq_true, List.contains_iff_mem]
    exact ⟨decide_eq_true (by omega), h2⟩
theorem sorted_pw (ok : Ok G) : (sorted G xs).Pairwise (Lv G) := by
  unfold sorted
  rw [List.pairwise_flatMap]
  refine ⟨fun v _ => ?_, ?_⟩
  · refine (List.Pairwise.and_mem.1 (ok.asc.filter _)).imp fun {a b} ⟨ha, hb, hab⟩ => ?_
    have h1 := (List.mem_filter.1 ha).2
    have h2 := (List.mem_filter.1 hb).2
    rw [Bool.and_eq_true] at h1 h2
    have h1 := of_decide_eq_true h1.1
    have h2 := of_decide_eq_true h2.1
    exact .inr ⟨by omega, hab⟩
  · refine List.pairwise_lt_range.imp fun {v u} hvu a ha b hb => ?_
    have h1 := (List.mem_filter.1 ha).2
    have h2 := (List.mem_filter.1 hb).2
    rw [Bool.and_eq_true] at h1 h2
    have h1 := of_decide_eq_true h1.1
    have h2 := of_decide_eq_true h2.1
    exact .inl (by omega)
theorem sorted_is (ok : Ok G) {l : List Int} (h : l.Pairwise (Lv G)) (hm : ∀ x, x ∈ l ↔ x ∈ ids G ∧ x ∈ xs) : l = sorted G xs :=
  sorted_ext (R := Lv G) lv_asym l _ h (sorted_pw ok) fun x => by rw [hm, mem_sorted ok]
theorem lv_nodup {l : List Int} (h : l.Pairwise (Lv G)) : l.Nodup := h.imp fun {a b} h e => by unfold Lv at h; subst e; omega
theorem len_same {l m : List Int} (hl : l.Nodup) (hm : m.Nodup) (h : ∀ x, x ∈ l ↔ x ∈ m) : l.length = m.length :=
  Nat.le_antisymm (hl.length_le_of_subset fun x hx => (h x).1 hx) (hm.length_le_of_subset fun x hx => (h x).2 hx)
theorem sorted_len (ok : Ok G) (h : ∀ x ∈ ids G, x ∈ xs) : (sorted G xs).length = G.length := by
  have := len_same (lv_nodup (sorted_pw ok (xs := xs))) ok.nodup fun x => by rw [mem_sorted ok]; exact ⟨fun q => q.1, fun q => ⟨q, h x q⟩⟩
  rw [this]; simp [ids]
theorem sorted_some (ok : Ok G) (h : ∀ x ∈ ids G, x ∈ xs) : (sorted G xs).filter (fun x => ys.contains x) = sorted G ys :=
  sorted_is ok ((sorted_pw ok).filter _) fun x => by
    rw [List.mem_filter, mem_sorted ok, List.contains_iff_mem]
    exact ⟨fun q => ⟨q.1.1, q.2⟩, fun q => ⟨⟨q.1, h x q.1⟩, q.2⟩⟩
/-! ### Parts -/
theorem ids_restrict (G : List Nd) (xs : List Int) : ids (restrict G xs) = down G xs := by
  unfold ids restrict down ids
  rw [List.filter_map]
  rfl
theorem mem_restrict {n : Nd} : n ∈ restrict G xs ↔ n ∈ G ∧ n.1 ∈ down G xs := by
  unfold restrict
  rw [List.mem_filter, mem_down, inDown_iff]
  exact ⟨fun h => ⟨h.1, ids_of h.1, h.2⟩, fun h => ⟨h.1, h.2.2⟩⟩
theorem down_cl (ok : Ok G) (h : b ∈ down G xs) (ha : Anc G a b) : a ∈ down G xs := by
  obtain ⟨_, h2⟩ := mem_down.1 h
  refine mem_down.2 ⟨(ha.lt ok).2.1, .inr ?_⟩
  rcases h2 with h2 | ⟨y, hy, h2⟩
  · exact ⟨b, h2, ha⟩
  · exact ⟨y, hy, ha.trans h2⟩
theorem restrict_ok (ok : Ok G) (xs : List Int) : Ok (restrict G xs) := by
  refine ⟨by rw [ids_restrict]; exact down_asc ok, fun n hn => ok.rt n (mem_restrict.1 hn).1, fun n hn p hp => ?_⟩
  obtain ⟨h1, h2⟩ := mem_restrict.1 hn
  rw [ids_restrict]
  exact down_cl ok h2 (.par (by rw [par_of ok.asc h1]; exact hp))
theorem par_restrict (ok : Ok G) (h : x ∈ down G xs) : par (restrict G xs) x = par G x := by
  obtain ⟨n, hn, rfl⟩ := mem_ids.1 (mem_down.1 h).1
  rw [par_of (restrict_ok ok xs).asc (mem_restrict.2 ⟨hn, h⟩), par_of ok.asc hn]
theorem anc_restrict (ok : Ok G) : Anc (restrict G xs) a b ↔ b ∈ down G xs ∧ Anc G a b := by
  constructor
  · intro h
    have hb : ∀ {p c : Int}, p ∈ par (restrict G xs) c → c ∈ down G xs ∧ p ∈ par G c := fun {p c} hp => by
      have h1 := ((restrict_ok ok xs).lt hp).2.2
      rw [ids_restrict] at h1
      rw [par_restrict ok h1] at hp
      exact ⟨h1, hp⟩
    induction h with
    | par hp => exact ⟨(hb hp).1, .par (hb hp).2⟩
    | step hp _ ih => exact ⟨(hb hp).1, .step (hb hp).2 ih.2⟩
  · rintro ⟨hb, h⟩
    induction h with
    | par hp => exact .par (by rw [par_restrict ok hb]; exact hp)
    | step hp _ ih => exact .step (by rw [par_restrict ok hb]; exact hp) (ih (down_cl ok hb (.par hp)))
theorem lev_restrict (ok : Ok G) : ∀ (m : Nat) (x : Int), x.toNat < m → x ∈ down G xs → lev (restrict G xs) x = lev G x
  | 0, _, h, _ => by omega
  | m + 1, x, hm, h => by
    have hx := (mem_down.1 h).1
    rw [lev_eq (restrict_ok ok xs) (by rw [ids_restrict]; exact h), lev_eq ok hx, par_restrict ok h]
    congr 1
    refine List.map_congr_left fun p hp => ?_
    have := (ok.lt hp).1
    exact lev_restrict ok m p (by omega) (down_cl ok h (.par hp))
theorem lev_part (ok : Ok G) (h : x ∈ down G xs) : lev (restrict G xs) x = lev G x := lev_restrict ok _ x (Nat.lt_succ_self _) h
theorem past_part (ok : Ok G) (h : x ∈ down G xs) : past (restrict G xs) x = past G x := by
  refine asc_ext (past_asc (restrict_ok ok xs)) (past_asc ok) fun y => ?_
  rw [mem_past (restrict_ok ok xs), mem_past ok, anc_restrict ok]
  exact ⟨fun q => q.2, fun q => ⟨h, q⟩⟩
theorem restrict_again (ok : Ok G) : restrict (restrict G xs) xs = restrict G xs := by
  refine graph_ext (restrict_ok (restrict_ok ok xs) xs).asc (restrict_ok ok xs).asc fun n => ?_
  rw [mem_restrict]
  refine ⟨fun q => q.1, fun q => ⟨q, ?_⟩⟩
  obtain ⟨h1, h2⟩ := mem_restrict.1 q
  refine mem_down.2 ⟨ids_of q, ?_⟩
  rcases (mem_down.1 h2).2 with h3 | ⟨y, hy, h3⟩
  · exact .inl h3
  · refine .inr ⟨y, hy, (anc_restrict ok).2 ⟨?_, h3⟩⟩
    exact mem_down.2 ⟨(h3.lt ok).2.2, .inl hy⟩
theorem restrict_len (G : List Nd) (xs : List Int) : (restrict G xs).length = (down G xs).length := by
  rw [← ids_restrict]; simp [ids]
end
end Gp
end Go.Proofs.Ytihnnffhpgbgjaa
