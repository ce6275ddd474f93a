/- What each literal implies, as lists; the trail of a search; how the first assignment is found. No Go. -/
import Derived.Test.YtapgcahbccchfaaTwo
namespace Go.Proofs.Ytapgcahbccchfaa
namespace St
/-! ### What a literal implies, in the order of the clauses -/
def fo1 (c : Cl) (x : Int) : List Int := (if opp c.1 = x then [c.2] else []) ++ (if opp c.2 = x then [c.1] else [])
def fo (l : List Cl) (x : Int) : List Int := l.flatMap fun c => fo1 c x
theorem fo_snoc (l : List Cl) (c : Cl) (x : Int) : fo (l ++ [c]) x = fo l x ++ fo1 c x := by simp [fo]
theorem fo_mem {l : List Cl} {x y : Int} : y ∈ fo l x ↔ impl l x y = true := by
  unfold fo impl
  rw [List.mem_flatMap, List.any_eq_true]
  simp only [Bool.or_eq_true, Bool.and_eq_true, beq_iff_eq]
  constructor
  · rintro ⟨c, hc, h⟩
    refine ⟨c, hc, ?_⟩
    unfold fo1 at h
    rcases List.mem_append.1 h with q | q
    · split at q
      · rename_i e; simp at q; exact .inl ⟨by rw [← e, opp_opp], q.symm⟩
      · cases q
    · split at q
      · rename_i e; simp at q; exact .inr ⟨by rw [← e, opp_opp], q.symm⟩
      · cases q
  · rintro ⟨c, hc, h⟩
    refine ⟨c, hc, ?_⟩
    unfold fo1
    rcases h with ⟨e1, e2⟩ | ⟨e1, e2⟩
    · rw [if_pos (show opp c.1 = x by rw [e1, opp_opp]), e2]; simp
    · rw [if_pos (show opp c.2 = x by rw [e1, opp_opp]), e2]; simp
theorem fo1_len (c : Cl) (x : Int) : (fo1 c x).length ≤ 2 := by unfold fo1; rw [List.length_append]; split <;> split <;> simp
theorem fo_len (l : List Cl) (x : Int) : (fo l x).length ≤ 2 * l.length := by
  induction l with
  | nil => simp [fo]
  | cons c l ih =>
    have h := fo1_len c x
    have e : fo (c :: l) x = fo1 c x ++ fo l x := by simp [fo]
    rw [e, List.length_append, List.length_cons]; omega
theorem fo_lit {l : List Cl} {n x y : Int} (hr : right l n = true) (h : y ∈ fo l x) : (0 ≤ y ∧ y < 2 * n) ∧ (0 ≤ x ∧ x < 2 * n) := impl_lit hr (fo_mem.1 h)

/-! ### A search: T from where, O in the order of coming -/
structure Trl (l : List Cl) (n : Nat) (first : Int) (T O : List Int) : Prop where
  len : T.length = 2 * n
  nod : O.Nodup
  rng : ∀ x ∈ O, 0 ≤ x ∧ x < 2 * (n : Int)
  head : O[0]? = some first
  root : T[first.toNat]? = some first
  none : ∀ x : Nat, x < 2 * n → (x : Int) ∉ O → T[x]? = some (-1)
  step : ∀ i x, O[i]? = some x → 0 < i → ∃ j p, j < i ∧ O[j]? = some p ∧ T[x.toNat]? = some p ∧ impl l p x = true
section
variable {l : List Cl} {n : Nat} {first : Int} {T O : List Int}
theorem Trl.short (h : Trl l n first T O) : O.length ≤ 2 * n := lits_short h.rng h.nod
theorem Trl.mem (h : Trl l n first T O) : first ∈ O := List.mem_of_getElem? h.head
theorem Trl.inj (h : Trl l n first T O) {i j : Nat} {x : Int} (h1 : O[i]? = some x) (h2 : O[j]? = some x) : i = j := by
  obtain ⟨a, e1⟩ := List.getElem?_eq_some_iff.1 h1
  obtain ⟨b, e2⟩ := List.getElem?_eq_some_iff.1 h2
  exact (List.getElem_inj (h₀ := a) (h₁ := b) h.nod).1 (e1.trans e2.symm)
theorem Trl.of_mem (h : Trl l n first T O) {x : Int} (hx : x ∈ O) : ∃ p, T[x.toNat]? = some p ∧ p ∈ O := by
  obtain ⟨i, hi⟩ := List.getElem?_of_mem hx
  by_cases h0 : i = 0
  · subst h0
    have := Option.some.inj (hi.symm.trans h.head)
    subst this
    exact ⟨_, h.root, hx⟩
  · obtain ⟨j, p, _, h1, h2, _⟩ := h.step i x hi (by omega)
    exact ⟨p, h2, List.mem_of_getElem? h1⟩
theorem Trl.at_ (h : Trl l n first T O) {x : Nat} (hx : x < 2 * n) : ∃ p, T[x]? = some p ∧ (0 ≤ p ↔ (x : Int) ∈ O) := by
  by_cases hm : (x : Int) ∈ O
  · obtain ⟨p, h1, h2⟩ := h.of_mem hm
    exact ⟨p, h1, fun _ => hm, fun _ => (h.rng p h2).1⟩
  · exact ⟨-1, h.none x hx hm, fun q => by omega, fun q => (hm q).elim⟩
theorem Trl.start (hf : 0 ≤ first ∧ first < 2 * (n : Int)) : Trl l n first ((List.replicate (2 * n) (-1)).set first.toNat first) [first] := by
  refine ⟨by simp, by simp, fun x hx => by simp at hx; subst hx; exact hf, rfl, ?_, fun x hx hn => ?_, fun i x hi h0 => ?_⟩
  · rw [List.getElem?_set_self (by simp; omega)]
  · rw [List.getElem?_set_ne (by simp at hn; omega), List.getElem?_replicate, if_pos hx]
  · cases i with
    | zero => omega
    | succ i => simp at hi
theorem Trl.push (h : Trl l n first T O) {lit next : Int} (hl : lit ∈ O) (hn : next ∉ O) (hi : impl l lit next = true) (hr : 0 ≤ next ∧ next < 2 * (n : Int)) : Trl l n first (T.set next.toNat lit) (O ++ [next]) := by
  have other : ∀ {x : Int}, x ∈ O → next.toNat ≠ x.toNat := fun {x} hx e => hn (by have := (h.rng x hx).1; rwa [show next = x by omega])
  have hlen := h.len
  have h0 : 0 < O.length := by have := (List.getElem?_eq_some_iff.1 h.head).1; exact this
  refine ⟨by rw [List.length_set, h.len], ?_, fun x hx => ?_, ?_, ?_, fun x hx hm => ?_, fun i x hi' h0' => ?_⟩
  · rw [List.nodup_append]
    exact ⟨h.nod, by simp, fun a ha b hb => by simp at hb; subst hb; exact fun e => hn (e ▸ ha)⟩
  · rcases List.mem_append.1 hx with q | q
    · exact h.rng x q
    · simp at q; subst q; exact hr
  · rw [List.getElem?_append_left h0, h.head]
  · rw [List.getElem?_set_ne (other h.mem), h.root]
  · have hx1 : (x : Int) ∉ O := fun q => hm (List.mem_append_left _ q)
    have hx2 : next ≠ (x : Int) := fun q => hm (by simp [q])
    rw [List.getElem?_set_ne (by omega), h.none x hx hx1]
  · by_cases hio : i < O.length
    · rw [List.getElem?_append_left hio] at hi'
      obtain ⟨j, p, hj, h1, h2, h3⟩ := h.step i x hi' h0'
      refine ⟨j, p, hj, by rw [List.getElem?_append_left (by omega)]; exact h1, ?_, h3⟩
      rw [List.getElem?_set_ne (other (List.mem_of_getElem? hi')), h2]
    · have hio2 : i = O.length := by
        have := (List.getElem?_eq_some_iff.1 hi').1; rw [List.length_append] at this; simp at this; omega
      subst hio2
      rw [List.getElem?_append_right (Nat.le_refl _)] at hi'
      simp at hi'; subst hi'
      obtain ⟨j, hj⟩ := List.getElem?_of_mem hl
      have hjl := (List.getElem?_eq_some_iff.1 hj).1
      exact ⟨j, lit, hjl, by rw [List.getElem?_append_left hjl]; exact hj, by rw [List.getElem?_set_self (by omega)], hi⟩
theorem Trl.reach (h : Trl l n first T O) : ∀ (i : Nat) (x : Int), O[i]? = some x → Reach l first x := by
  intro i
  induction i using Nat.strongRecOn with
  | ind i ih =>
    intro x hx
    by_cases h0 : i = 0
    · subst h0
      have := Option.some.inj (hx.symm.trans h.head)
      subst this; exact .here
    · obtain ⟨j, p, hj, h1, _, h3⟩ := h.step i x hx (by omega)
      exact (ih j hj p h1).step h3
end
/-- All is met that what is met implies. -/
def Shut (l : List Cl) (O : List Int) (z : Int) : Prop := ∀ y ∈ fo l z, y ∈ O
theorem Shut.more {l : List Cl} {O : List Int} {z : Int} (h : Shut l O z) (E : List Int) : Shut l (O ++ E) z := fun y hy => List.mem_append_left _ (h y hy)
/-- The trail of a whole search. -/
def Found (l : List Cl) (n : Nat) (first : Int) (T : List Int) : Prop := ∃ O, Trl l n first T O ∧ ∀ z ∈ O, Shut l O z
section
variable {l : List Cl} {n : Nat} {first : Int} {T : List Int}
theorem Found.len (h : Found l n first T) : T.length = 2 * n := by obtain ⟨O, h, _⟩ := h; exact h.len
theorem found_mem {O : List Int} (h : Trl l n first T O) (hs : ∀ z ∈ O, Shut l O z) {x : Int} : x ∈ O ↔ Reach l first x := by
  constructor
  · intro hx
    obtain ⟨i, hi⟩ := List.getElem?_of_mem hx
    exact h.reach i x hi
  · intro hx
    induction hx with
    | here => exact h.mem
    | step _ hi ih => exact hs _ ih _ (fo_mem.2 hi)
theorem Found.has (h : Found l n first T) {x : Nat} (hx : x < 2 * n) : ∃ p, T[x]? = some p ∧ (0 ≤ p ↔ Reach l first x) := by
  obtain ⟨O, h, hs⟩ := h
  obtain ⟨p, h1, h2⟩ := h.at_ hx
  exact ⟨p, h1, h2.trans (found_mem h hs)⟩
end
/-- The way back from x: R is what was passed, the last one first; y is where it stands. -/
def Back (l : List Cl) (O : List Int) (x y : Int) (R : List Int) : Prop := ∃ i, O[i]? = some y ∧ R.length + i + 1 ≤ O.length ∧ path l R x = true ∧ R.headD x = y
section
variable {l : List Cl} {n : Nat} {first x y : Int} {T O R : List Int}
theorem Back.start (hx : x ∈ O) : Back l O x x [] := by
  obtain ⟨i, hi⟩ := List.getElem?_of_mem hx
  exact ⟨i, hi, by have := (List.getElem?_eq_some_iff.1 hi).1; simp; omega, rfl, rfl⟩
theorem Back.at_ (h : Back l O x y R) (ht : Trl l n first T O) : ∃ p, T[y.toNat]? = some p ∧ (0 ≤ p ∧ p < 2 * (n : Int)) ∧ (0 ≤ y ∧ y < 2 * (n : Int)) ∧ R.length < 2 * n := by
  obtain ⟨i, hi, hl, _⟩ := h
  have hy := List.mem_of_getElem? hi
  obtain ⟨p, h1, h2⟩ := ht.of_mem hy
  exact ⟨p, h1, ht.rng p h2, ht.rng y hy, by have := ht.short; omega⟩
theorem Back.step (h : Back l O x y R) (ht : Trl l n first T O) {p : Int} (hp : T[y.toNat]? = some p) (hne : p ≠ y) : Back l O x p (p :: R) := by
  obtain ⟨i, hi, hl, hpath, hh⟩ := h
  have h0 : 0 < i := by
    rcases Nat.eq_zero_or_pos i with e | e
    · subst e
      have := Option.some.inj (hi.symm.trans ht.head)
      subst this
      exact (hne (Option.some.inj (hp.symm.trans ht.root))).elim
    · exact e
  obtain ⟨j, q, hj, h1, h2, h3⟩ := ht.step i y hi h0
  have := Option.some.inj (hp.symm.trans h2)
  subst this
  exact ⟨j, h1, by simp; omega, by rw [path_cons, hh, h3, hpath]; rfl, rfl⟩
theorem Back.done (h : Back l O x y R) (ht : Trl l n first T O) (hp : T[y.toNat]? = some y) (hne : x ≠ first) : ∃ q, R = first :: q ∧ path l R x = true ∧ R.length < 2 * n := by
  obtain ⟨i, hi, hl, hpath, hh⟩ := h
  have h0 : i = 0 := by
    rcases Nat.eq_zero_or_pos i with e | e
    · exact e
    · obtain ⟨j, q, hj, h1, h2, h3⟩ := ht.step i y hi e
      have := Option.some.inj (hp.symm.trans h2)
      subst this
      have := ht.inj hi h1; omega
  subst h0
  have := Option.some.inj (hi.symm.trans ht.head)
  subst this
  have hs := ht.short
  cases R with
  | nil => simp at hh; exact (hne hh).elim
  | cons z q => simp at hh; subst hh; exact ⟨q, rfl, hpath, by omega⟩
end

/-! ### The first assignment -/
/-- What is known: x is true, and known. -/
def Tk (kn vs : List Bool) (x : Int) : Prop := 0 ≤ x ∧ kn.getD (x / 2).toNat false = true ∧ tru vs x = true
structure Dcd (l : List Cl) (n k : Nat) (kn vs : List Bool) : Prop where
  lk : kn.length = n
  lv : vs.length = n
  known : ∀ j, j < k → kn.getD j false = true
  first : ∀ j : Nat, kn.getD j false = true → vs.getD j false = true → Reach l (2 * (j : Int) + 1) (2 * (j : Int)) ∨ ∃ i : Nat, i < j ∧ i < k ∧ Reach l (un vs i) (2 * (j : Int))
  closed : Closed l (Tk kn vs)
theorem tk_apart (kn vs : List Bool) : Apart (Tk kn vs) := fun x h k => by
  have := tru_opp vs x
  rw [h.2.2, k.2.2] at this; cases this
theorem dcd_start (l : List Cl) (n : Nat) : Dcd l n 0 (List.replicate n false) (List.replicate n false) := by
  have hf : ∀ j, (List.replicate n false).getD j false = false := fun j => by
    rw [List.getD_eq_getElem?_getD, List.getElem?_replicate]; split <;> rfl
  exact ⟨by simp, by simp, fun j hj => by omega, fun j h => (by rw [hf] at h; cases h), fun x y h => by have := h.2.1; rw [hf] at this; cases this⟩
/-- While what z leads to is marked: the first m literals have been looked at. -/
structure Mk (l : List Cl) (n : Nat) (z : Int) (kn0 vs0 : List Bool) (m : Nat) (kn vs : List Bool) : Prop where
  lk : kn.length = n
  lv : vs.length = n
  kn_ : ∀ j, kn.getD j false = true ↔ kn0.getD j false = true ∨ ∃ x : Nat, x < m ∧ x / 2 = j ∧ Reach l z (x : Int)
  old : ∀ j, (∀ x : Nat, x < m → x / 2 = j → ¬ Reach l z (x : Int)) → vs.getD j false = vs0.getD j false
  new : ∀ x : Nat, x < m → Reach l z (x : Int) → vs.getD (x / 2) false = decide (x % 2 = 0)
section
variable {l : List Cl} {n k : Nat} {z : Int} {kn vs kn0 vs0 : List Bool} {m : Nat}
theorem mk_start (h1 : kn0.length = n) (h2 : vs0.length = n) : Mk l n z kn0 vs0 0 kn0 vs0 :=
  ⟨h1, h2, fun j => ⟨.inl, fun q => q.elim id fun ⟨x, hx, _⟩ => by omega⟩, fun _ _ => rfl, fun x hx => by omega⟩
theorem Mk.skip (h : Mk l n z kn0 vs0 m kn vs) (hn : ¬ Reach l z (m : Int)) : Mk l n z kn0 vs0 (m + 1) kn vs := by
  have key : ∀ {x : Nat}, x < m + 1 → Reach l z (x : Int) → x < m := fun {x} hx hr => by
    rcases Nat.lt_or_ge x m with q | q
    · exact q
    · have : x = m := by omega
      subst this; exact (hn hr).elim
  refine ⟨h.lk, h.lv, fun j => (h.kn_ j).trans ⟨fun q => q.imp id fun ⟨x, a, b, c⟩ => ⟨x, by omega, b, c⟩, fun q => q.imp id fun ⟨x, a, b, c⟩ => ⟨x, key a c, b, c⟩⟩, fun j hj => h.old j fun x hx => hj x (by omega), fun x hx hr => h.new x (key hx hr) hr⟩
theorem getD_set {α : Type} (a : List α) (i j : Nat) (x d : α) (hi : i < a.length) : (a.set i x).getD j d = if i = j then x else a.getD j d := by
  rw [List.getD_eq_getElem?_getD, List.getD_eq_getElem?_getD, List.getElem?_set]
  by_cases e : i = j
  · subst e; rw [if_pos rfl, if_pos rfl, if_pos hi]; rfl
  · rw [if_neg e, if_neg e]
theorem Mk.take (h : Mk l n z kn0 vs0 m kn vs) (ha : ∀ x : Int, Reach l z x → ¬ Reach l z (opp x)) (hr : Reach l z (m : Int)) (hm : m < 2 * n) : Mk l n z kn0 vs0 (m + 1) (kn.set (m / 2) true) (vs.set (m / 2) (decide (m % 2 = 0))) := by
  have hk := h.lk
  have hv := h.lv
  refine ⟨by rw [List.length_set, h.lk], by rw [List.length_set, h.lv], fun j => ?_, fun j hj => ?_, fun x hx hrx => ?_⟩
  · rw [getD_set _ _ _ _ _ (by omega)]
    by_cases e : m / 2 = j
    · rw [if_pos e]; exact ⟨fun _ => .inr ⟨m, by omega, e, hr⟩, fun _ => rfl⟩
    · rw [if_neg e, h.kn_]
      refine ⟨fun q => q.imp id fun ⟨x, a, b, c⟩ => ⟨x, by omega, b, c⟩, fun q => q.imp id fun ⟨x, a, b, c⟩ => ⟨x, ?_, b, c⟩⟩
      rcases Nat.lt_or_ge x m with q | q
      · exact q
      · exact (e (by have : x = m := by omega
                     subst this; exact b)).elim
  · rw [getD_set _ _ _ _ _ (by omega), if_neg fun e => hj m (by omega) e hr]
    exact h.old j fun x hx => hj x (by omega)
  · rw [getD_set _ _ _ _ _ (by omega)]
    by_cases e : m / 2 = x / 2
    · rw [if_pos e]
      rcases Nat.lt_or_ge x m with q | q
      · exact (ha x hrx (by rw [show opp (x : Int) = (m : Int) by unfold opp; omega]; exact hr)).elim
      · rw [show x = m by omega]
    · rw [if_neg e]
      refine h.new x ?_ hrx
      rcases Nat.lt_or_ge x m with q | q
      · exact q
      · exact (e (by rw [show x = m by omega])).elim
theorem Dcd.skip (h : Dcd l n k kn vs) (hk : kn.getD k false = true) : Dcd l n (k + 1) kn vs :=
  ⟨h.lk, h.lv, fun j hj => (by
    rcases Nat.lt_or_ge j k with q | q
    · exact h.known j q
    · rw [show j = k by omega]; exact hk), fun j a b => (h.first j a b).imp id fun ⟨i, x, y, c⟩ => ⟨i, x, by omega, c⟩, h.closed⟩
/-- One that is not known yet cannot clash. -/
theorem Dcd.apart (h : Dcd l n k kn vs) (hk : kn.getD k false = false) (hz : z / 2 = (k : Int)) (hn : ¬ Reach l z (opp z)) :
    Closed l (fun x => Tk kn vs x ∨ Reach l z x) ∧ Apart (fun x => Tk kn vs x ∨ Reach l z x) := by
  refine extend h.closed (tk_apart kn vs) (fun q => ?_) hn
  have := q.2.1
  rw [(opp_half z).1, hz, Int.toNat_natCast, hk] at this; cases this
theorem Dcd.take (h : Dcd l n k kn vs) (hr : right l (n : Int) = true) (hkn : k < n) (hk : kn.getD k false = false) (hz : z / 2 = (k : Int)) (hn : ¬ Reach l z (opp z)) (hy : z = 2 * (k : Int) → Reach l (2 * (k : Int) + 1) (2 * (k : Int)))
    {kn' vs' : List Bool} (hm : Mk l n z kn vs (2 * n) kn' vs') : Dcd l n (k + 1) kn' vs' := by
  obtain ⟨hcl, hap⟩ := h.apart hk hz hn
  have hlit : ∀ x, Reach l z x → 0 ≤ x ∧ x < 2 * (n : Int) := fun x hx => hx.lit hr (by omega)
  have hnew : ∀ x : Int, Reach l z x → kn'.getD (x / 2).toNat false = true ∧ vs'.getD (x / 2).toNat false = decide (x % 2 = 0) := fun x hx => by
    have h1 := hlit x hx
    have e : x = ((x.toNat : Nat) : Int) := by omega
    rw [e] at hx
    have e2 : (x / 2).toNat = x.toNat / 2 := by omega
    rw [e2]
    refine ⟨(hm.kn_ _).2 (.inr ⟨x.toNat, by omega, rfl, hx⟩), ?_⟩
    rw [hm.new x.toNat (by omega) hx]
    exact decide_eq_decide.2 (by omega)
  have hnewT : ∀ x, Reach l z x → Tk kn' vs' x := fun x hx => by
    obtain ⟨h1, h2⟩ := hnew x hx
    refine ⟨(hlit x hx).1, h1, ?_⟩
    unfold tru; rw [h2]; simp
  -- what was known keeps its value
  have hold : ∀ j, kn.getD j false = true → vs'.getD j false = vs.getD j false := fun j hj => by
    by_cases hx : ∃ x : Nat, x < 2 * n ∧ x / 2 = j ∧ Reach l z (x : Int)
    · obtain ⟨x, h1, h2, h3⟩ := hx
      have h4 := hm.new x h1 h3
      rw [h2] at h4
      rw [h4]
      have hxk : (((x : Nat) : Int) / 2).toNat = j := by omega
      cases ht : tru vs (x : Int) with
      | true =>
        unfold tru at ht
        rw [hxk] at ht
        rw [beq_iff_eq] at ht
        rw [ht]; exact decide_eq_decide.2 (by omega)
      | false =>
        have : Tk kn vs (opp (x : Int)) := ⟨by unfold opp; omega, by rw [(opp_half (x : Int)).1, hxk]; exact hj, by rw [tru_opp, ht]; rfl⟩
        exact (hap (x : Int) (.inr h3) (.inl this)).elim
    · exact hm.old j fun x h1 h2 h3 => hx ⟨x, h1, h2, h3⟩
  have holdT : ∀ x, Tk kn vs x → Tk kn' vs' x := fun x hx => by
    refine ⟨hx.1, (hm.kn_ _).2 (.inl hx.2.1), ?_⟩
    have := hx.2.2
    unfold tru at this ⊢
    rw [hold _ hx.2.1]; exact this
  have hback : ∀ x, Tk kn' vs' x → Tk kn vs x ∨ Reach l z x := fun x hx => by
    have hx0 := hx.1
    rcases (hm.kn_ _).1 hx.2.1 with q | ⟨y, h1, h2, h3⟩
    · left
      refine ⟨hx.1, q, ?_⟩
      have := hx.2.2
      unfold tru at this ⊢
      rw [hold _ q] at this; exact this
    · right
      have h4 := hx.2.2
      unfold tru at h4
      rw [← h2, hm.new y h1 h3, beq_iff_eq, decide_eq_decide] at h4
      rw [show x = (y : Int) by omega]; exact h3
  have hzz := hnew z .here
  rw [show (z / 2).toNat = k by omega] at hzz
  have hkn' : ∀ j, j < k + 1 → kn'.getD j false = true := fun j hj => by
    rcases Nat.lt_or_ge j k with q | q
    · exact (hm.kn_ j).2 (.inl (h.known j q))
    · rw [show j = k by omega]; exact hzz.1
  have hun : ∀ i, i < k → un vs' i = un vs i := fun i hi => by unfold un; rw [hold i (h.known i hi)]
  refine ⟨hm.lk, hm.lv, hkn', fun j h1 h2 => ?_, fun x y hx hi => ?_⟩
  · have hT : Tk kn' vs' (2 * (j : Int)) := ⟨by omega, by rw [show (2 * (j : Int) / 2).toNat = j by omega]; exact h1, by rw [tru_even]; exact h2⟩
    have hTold : Tk kn vs (2 * (j : Int)) → Reach l (2 * (j : Int) + 1) (2 * (j : Int)) ∨ ∃ i : Nat, i < j ∧ i < k + 1 ∧ Reach l (un vs' i) (2 * (j : Int)) := fun hT => by
      have a := hT.2.1
      have b := hT.2.2
      rw [show (2 * (j : Int) / 2).toNat = j by omega] at a
      rw [tru_even] at b
      exact (h.first j a b).imp id fun ⟨i, x, y, c⟩ => ⟨i, x, by omega, by rw [hun i y]; exact c⟩
    rcases hback _ hT with q | q
    · exact hTold q
    · rcases Nat.lt_trichotomy j k with e | e | e
      · have hkj := h.known j e
        cases hv : vs.getD j false with
        | true => exact hTold ⟨by omega, by rw [show (2 * (j : Int) / 2).toNat = j by omega]; exact hkj, by rw [tru_even]; exact hv⟩
        | false =>
          have : Tk kn vs (opp (2 * (j : Int))) := ⟨by unfold opp; omega, by rw [(opp_half _).1, show (2 * (j : Int) / 2).toNat = j by omega]; exact hkj, by rw [tru_opp, tru_even, hv]; rfl⟩
          exact (hap _ (.inr q) (.inl this)).elim
      · subst e
        left
        rcases (show z = 2 * (j : Int) ∨ z = 2 * (j : Int) + 1 by omega) with e | e
        · exact hy e
        · exact (hn (by rw [show opp z = 2 * (j : Int) by unfold opp; omega]; exact q)).elim
      · right
        refine ⟨k, e, by omega, ?_⟩
        rw [show un vs' k = z by
          unfold un; rw [hzz.2]
          by_cases hp : z % 2 = 0
          · rw [if_pos (decide_eq_true hp)]; omega
          · rw [if_neg (by simpa using hp)]; omega]
        exact q
  · rcases hcl x y (hback x hx) hi with q | q
    · exact holdT y q
    · exact hnewT y q
theorem Dcd.done (h : Dcd l n n kn vs) (hr : right l (n : Int) = true) : Fst l (n : Int) vs := by
  have hlv := h.lv
  have hT : ∀ x, (0 ≤ x ∧ x < 2 * (n : Int)) → tru vs x = true → Tk kn vs x := fun x hx ht => ⟨hx.1, h.known _ (by omega), ht⟩
  refine fst_of (closed_check hr (by omega) fun x y hx ht hi => (h.closed x y (hT x hx ht) hi).2.2) fun k hk => ?_
  have hkl := (List.getElem?_eq_some_iff.1 hk).1
  exact (h.first k (h.known k (by omega)) (getD_at hk)).imp id fun ⟨j, a, _, c⟩ => ⟨j, a, c⟩
end

/-! ### Whatever does not clash goes on to an assignment -/
theorem complete {l : List Cl} {n : Nat} (hr : right l (n : Int) = true) (hc : Can l (n : Int)) {T : Int → Prop} (h : Closed l T) (ha : Apart T) : ∃ b, check l (n : Int) b = true ∧ ∀ x, (0 ≤ x ∧ x < 2 * (n : Int)) → T x → tru b x = true := by
  have key : ∀ k, ∃ T' : Int → Prop, Closed l T' ∧ Apart T' ∧ (∀ x, T x → T' x) ∧ ∀ j : Nat, j < k → T' (2 * (j : Int)) ∨ T' (2 * (j : Int) + 1) := by
    intro k
    induction k with
    | zero => exact ⟨T, h, ha, fun _ q => q, fun j hj => by omega⟩
    | succ k ih =>
      obtain ⟨T', h1, h2, h3, h4⟩ := ih
      by_cases hk : T' (2 * (k : Int)) ∨ T' (2 * (k : Int) + 1)
      · refine ⟨T', h1, h2, h3, fun j hj => ?_⟩
        rcases Nat.lt_or_ge j k with q | q
        · exact h4 j q
        · rw [show j = k by omega]; exact hk
      · have e1 : opp (2 * (k : Int)) = 2 * (k : Int) + 1 := by unfold opp; omega
        have e2 : opp (2 * (k : Int) + 1) = 2 * (k : Int) := by unfold opp; omega
        have hz : ∃ z, (z = 2 * (k : Int) ∨ z = 2 * (k : Int) + 1) ∧ ¬ T' (opp z) ∧ ¬ Reach l z (opp z) := by
          by_cases hz : Reach l (2 * (k : Int)) (opp (2 * (k : Int)))
          · refine ⟨2 * (k : Int) + 1, .inr rfl, fun q => hk (.inl (by rwa [e2] at q)), fun q => ?_⟩
            rw [e2] at q; rw [e1] at hz
            exact bad_not (n := (n : Int)) (x := 2 * (k : Int)) (by rw [e1]; exact hz) (by rw [e1]; exact q) hc
          · exact ⟨2 * (k : Int), .inl rfl, fun q => hk (.inr (by rwa [e1] at q)), hz⟩
        obtain ⟨z, hz, hz1, hz2⟩ := hz
        obtain ⟨g1, g2⟩ := extend h1 h2 hz1 hz2
        refine ⟨_, g1, g2, fun x q => .inl (h3 x q), fun j hj => ?_⟩
        rcases Nat.lt_or_ge j k with q | q
        · exact (h4 j q).imp .inl .inl
        · rw [show j = k by omega]
          rcases hz with rfl | rfl
          · exact .inl (.inr .here)
          · exact .inr (.inr .here)
  obtain ⟨T', h1, h2, h3, h4⟩ := key n
  classical
  have hg : ∀ x, (0 ≤ x ∧ x < 2 * (n : Int)) → (tru ((List.range n).map fun j : Nat => decide (T' (2 * (j : Int)))) x = true ↔ T' x) := fun x hx => by
    have hj : (x / 2).toNat < n := by omega
    unfold tru
    rw [List.getD_eq_getElem?_getD, List.getElem?_map, List.getElem?_range hj]
    simp only [Option.map_some, Option.getD_some, beq_iff_eq, decide_eq_decide]
    rcases (show x = 2 * ((x / 2).toNat : Int) ∨ x = 2 * ((x / 2).toNat : Int) + 1 by omega) with e | e
    · rw [← e]
      exact ⟨fun q => q.2 (by omega), fun q => ⟨fun _ => by omega, fun _ => q⟩⟩
    · have e2 : opp x = 2 * ((x / 2).toNat : Int) := by unfold opp; omega
      rw [← e2]
      constructor
      · intro q
        rcases h4 _ hj with r | r
        · rw [← e2] at r; have := q.1 r; omega
        · rw [← e] at r; exact r
      · exact fun q => ⟨fun r => (h2 x q r).elim, fun r => by omega⟩
  refine ⟨_, closed_check hr (by simp) fun x y hx ht hi => ?_, fun x hx q => (hg x hx).2 (h3 x q)⟩
  exact (hg y (impl_lit hr hi).1).2 (h1 x y ((hg x hx).1 ht) hi)
/-- A literal is true in all of them exactly if its opposite leads to it. -/
theorem follows_reach {l : List Cl} {n : Nat} (hr : right l (n : Int) = true) (hc : Can l (n : Int)) {x : Int} (hx : 0 ≤ x ∧ x < 2 * (n : Int)) : follows l (n : Int) [x] = true ↔ Reach l (opp x) x := by
  rw [follows_one hr hx]
  constructor
  · intro h
    refine Classical.byContradiction fun hn => ?_
    obtain ⟨g1, g2⟩ := extend (T := fun _ => False) (z := opp x) (fun _ _ q => q.elim) (fun _ q => q.elim) id (by rw [opp_opp]; exact hn)
    obtain ⟨b, h1, h2⟩ := complete hr hc g1 g2
    have h3 := h2 (opp x) (opp_lit hx) (.inr .here)
    rw [tru_opp, h b h1] at h3; cases h3
  · intro h b hb
    cases ht : tru b x with
    | true => rfl
    | false =>
      have := h.tru (check_iff.1 hb).2.2 (by rw [tru_opp, ht]; rfl)
      rw [ht] at this; cases this

/-! ### What is denied, as clauses -/
def dcl (den : List Bool) (k : Nat) : List Cl := ((List.range k).filter fun x : Nat => den.getD x false).map fun x : Nat => ((x : Int), (x : Int))
theorem dcl_skip {den : List Bool} {k : Nat} (h : den.getD k false = false) : dcl den (k + 1) = dcl den k := by unfold dcl; rw [List.range_succ, List.filter_append, List.filter_cons, if_neg (by rw [h]; simp), List.filter_nil, List.append_nil]
theorem dcl_take {den : List Bool} {k : Nat} (h : den.getD k false = true) : dcl den (k + 1) = dcl den k ++ [((k : Int), (k : Int))] := by unfold dcl; rw [List.range_succ, List.filter_append, List.filter_cons, if_pos h, List.filter_nil, List.map_append]; rfl
theorem dcl_len (den : List Bool) (k : Nat) : (dcl den k).length ≤ k := by
  unfold dcl; rw [List.length_map]
  exact Nat.le_trans (List.length_filter_le _ _) (by simp)
theorem dcl_mem {den : List Bool} {k : Nat} {c : Cl} : c ∈ dcl den k ↔ ∃ x : Nat, x < k ∧ den.getD x false = true ∧ c = ((x : Int), (x : Int)) := by
  unfold dcl
  rw [List.mem_map]
  constructor
  · rintro ⟨x, hx, rfl⟩
    have := List.mem_filter.1 hx
    exact ⟨x, List.mem_range.1 this.1, this.2, rfl⟩
  · rintro ⟨x, h1, h2, rfl⟩
    exact ⟨x, List.mem_filter.2 ⟨List.mem_range.2 h1, h2⟩, rfl⟩
/-- The literals whose opposites are among the first ones. -/
def Den (n : Nat) (xs : List Int) (den : List Bool) : Prop := den.length = 2 * n ∧ ∀ x : Nat, x < 2 * n → (den.getD x false = true ↔ opp (x : Int) ∈ xs)
theorem den_start (n : Nat) : Den n [] (List.replicate (2 * n) false) := ⟨by simp, fun x hx => by simp [List.getD, hx]⟩
theorem Den.step {n : Nat} {xs : List Int} {den : List Bool} (h : Den n xs den) {y : Int} (hy : 0 ≤ y ∧ y < 2 * (n : Int)) : Den n (xs ++ [y]) (den.set (opp y).toNat true) := by
  have ho := opp_lit hy
  have hl := h.1
  refine ⟨by rw [List.length_set, h.1], fun x hx => ?_⟩
  rw [getD_set _ _ _ _ _ (by omega), List.mem_append, List.mem_singleton]
  by_cases e : (opp y).toNat = x
  · rw [if_pos e]
    exact ⟨fun _ => .inr (by rw [show (x : Int) = opp y by omega, opp_opp]), fun _ => rfl⟩
  · rw [if_neg e, h.2 x hx]
    exact ⟨.inl, fun q => q.elim id fun q => (e (by rw [← q, opp_opp]; rfl)).elim⟩
theorem den_all {l : List Cl} {n : Nat} {xs : List Int} {den : List Bool} (hr : right l (n : Int) = true) (hl : l.length ≤ 1000) (hx : lits (n : Int) xs = true) (hxl : xs.length ≤ 1000) (h : Den n xs den) :
    right (l ++ dcl den (2 * n)) (n : Int) = true ∧ (follows l (n : Int) xs = true ↔ ¬ Can (l ++ dcl den (2 * n)) (n : Int)) := by
  have hn := (right_iff.1 hr).1
  have h1 : right (l ++ dcl den (2 * n)) (n : Int) = true := right_app hr (by have := dcl_len den (2 * n); omega) fun c hc => by
    obtain ⟨x, hx, _, rfl⟩ := dcl_mem.1 hc
    exact ⟨⟨by simp, by simp; omega⟩, ⟨by simp, by simp; omega⟩⟩
  refine ⟨h1, (follows_can hr (by omega) hx).trans (not_congr ?_)⟩
  have h2 := oppc_right hr (show l.length + xs.length ≤ 4000 by omega) hx
  have hs : ∀ b, sat (dcl den (2 * n)) b = true ↔ sat (oppc xs) b = true := fun b => by
    rw [sat_oppc, sat_iff]
    constructor
    · intro q y hy
      have hy2 := lits_iff.1 hx y hy
      have ho := opp_lit hy2
      have := q (opp y, opp y) (dcl_mem.2 ⟨(opp y).toNat, by omega, (h.2 _ (by omega)).2 (by rw [show (((opp y).toNat : Nat) : Int) = opp y by omega, opp_opp]; exact hy), by rw [show (((opp y).toNat : Nat) : Int) = opp y by omega]⟩)
      simpa [tru_opp] using this
    · intro q c hc
      obtain ⟨x, hx1, hx2, rfl⟩ := dcl_mem.1 hc
      have := q _ ((h.2 x hx1).1 hx2)
      rw [tru_opp] at this
      left; simpa using this
  unfold Can
  constructor
  · rintro ⟨b, hb⟩
    obtain ⟨_, q2, q3⟩ := check_iff.1 hb
    rw [sat_app, Bool.and_eq_true, ← hs, ← Bool.and_eq_true, ← sat_app] at q3
    exact ⟨b, check_iff.2 ⟨h1, q2, q3⟩⟩
  · rintro ⟨b, hb⟩
    obtain ⟨_, q2, q3⟩ := check_iff.1 hb
    rw [sat_app, Bool.and_eq_true, hs, ← Bool.and_eq_true, ← sat_app] at q3
    exact ⟨b, check_iff.2 ⟨h2, q2, q3⟩⟩
theorem follows_wrong {l : List Cl} {n : Int} {xs : List Int} (h : right l n = false) : follows l n xs = false := by
  cases hf : follows l n xs with
  | false => rfl
  | true => have := (follows_iff.1 hf).1; rw [h] at this; cases this
end St
end Go.Proofs.Ytapgcahbccchfaa
