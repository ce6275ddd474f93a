/- Words, parts, lines, digests of texts. No Go. -/
import Derived.Test.YtbjligjmckilcaaDoorGen7
namespace Go.Proofs.YtbjligjmckilcaaDoor
namespace Wd
abbrev S := List UInt8
def lowN (n : Nat) : Nat := if 97 ≤ n ∧ n ≤ 122 ∨ 48 ≤ n ∧ n ≤ 57 then n else if 65 ≤ n ∧ n ≤ 90 then n + 32 else 0
def low (c : UInt8) : UInt8 := UInt8.ofNat (lowN c.toNat)
theorem lowN_lt (n : Nat) : lowN n < 128 := by unfold lowN; split; omega; split <;> omega
theorem low_toNat (c : UInt8) : (low c).toNat = lowN c.toNat := by
  have := lowN_lt c.toNat
  unfold low
  rw [UInt8.toNat_ofNat']; omega
theorem byte_eq {a b : UInt8} (h : a.toNat = b.toNat) : a = b := UInt8.toNat_inj.1 h
theorem low_low (c : UInt8) : low (low c) = low c := by
  refine byte_eq ?_
  rw [low_toNat, low_toNat]
  unfold lowN; repeat' split
  all_goals omega
def upN (n : Nat) : Nat := if 97 ≤ n ∧ n ≤ 122 then n - 32 else n
def up (c : UInt8) : UInt8 := UInt8.ofNat (upN c.toNat)
theorem up_toNat (c : UInt8) : (up c).toNat = upN c.toNat := by
  have := c.toNat_lt
  unfold up upN
  split <;> rw [UInt8.toNat_ofNat'] <;> omega
theorem low_up (c : UInt8) : low (up c) = low c := by
  refine byte_eq ?_
  rw [low_toNat, low_toNat, up_toNat]
  unfold lowN upN; repeat' split
  all_goals omega
/-! ### Words -/
def wst (st : List S × S) (c : UInt8) : List S × S := if low c = 0 then ((if st.2 = [] then st.1 else st.1 ++ [st.2]), []) else (st.1, st.2 ++ [low c])
def wfin (st : List S × S) : List S := if st.2 = [] then st.1 else st.1 ++ [st.2]
def wrun (s : S) (k : Nat) : List S × S := (s.take k).foldl wst ([], [])
def words (s : S) : List S := wfin (s.foldl wst ([], []))
theorem wrun_zero (s : S) : wrun s 0 = ([], []) := by simp [wrun]
theorem wrun_next {s : S} {k : Nat} {c : UInt8} (h : s[k]? = some c) : wrun s (k + 1) = wst (wrun s k) c := by
  unfold wrun; rw [List.take_add_one, h, List.foldl_append]; rfl
theorem wrun_all (s : S) : wfin (wrun s s.length) = words s := by unfold wrun words; rw [List.take_length]
def good (x : S) : Prop := x ≠ [] ∧ ∀ c ∈ x, low c = c ∧ c ≠ 0
theorem fold_good {x : S} (h : ∀ c ∈ x, low c = c ∧ c ≠ 0) : ∀ (o : List S) (n : S), x.foldl wst (o, n) = (o, n ++ x) := by
  induction x with
  | nil => intro o n; simp
  | cons c x ih =>
    intro o n
    have hc := h c (by simp)
    rw [List.foldl_cons, show wst (o, n) c = (o, n ++ [c]) by unfold wst; rw [hc.1, if_neg hc.2], ih (fun d hd => h d (by simp [hd]))]
    simp
theorem words_good {x : S} (h : good x) : words x = [x] := by
  unfold words
  rw [fold_good h.2, List.nil_append]
  unfold wfin
  rw [if_neg h.1]; rfl
theorem wst_good {st : List S × S} {c : UInt8} (h : (∀ x ∈ st.1, good x) ∧ ∀ d ∈ st.2, low d = d ∧ d ≠ 0) : (∀ x ∈ (wst st c).1, good x) ∧ ∀ d ∈ (wst st c).2, low d = d ∧ d ≠ 0 := by
  unfold wst
  split
  · refine ⟨?_, fun d hd => by cases hd⟩
    show ∀ x ∈ (if st.2 = [] then st.1 else st.1 ++ [st.2]), good x
    split
    · exact h.1
    · rename_i hn
      intro x hx
      rcases List.mem_append.1 hx with q | q
      · exact h.1 x q
      · simp at q; subst q; exact ⟨hn, h.2⟩
  · rename_i hc
    refine ⟨h.1, fun d hd => ?_⟩
    rcases List.mem_append.1 hd with q | q
    · exact h.2 d q
    · simp at q; subst q; exact ⟨low_low c, hc⟩
theorem fold_inv (s : S) : ∀ st : List S × S, ((∀ x ∈ st.1, good x) ∧ ∀ d ∈ st.2, low d = d ∧ d ≠ 0) → (∀ x ∈ (s.foldl wst st).1, good x) ∧ ∀ d ∈ (s.foldl wst st).2, low d = d ∧ d ≠ 0 := by
  induction s with
  | nil => exact fun st h => h
  | cons c s ih => exact fun st h => ih _ (wst_good h)
theorem words_all (s : S) : ∀ x ∈ words s, good x := by
  have h := fold_inv s ([], []) ⟨fun x hx => (by cases hx), fun x hx => (by cases hx)⟩
  unfold words wfin
  split
  · exact h.1
  · rename_i hn
    intro x hx
    rcases List.mem_append.1 hx with q | q
    · exact h.1 x q
    · simp at q; subst q; exact ⟨hn, h.2⟩
def glue (l : List S) : S := l.flatMap fun x => 32 :: x
theorem glue_snoc (l : List S) (x : S) : glue (l ++ [x]) = glue l ++ 32 :: x := by simp [glue]
theorem fold_glue : ∀ (l : List S), (∀ x ∈ l, good x) → ∀ st : List S × S, wfin ((glue l).foldl wst st) = wfin st ++ l
  | [], _, st => by simp [glue]
  | x :: l, h, st => by
    have hx := h x (by simp)
    have e : glue (x :: l) = 32 :: x ++ glue l := by simp [glue]
    have e2 : wst st 32 = (wfin st, []) := by unfold wst wfin; rw [if_pos (by decide)]
    rw [e, List.foldl_append, List.foldl_cons, e2, fold_good hx.2, List.nil_append, fold_glue l (fun y hy => h y (by simp [hy]))]
    show (if x = [] then wfin st else wfin st ++ [x]) ++ l = _
    rw [if_neg hx.1, List.append_assoc]; rfl
theorem words_glue {l : List S} (h : ∀ x ∈ l, good x) : words (glue l) = l := by
  have := fold_glue l h ([], [])
  simpa [words, wfin] using this
theorem words_up (s : S) : words (s.map up) = words s := by
  have : ∀ st : List S × S, (s.map up).foldl wst st = s.foldl wst st := by
    induction s with
    | nil => exact fun st => rfl
    | cons c s ih =>
      intro st
      rw [List.map_cons, List.foldl_cons, List.foldl_cons, show wst st (up c) = wst st c by unfold wst; rw [low_up], ih]
  unfold words; rw [this]
theorem glue_len_step {st : List S × S} {c : UInt8} : (glue (wfin (wst st c))).length ≤ (glue (wfin st)).length + 2 := by
  by_cases h : low c = 0
  · have : wfin (wst st c) = wfin st := by unfold wst wfin; rw [if_pos h]; simp
    rw [this]; omega
  · have e : wst st c = (st.1, st.2 ++ [low c]) := by unfold wst; rw [if_neg h]
    rw [e]
    show (glue (if st.2 ++ [low c] = [] then st.1 else st.1 ++ [st.2 ++ [low c]])).length ≤ _
    rw [if_neg (by simp), glue_snoc]
    by_cases h2 : st.2 = []
    · unfold wfin; rw [if_pos h2, h2]; simp
    · unfold wfin; rw [if_neg h2, glue_snoc]; simp; omega
theorem glue_len (s : S) : ∀ st : List S × S, (glue (wfin (s.foldl wst st))).length ≤ (glue (wfin st)).length + 2 * s.length := by
  induction s with
  | nil => intro st; simp
  | cons c s ih =>
    intro st
    have h1 := ih (wst st c)
    have h2 := @glue_len_step st c
    rw [List.foldl_cons, List.length_cons]; omega
theorem words_glue_len (s : S) : (glue (words s)).length ≤ 2 * s.length := by
  have := glue_len s ([], [])
  have e : (glue (wfin (([], []) : List S × S))).length = 0 := rfl
  unfold words; omega
theorem glue_sub : ∀ {l : List S} {k : Nat}, (glue (l.take k)).length + (l.length - k) ≤ (glue l).length
  | [], k => by simp [glue]
  | x :: l, 0 => by
    have := @glue_sub l 0
    simp [glue] at this ⊢; omega
  | x :: l, k + 1 => by
    have := @glue_sub l k
    simp [glue] at this ⊢; omega
theorem mem_glue : ∀ {l : List S} {x : S}, x ∈ l → x.length ≤ (glue l).length
  | [], _, h => by cases h
  | y :: l, x, h => by
    rcases List.mem_cons.1 h with rfl | q
    · simp [glue]; omega
    · have := mem_glue q
      simp [glue] at this ⊢; omega
theorem words_len (s : S) : (words s).length ≤ 2 * s.length := by
  have h1 := words_glue_len s
  have h2 := @glue_sub (words s) 0
  simp at h2; omega
theorem word_len {s x : S} (h : x ∈ words s) : x.length ≤ 2 * s.length := Nat.le_trans (mem_glue h) (words_glue_len s)
theorem wrun_len {s : S} : ∀ {k : Nat}, k ≤ s.length → (wrun s k).1.length + (wrun s k).2.length ≤ k
  | 0, _ => by rw [wrun_zero]; simp
  | k + 1, h => by
    have ih := @wrun_len s k (by omega)
    rw [wrun_next (List.getElem?_eq_getElem (show k < s.length by omega))]
    unfold wst
    split
    · show (if (wrun s k).2 = [] then (wrun s k).1 else (wrun s k).1 ++ [(wrun s k).2]).length + 0 ≤ _
      split
      · omega
      · rename_i hq
        have : 0 < (wrun s k).2.length := List.length_pos_iff.2 hq
        simp; omega
    · simp; omega
theorem words_count (s : S) : (words s).length ≤ s.length := by
  have h := @wrun_len s s.length (Nat.le_refl _)
  rw [← wrun_all]
  unfold wfin
  split
  · omega
  · rename_i hq
    have : 0 < (wrun s s.length).2.length := List.length_pos_iff.2 hq
    simp; omega
/-! ### Lines -/
def line (s : S) (m : Int) : S := (s.takeWhile (· ≠ 10)).take m.toNat
def lrun (s : S) (m : Int) (k : Nat) : Prop := (k : Int) ≤ max m 0 ∧ ∀ c ∈ s.take k, c ≠ 10
theorem take_while {s : S} {k : Nat} (h : ∀ c ∈ s.take k, c ≠ 10) (hk : k ≤ s.length) : (s.takeWhile (· ≠ 10)).take k = s.take k := by
  induction s generalizing k with
  | nil => simp
  | cons c s ih =>
    cases k with
    | zero => simp
    | succ k =>
      have hc := h c (by simp)
      rw [List.takeWhile_cons_of_pos (by simpa using hc), List.take_succ_cons, List.take_succ_cons, ih (fun d hd => h d (by simp [hd])) (by simpa using hk)]
theorem line_end {s : S} {m : Int} {k : Nat} (h : ∀ c ∈ s.take k, c ≠ 10) (hk : k ≤ s.length) (hm : (k : Int) ≤ m ∨ k = 0) (he : k = s.length ∨ s[k]? = some 10 ∨ m ≤ k) : line s m = s.take k := by
  unfold line
  by_cases q : m ≤ k
  · have e : m.toNat = k := by omega
    rw [e]; exact take_while h hk
  · have e : s.takeWhile (· ≠ 10) = s.take k := by
      have h1 := take_while h hk
      rcases he with e | e | e
      · rw [e, List.take_length] at h1 ⊢
        rw [List.take_of_length_le (List.takeWhile_sublist _ |>.length_le)] at h1
        exact h1
      · have hs : s = s.take k ++ (10 :: s.drop (k + 1)) := by
          rw [← List.take_append_drop k s]
          congr 1
          · simp
          · rw [List.take_append_drop, List.drop_eq_getElem_cons (List.getElem?_eq_some_iff.1 e).1, (List.getElem?_eq_some_iff.1 e).2]
        conv => lhs; rw [hs]
        rw [List.takeWhile_append_of_pos (by intro c hc; simpa using h c hc), List.takeWhile_cons_of_neg (by simp), List.append_nil]
      · omega
    rw [e, List.take_take, Nat.min_eq_right (by omega)]
theorem line_is (s : S) (m : Int) : ∃ k, k ≤ s.length ∧ line s m = s.take k ∧ (∀ c ∈ s.take k, c ≠ 10) ∧ ((k : Int) ≤ m ∨ k = 0) ∧ (k = s.length ∨ s[k]? = some 10 ∨ m ≤ k) := by
  have key : ∀ n : Nat, n ≤ s.length → (∀ c ∈ s.take (s.length - n), c ≠ 10) → (((s.length - n : Nat) : Int) ≤ m ∨ s.length - n = 0) → ∃ k, k ≤ s.length ∧ line s m = s.take k ∧ (∀ c ∈ s.take k, c ≠ 10) ∧ ((k : Int) ≤ m ∨ k = 0) ∧ (k = s.length ∨ s[k]? = some 10 ∨ m ≤ k) := by
    intro n
    induction n with
    | zero => intro _ h1 h2; exact ⟨s.length, Nat.le_refl _, line_end (by simpa using h1) (Nat.le_refl _) (by simpa using h2) (.inl rfl), by simpa using h1, by simpa using h2, .inl rfl⟩
    | succ n ih =>
      intro hn h1 h2
      by_cases q : m ≤ ((s.length - (n + 1) : Nat) : Int)
      · exact ⟨_, Nat.sub_le _ _, line_end h1 (Nat.sub_le _ _) h2 (.inr (.inr q)), h1, h2, .inr (.inr q)⟩
      · have hlt : s.length - (n + 1) < s.length := by omega
        by_cases c10 : s[s.length - (n + 1)] = 10
        · have e : s[s.length - (n + 1)]? = some 10 := by rw [List.getElem?_eq_getElem hlt, c10]
          exact ⟨_, Nat.sub_le _ _, line_end h1 (Nat.sub_le _ _) h2 (.inr (.inl e)), h1, h2, .inr (.inl e)⟩
        · have e : s.length - n = s.length - (n + 1) + 1 := by omega
          refine ih (by omega) ?_ (.inl (by omega))
          rw [e, List.take_add_one, List.getElem?_eq_getElem hlt]
          intro c hc
          rcases List.mem_append.1 hc with q | q
          · exact h1 c q
          · simp at q; subst q; exact c10
  exact key s.length (Nat.le_refl _) (by simp) (.inr (by omega))
/-! ### Parts -/
def pts (z : Nat) : Nat → S → List S
  | 0, _ => []
  | m + 1, s => if s.length ≤ z then [s] else if m = 0 then [s.take (z - 1) ++ [43]] else s.take z :: pts z m (s.drop z)
def parts (s : S) (size most : Int) : List S := if size < 2 ∨ most < 1 then [] else pts size.toNat most.toNat s
theorem pts_fit {z m : Nat} {s : S} (h : s.length ≤ z) : pts z (m + 1) s = [s] := by unfold pts; rw [if_pos h]
theorem pts_cut {z : Nat} {s : S} (h : z < s.length) : pts z 1 s = [s.take (z - 1) ++ [43]] := by unfold pts; rw [if_neg (by omega), if_pos rfl]
theorem pts_more {z m : Nat} {s : S} (h : z < s.length) (hm : 0 < m) : pts z (m + 1) s = s.take z :: pts z m (s.drop z) := by
  rw [pts, if_neg (by omega), if_neg (by omega)]
structure PtsOk (z m : Nat) (s : S) (l : List S) : Prop where
  pos : 0 < l.length
  most : l.length ≤ m
  each : ∀ (i : Nat) (x : S), l[i]? = some x → x.length ≤ z ∧ (i + 1 < l.length → x.length = z) ∧ (s ≠ [] → x ≠ [])
  all : l.flatten = s ∧ s.length ≤ z * m ∨ l.flatten = s.take (z * m - 1) ++ [43] ∧ z * m < s.length ∧ l.length = m
theorem pts_ok {z : Nat} (hz : 2 ≤ z) : ∀ (m : Nat) (s : S), PtsOk z (m + 1) s (pts z (m + 1) s)
  | m, s => by
    by_cases h : s.length ≤ z
    · rw [pts_fit h]
      refine ⟨by simp, by simp, fun i x hx => ?_, .inl ⟨by simp, Nat.le_trans h (Nat.le_mul_of_pos_right z (by omega))⟩⟩
      cases i with
      | zero => simp at hx; subst hx; exact ⟨h, fun q => by simp at q, fun q => q⟩
      | succ i => simp at hx
    · cases m with
      | zero =>
        rw [pts_cut (by omega)]
        refine ⟨by simp, by simp, fun i x hx => ?_, .inr ⟨by simp, by omega, rfl⟩⟩
        cases i with
        | zero => simp at hx; subst hx; exact ⟨by simp; omega, fun q => by simp at q, fun _ => by simp⟩
        | succ i => simp at hx
      | succ m =>
        rw [pts_more (by omega) (by omega)]
        have ih := pts_ok hz m (s.drop z)
        have hd : (s.drop z).length = s.length - z := List.length_drop
        have hne : s.drop z ≠ [] := fun q => by rw [q] at hd; simp at hd; omega
        refine ⟨by simp, by have := ih.most; simp; omega, fun i x hx => ?_, ?_⟩
        · cases i with
          | zero =>
            simp at hx; subst hx
            exact ⟨by simp; omega, fun _ => by simp; omega, fun _ q => by have q2 := congrArg List.length q; rw [List.length_take, List.length_nil] at q2; omega⟩
          | succ i =>
            have := ih.each i x (by simpa using hx)
            exact ⟨this.1, fun q => this.2.1 (by simpa using q), fun _ => this.2.2 hne⟩
        · have hm : z * (m + 1 + 1) = z * (m + 1) + z := Nat.mul_succ _ _
          have hp : z ≤ z * (m + 1) := Nat.le_mul_of_pos_right z (by omega)
          rcases ih.all with ⟨q1, q2⟩ | ⟨q1, q2, q3⟩
          · refine .inl ⟨by rw [List.flatten_cons, q1, List.take_append_drop], by omega⟩
          · refine .inr ⟨?_, by omega, by simp [q3]⟩
            rw [List.flatten_cons, q1, ← List.append_assoc]
            congr 1
            rw [hm, show z * (m + 1) + z - 1 = z + (z * (m + 1) - 1) by omega, List.take_add]
theorem parts_none {s : S} {a b : Int} (h : a < 2 ∨ b < 1) : parts s a b = [] := by unfold parts; rw [if_pos h]
theorem parts_pts {s : S} {a b : Int} (ha : 2 ≤ a) (hb : 1 ≤ b) : parts s a b = pts a.toNat b.toNat s := by unfold parts; rw [if_neg (by omega)]
theorem parts_ok {s : S} {a b : Int} (ha : 2 ≤ a) (hb : 1 ≤ b) : PtsOk a.toNat b.toNat s (parts s a b) := by
  rw [parts_pts ha hb]
  have := pts_ok (z := a.toNat) (by omega) (b.toNat - 1) s
  rwa [show b.toNat - 1 + 1 = b.toNat by omega] at this
/-! ### What is found; digests -/
def has (x : S) (t : S) : Bool := (words t).contains x
def fnd (texts : List S) (x : S) (k : Nat) : List Int := ((List.range k).filter fun i => has x (texts.getD i [])).map fun (i : Nat) => (i : Int)
def find (texts : List S) (w : S) : List Int := match words w with | [x] => fnd texts x texts.length | _ => []
theorem fnd_next (texts : List S) (x : S) (k : Nat) : fnd texts x (k + 1) = fnd texts x k ++ (if has x (texts.getD k []) = true then [(k : Int)] else []) := by
  unfold fnd
  rw [List.range_succ, List.filter_append, List.map_append]
  congr 1
  by_cases hx : has x (texts.getD k []) = true
  · rw [if_pos hx, List.filter_cons, if_pos hx]; rfl
  · rw [if_neg hx, List.filter_cons, if_neg hx]; rfl
theorem fnd_len (texts : List S) (x : S) (k : Nat) : (fnd texts x k).length ≤ k := by
  unfold fnd; rw [List.length_map]
  have := List.length_filter_le (fun i => has x (texts.getD i [])) (List.range k)
  simpa using this
theorem find_one {texts : List S} {w x : S} (h : words w = [x]) : find texts w = fnd texts x texts.length := by unfold find; rw [h]
theorem find_not {texts : List S} {w : S} (h : (words w).length ≠ 1) : find texts w = [] := by
  unfold find
  split
  · rename_i x hx; rw [hx] at h; exact (h rfl).elim
  · rfl
def dline (i : Nat) (t : S) : S := if t = [] then [] else Lib.itoa (i : Int) ++ [58, 32] ++ line t 20 ++ [10]
def dig (texts : List S) (k : Nat) : S := (List.range k).flatMap fun i => dline i (texts.getD i [])
def digest (texts : List S) : S := dig texts texts.length
theorem dig_next (texts : List S) (k : Nat) : dig texts (k + 1) = dig texts k ++ dline k (texts.getD k []) := by simp [dig, List.range_succ]
theorem line_len (t : S) (m : Int) (h : 0 ≤ m) : ((line t m).length : Int) ≤ m := by
  unfold line; rw [List.length_take]; omega
end Wd
end Go.Proofs.YtbjligjmckilcaaDoor
