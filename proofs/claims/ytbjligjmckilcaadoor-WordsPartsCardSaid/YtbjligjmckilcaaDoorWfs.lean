/- strings.FieldsFunc's pieces at the predicate of package words: the words as they stand in the text. No Go. -/
import Derived.Test.YtbjligjmckilcaaDoorTxs
import Derived.Lib.FieldsP
import Derived.Lib.TrimUEq
import Derived.Lib.Case
namespace Go.Proofs.YtbjligjmckilcaaDoor
open Wd Lib
/-- What is no letter and no digit. -/
def sepR (x : Nat) : Bool := !(decide (97 ≤ x ∧ x ≤ 122) || decide (65 ≤ x ∧ x ≤ 90) || decide (48 ≤ x ∧ x ≤ 57))
theorem sep_lowN (n : Nat) : sepR n = decide (lowN n = 0) := by
  unfold sepR lowN
  by_cases h1 : 97 ≤ n ∧ n ≤ 122
  · rw [if_pos (.inl h1), decide_eq_true h1, decide_eq_false (show ¬ n = 0 by omega)]; rfl
  · by_cases h3 : 48 ≤ n ∧ n ≤ 57
    · rw [if_pos (.inr h3), decide_eq_true h3, decide_eq_false (show ¬ n = 0 by omega), Bool.or_true]; rfl
    · by_cases h2 : 65 ≤ n ∧ n ≤ 90
      · rw [if_neg (by omega), if_pos h2, decide_eq_true h2, decide_eq_false (show ¬ n + 32 = 0 by omega), Bool.or_true]; rfl
      · rw [if_neg (by omega), if_neg h2, decide_eq_false h1, decide_eq_false h2, decide_eq_false h3]; rfl
theorem sepR_low (c : UInt8) : sepR c.toNat = decide (low c = 0) := by
  have h : low c = 0 ↔ lowN c.toNat = 0 := by
    rw [← low_toNat]
    exact ⟨fun e => by rw [e]; rfl, fun e => byte_eq (by rw [e]; rfl)⟩
  rw [decide_eq_decide.2 h, sep_lowN]
theorem sepR_high {x : Nat} (h : 128 ≤ x) : sepR x = true := by
  unfold sepR
  rw [decide_eq_false (by omega), decide_eq_false (by omega), decide_eq_false (by omega)]; rfl
theorem low_high {c : UInt8} (h : 128 ≤ c.toNat) : low c = 0 := by
  have := sepR_low c
  rw [sepR_high h] at this
  exact of_decide_eq_true this.symm
/-! ### Words as they stand in the text -/
def flush (st : List S × S) : List S := if st.2 = [] then st.1 else st.1 ++ [st.2]
def rst (st : List S × S) (c : UInt8) : List S × S := if low c = 0 then (flush st, []) else (st.1, st.2 ++ [c])
def raws (s : S) : List S := flush (s.foldl rst ([], []))
def lows (x : S) : S := x.map low
theorem fold_lows (s : S) : ∀ st : List S × S, s.foldl wst (st.1.map lows, lows st.2) = ((s.foldl rst st).1.map lows, lows (s.foldl rst st).2) := by
  induction s with
  | nil => exact fun st => rfl
  | cons c s ih =>
    intro st
    rw [List.foldl_cons, List.foldl_cons, ← ih (rst st c)]
    congr 1
    unfold wst rst
    by_cases hc : low c = 0
    · rw [if_pos hc, if_pos hc]
      unfold flush
      by_cases h2 : st.2 = []
      · simp [h2, lows]
      · rw [if_neg (by simpa [lows] using h2), if_neg h2]; simp [lows]
    · rw [if_neg hc, if_neg hc]; simp [lows]
theorem words_raws (s : S) : words s = (raws s).map lows := by
  have h := fold_lows s ([], [])
  unfold words raws
  rw [show s.foldl wst ([], []) = _ from h]
  generalize s.foldl rst ([], []) = q
  unfold wfin flush
  by_cases h2 : q.2 = []
  · simp [h2, lows]
  · rw [if_neg (show ¬ lows q.2 = [] by simpa [lows] using h2), if_neg h2]; simp
theorem fold_raw (s : S) : ∀ st : List S × S, ((∀ x ∈ st.1, ∀ c ∈ x, low c ≠ 0) ∧ ∀ c ∈ st.2, low c ≠ 0) → (∀ x ∈ (s.foldl rst st).1, ∀ c ∈ x, low c ≠ 0) ∧ ∀ c ∈ (s.foldl rst st).2, low c ≠ 0 := by
  induction s with
  | nil => exact fun st h => h
  | cons c s ih =>
    intro st h
    refine ih _ ?_
    unfold rst
    by_cases hc : low c = 0
    · rw [if_pos hc]
      refine ⟨?_, fun d hd => by cases hd⟩
      show ∀ x ∈ flush st, _
      unfold flush
      split
      · exact h.1
      · intro x hx
        rcases List.mem_append.1 hx with q | q
        · exact h.1 x q
        · simp at q; subst q; exact h.2
    · rw [if_neg hc]
      refine ⟨h.1, fun d hd => ?_⟩
      rcases List.mem_append.1 hd with q | q
      · exact h.2 d q
      · simp at q; subst q; exact hc
theorem raws_low (s : S) : ∀ x ∈ raws s, ∀ c ∈ x, low c ≠ 0 := by
  have h := fold_raw s ([], []) ⟨fun x hx => (by cases hx), fun x hx => (by cases hx)⟩
  unfold raws flush
  split
  · exact h.1
  · intro x hx
    rcases List.mem_append.1 hx with q | q
    · exact h.1 x q
    · simp at q; subst q; exact h.2
theorem raws_length (s : S) : (raws s).length = (words s).length := by rw [words_raws, List.length_map]
theorem fold_seps : ∀ (l : S) (st : List S × S), l ≠ [] → (∀ c ∈ l, low c = 0) → l.foldl rst st = (flush st, [])
  | [], _, h, _ => absurd rfl h
  | [c], st, _, h => by
    show rst st c = _
    unfold rst
    rw [if_pos (h c (by simp))]
  | c :: d :: l, st, _, h => by
    rw [List.foldl_cons, show rst st c = (flush st, []) by unfold rst; rw [if_pos (h c (by simp))], fold_seps (d :: l) _ (by simp) (fun x hx => h x (by simp [hx]))]
    rfl
/-! ### Runes: a byte of ASCII, or bytes that are none -/
theorem decode_low (s : S) (pos : Nat) (c : UInt8) (h : s[pos]? = some c) (hc : c.toNat < 128) : Utf8.decode (bs s) pos = (c.toNat, 1) := by
  rw [decode_N, show (bs s).data.toList.getD pos 0 = c by rw [bs_list, List.getD, h]; rfl]
  unfold decodeN; rw [if_pos hc]
theorem decodeN_high (n b0 b1 b2 b3 : Nat) (hn : 1 ≤ n) (hb : 128 ≤ b0) : 128 ≤ (decodeN n b0 b1 b2 b3).1 ∧ 1 ≤ (decodeN n b0 b1 b2 b3).2 ∧ (decodeN n b0 b1 b2 b3).2 ≤ n ∧ (decodeN n b0 b1 b2 b3).2 ≤ 4 ∧
    (2 ≤ (decodeN n b0 b1 b2 b3).2 → 128 ≤ b1) ∧ (3 ≤ (decodeN n b0 b1 b2 b3).2 → 128 ≤ b2) ∧ (4 ≤ (decodeN n b0 b1 b2 b3).2 → 128 ≤ b3) := by
  unfold decodeN
  repeat' split
  all_goals (simp only; omega)
theorem decode_high (s : S) (pos : Nat) (c : UInt8) (h : s[pos]? = some c) (hc : 128 ≤ c.toNat) :
    128 ≤ (Utf8.decode (bs s) pos).1 ∧ 1 ≤ (Utf8.decode (bs s) pos).2 ∧ pos + (Utf8.decode (bs s) pos).2 ≤ s.length ∧ ∀ d ∈ (s.drop pos).take (Utf8.decode (bs s) pos).2, low d = 0 := by
  have hlt := (List.getElem?_eq_some_iff.1 h).1
  have e := decode_N (bs s) pos
  have e0 : (bs s).data.toList.getD pos 0 = c := by rw [bs_list, List.getD, h]; rfl
  rw [e0, bs_list] at e
  have hd := decodeN_high (s.length - pos) c.toNat (s.getD (pos + 1) 0).toNat (s.getD (pos + 2) 0).toNat (s.getD (pos + 3) 0).toNat (by omega) hc
  rw [← e] at hd
  obtain ⟨h1, h2, h3, h4, h5, h6, h7⟩ := hd
  refine ⟨h1, h2, by omega, fun d hd => low_high ?_⟩
  obtain ⟨j, hj⟩ := List.getElem?_of_mem hd
  rw [List.getElem?_take] at hj
  split at hj
  · rename_i hjk
    rw [List.getElem?_drop] at hj
    match j, hjk, hj with
    | 0, _, hj => rw [Nat.add_zero, h] at hj; cases hj; exact hc
    | 1, hjk, hj => have := h5 (by omega); rwa [List.getD, hj] at this
    | 2, hjk, hj => have := h6 (by omega); rwa [List.getD, hj] at this
    | 3, hjk, hj => have := h7 (by omega); rwa [List.getD, hj] at this
    | k + 4, hjk, _ => omega
  · cases hj
/-! ### The spans -/
structure SpOk (s : S) (pos : Nat) (st : Option Nat) (acc : List (Nat × Nat)) (o : List S × S) : Prop where
  acc : acc.map (fun x => (bs s).extract x.1 x.2) = o.1.map bs
  cur : (st = none ∧ o.2 = []) ∨ ∃ a, st = some a ∧ a < pos ∧ o.2 = (s.drop a).take (pos - a)
theorem cur_more {s : S} {a pos : Nat} {c : UInt8} (h : s[pos]? = some c) (ha : a ≤ pos) : (s.drop a).take (pos - a) ++ [c] = (s.drop a).take (pos + 1 - a) := by
  rw [show pos + 1 - a = pos - a + 1 by omega, List.take_add_one, List.getElem?_drop, show a + (pos - a) = pos by omega, h]; rfl
theorem SpOk.flush {s : S} {pos : Nat} {st : Option Nat} {acc : List (Nat × Nat)} {o : List S × S} (h : SpOk s pos st acc o) (hp : pos ≤ s.length) :
    List.map (fun (x : Nat × Nat) => (bs s).extract x.1 x.2) (match st with | some a => acc ++ [(a, pos)] | none => acc) = (flush o).map bs := by
  rcases h.cur with ⟨rfl, h2⟩ | ⟨a, rfl, ha, h2⟩
  · rw [show Go.Proofs.YtbjligjmckilcaaDoor.flush o = o.1 by unfold Go.Proofs.YtbjligjmckilcaaDoor.flush; rw [if_pos h2]]; exact h.acc
  · have hne : o.2 ≠ [] := by
      intro e
      have := congrArg List.length (h2.symm.trans e)
      simp at this; omega
    rw [show Go.Proofs.YtbjligjmckilcaaDoor.flush o = o.1 ++ [o.2] by unfold Go.Proofs.YtbjligjmckilcaaDoor.flush; rw [if_neg hne], List.map_append, List.map_append, h.acc, h2]
    simp [bs_extract]
theorem spans_ok (s : S) : ∀ (f pos : Nat) (st : Option Nat) (acc : List (Nat × Nat)) (o : List S × S), s.length - pos ≤ f → pos ≤ s.length → SpOk s pos st acc o →
    (closeSpans (bs s) (spansFromP sepR (bs s) f pos st acc)).map (fun x => (bs s).extract x.1 x.2) = (flush ((s.drop pos).foldl rst o)).map bs := by
  have fin : ∀ (f pos : Nat) (st : Option Nat) (acc : List (Nat × Nat)) (o : List S × S), pos = s.length → SpOk s pos st acc o →
      (closeSpans (bs s) (spansFromP sepR (bs s) f pos st acc)).map (fun x => (bs s).extract x.1 x.2) = (flush ((s.drop pos).foldl rst o)).map bs := by
    intro f pos st acc o hp h
    rw [spansFromP_end _ _ _ _ _ _ (by rw [bs_size]; omega), List.drop_of_length_le (by omega), List.foldl_nil, ← h.flush (by omega)]
    unfold closeSpans
    cases st with
    | none => rfl
    | some a => simp only [bs_size, hp]
  intro f
  induction f with
  | zero => intro pos st acc o hf hp h; exact fin _ _ _ _ _ (by omega) h
  | succ f ih =>
    intro pos st acc o hf hp h
    by_cases hl : pos < s.length
    · have hc := List.getElem?_eq_getElem hl
      generalize s[pos]'hl = c at hc
      unfold spansFromP
      rw [if_pos (by rw [bs_size]; exact hl)]
      have hdr : s.drop pos = c :: s.drop (pos + 1) := by
        have := List.drop_eq_getElem_cons hl
        rw [this]; congr 1
        have := List.getElem?_eq_getElem hl
        rw [hc] at this; exact (Option.some.inj this).symm
      by_cases h8 : c.toNat < 128
      · rw [decode_low s pos c hc h8]
        simp only []
        rw [sepR_low]
        by_cases hz : low c = 0
        · rw [decide_eq_true hz, if_pos rfl]
          have e : rst o c = (Go.Proofs.YtbjligjmckilcaaDoor.flush o, []) := by unfold rst; rw [if_pos hz]
          rw [hdr, List.foldl_cons, e]
          have hfl := h.flush (by omega)
          cases st with
          | none => exact ih _ _ _ _ (by omega) (by omega) ⟨hfl, .inl ⟨rfl, rfl⟩⟩
          | some a => exact ih _ _ _ _ (by omega) (by omega) ⟨hfl, .inl ⟨rfl, rfl⟩⟩
        · rw [decide_eq_false hz, if_neg (by simp)]
          have e : rst o c = (o.1, o.2 ++ [c]) := by unfold rst; rw [if_neg hz]
          rw [hdr, List.foldl_cons, e]
          rcases h.cur with ⟨rfl, h2⟩ | ⟨a, rfl, ha, h2⟩
          · refine ih _ _ _ _ (by omega) (by omega) ⟨h.acc, .inr ⟨pos, rfl, by omega, ?_⟩⟩
            rw [h2, hdr, show pos + 1 - pos = 1 by omega]; rfl
          · refine ih _ _ _ _ (by omega) (by omega) ⟨h.acc, .inr ⟨a, rfl, by omega, ?_⟩⟩
            show o.2 ++ [c] = _
            rw [h2, cur_more hc (by omega)]
      · obtain ⟨g1, g2, g3, g4⟩ := decode_high s pos c hc (by omega)
        generalize Utf8.decode (bs s) pos = d at g1 g2 g3 g4
        rw [sepR_high g1, if_pos rfl]
        have e : (s.drop pos).foldl rst o = (s.drop (pos + d.2)).foldl rst (Go.Proofs.YtbjligjmckilcaaDoor.flush o, []) := by
          conv => lhs; rw [← List.take_append_drop d.2 (s.drop pos)]
          rw [List.foldl_append, fold_seps _ o (by
            intro e
            have := congrArg List.length e
            simp at this; omega) g4, List.drop_drop]
        rw [e]
        have hfl := h.flush (by omega)
        cases st with
        | none => exact ih _ _ _ _ (by omega) (by omega) ⟨hfl, .inl ⟨rfl, rfl⟩⟩
        | some a => exact ih _ _ _ _ (by omega) (by omega) ⟨hfl, .inl ⟨rfl, rfl⟩⟩
    · exact fin _ _ _ _ _ (by omega) h
theorem fields_raws (s : S) : goFieldsP sepR (bs s) = (raws s).map bs := by
  have h := spans_ok s (bs s).size 0 none [] ([], []) (by rw [bs_size]; omega) (by omega) ⟨rfl, .inl ⟨rfl, rfl⟩⟩
  rw [List.drop_zero] at h
  exact h
theorem fields_vals (s : S) : (goFieldsP sepR (bs s)).map Value.string = txVs (raws s) := by rw [fields_raws, List.map_map]; rfl
/-! ### ToLower of a word -/
theorem lowerB_low {c : UInt8} (h : low c ≠ 0) : lowerB c = low c ∧ c.toNat < 128 := by
  have h8 : c.toNat < 128 := Nat.lt_of_not_le fun q => h (low_high q)
  refine ⟨?_, h8⟩
  have hz : lowN c.toNat ≠ 0 := fun e => h (byte_eq (by rw [low_toNat, e]; rfl))
  refine byte_eq ?_
  rw [low_toNat]
  unfold lowerB isUpperB
  unfold lowN at hz ⊢
  by_cases h2 : 65 ≤ c.toNat ∧ c.toNat ≤ 90
  · rw [if_pos (by simpa [UInt8.le_iff_toNat_le] using h2), UInt8.toNat_add]
    rw [if_neg (by omega), if_pos h2]
    show (c.toNat + 32) % 256 = _
    omega
  · rw [if_neg (by simpa [UInt8.le_iff_toNat_le] using h2)]
    split
    · rfl
    · rename_i q
      rw [if_neg q, if_neg h2] at hz; exact absurd rfl hz
theorem toLowerA_lows {x : S} (h : ∀ c ∈ x, low c ≠ 0) : toLowerA x = lows x ∧ ∀ c ∈ x, c.toNat < 128 :=
  ⟨List.map_congr_left fun c hc => (lowerB_low (h c hc)).1, fun c hc => (lowerB_low (h c hc)).2⟩
end Go.Proofs.YtbjligjmckilcaaDoor
