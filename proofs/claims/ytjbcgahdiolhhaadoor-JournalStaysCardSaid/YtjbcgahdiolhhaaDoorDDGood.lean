/- What holds of every disk of layer 2: where nothing is pending, the durable part is the file. -/
import Derived.Test.YtjbcgahdiolhhaaDoorDOps
namespace Go.Proofs.YtjbcgahdiolhhaaDoor.D2
open Dp

theorem getD_app (s : List UInt8) (k i : Nat) : (s ++ List.replicate k 0).getD i 0 = s.getD i 0 := by
  rw [List.getD_eq_getElem?_getD, List.getD_eq_getElem?_getD, List.getElem?_append]
  split
  · rfl
  · rename_i h
    rw [List.getElem?_eq_none (by omega : s.length ≤ i), List.getElem?_replicate]
    split <;> rfl
theorem putL_at (s : List UInt8) (a : Nat) (t : List UInt8) (i : Nat) : (putL s a t).getD i 0 = if a ≤ i ∧ i < a + t.length then t.getD (i - a) 0 else s.getD i 0 := by
  have hl : (s ++ List.replicate (a + t.length - s.length) (0 : UInt8)).length = max s.length (a + t.length) := by simp; omega
  have hg := getD_app s (a + t.length - s.length) i
  unfold putL
  simp only
  generalize s ++ List.replicate (a + t.length - s.length) (0 : UInt8) = s' at hl hg
  rw [← hg]
  simp only [List.getD_eq_getElem?_getD, List.getElem?_append, List.length_append, List.length_take, List.getElem?_take, List.getElem?_drop]
  by_cases h1 : i < a
  · rw [if_pos (by omega), if_pos (by omega), if_pos h1, if_neg (by omega)]
  · by_cases h2 : i < a + t.length
    · rw [if_pos (by omega), if_neg (by omega), if_pos (by omega)]
      congr 2; omega
    · rw [if_neg (by omega), if_neg (by omega)]
      congr 2; omega
theorem eq_of_getD {s t : List UInt8} (hl : s.length = t.length) (h : ∀ i, s.getD i 0 = t.getD i 0) : s = t := by
  apply List.ext_getElem hl
  intro i h1 h2
  have := h i
  rw [List.getD_eq_getElem?_getD, List.getD_eq_getElem?_getD, List.getElem?_eq_getElem h1, List.getElem?_eq_getElem h2] at this
  exact this
theorem getD_out {s : List UInt8} {i : Nat} (h : s.length ≤ i) : s.getD i 0 = 0 := by
  rw [List.getD_eq_getElem?_getD, List.getElem?_eq_none h]; rfl
theorem sec_at (s : List UInt8) (n j : Nat) : (sec s n).getD j 0 = if j < 64 then s.getD (64 * n + j) 0 else 0 := by
  simp only [sec, List.getD_eq_getElem?_getD, List.getElem?_take, List.getElem?_drop]
  split <;> rfl
theorem harden_at (D : Dk) (p : Nat × Nat) (f i : Nat) : ((D.harden p).dur f).getD i 0 = if (f, i / 64) = p ∧ i < (D.now f).length then (D.now f).getD i 0 else (D.dur f).getD i 0 := by
  show (upd D.dur p.1 (putL (D.dur p.1) (64 * p.2) (sec (D.now p.1) p.2)) f).getD i 0 = _
  by_cases hf : f = p.1
  · subst hf
    rw [upd_same, putL_at, sec_at, sec_length]
    by_cases h : (p.1, i / 64) = p ∧ i < (D.now p.1).length
    · have h2 : i / 64 = p.2 := congrArg Prod.snd h.1
      rw [if_pos h, if_pos (by omega), if_pos (by omega)]
      congr 1; omega
    · rw [if_neg h]
      by_cases h2 : 64 * p.2 ≤ i ∧ i < 64 * p.2 + min 64 ((D.now p.1).length - 64 * p.2)
      · exact absurd ⟨Prod.ext rfl (by show i / 64 = p.2; omega), by omega⟩ h
      · rw [if_neg h2]
  · rw [upd_other _ _ hf, if_neg]
    rintro ⟨h1, _⟩
    exact hf (congrArg Prod.fst h1)
theorem hardens_at (ps : List (Nat × Nat)) : ∀ (D : Dk) (f i : Nat), ((hardens D ps).dur f).getD i 0 = if (f, i / 64) ∈ ps ∧ i < (D.now f).length then (D.now f).getD i 0 else (D.dur f).getD i 0 := by
  induction ps with
  | nil => intro D f i; rw [if_neg (by simp)]; rfl
  | cons p ps ih =>
    intro D f i
    show ((hardens (D.harden p) ps).dur f).getD i 0 = _
    rw [ih (D.harden p) f i, harden_at]
    show (if (f, i / 64) ∈ ps ∧ i < (D.now f).length then (D.now f).getD i 0 else _) = _
    by_cases h1 : (f, i / 64) ∈ ps <;> by_cases h2 : (f, i / 64) = p <;> by_cases h3 : i < (D.now f).length <;> simp [h1, h2, h3]
theorem harden_len (D : Dk) (p : Nat × Nat) (f : Nat) : ((D.harden p).dur f).length = if f = p.1 then max (D.dur f).length (64 * p.2 + min 64 ((D.now f).length - 64 * p.2)) else (D.dur f).length := by
  show (upd D.dur p.1 (putL (D.dur p.1) (64 * p.2) (sec (D.now p.1) p.2)) f).length = _
  by_cases hf : f = p.1
  · subst hf; rw [upd_same, if_pos rfl, putL_length, sec_length]
  · rw [upd_other _ _ hf, if_neg hf]
theorem hardens_len_le (ps : List (Nat × Nat)) : ∀ (D : Dk) (f : Nat), (∀ p ∈ ps, 64 * p.2 < (D.now p.1).length) → ((hardens D ps).dur f).length ≤ max (D.dur f).length (D.now f).length := by
  induction ps with
  | nil => intro D f _; exact Nat.le_max_left _ _
  | cons p ps ih =>
    intro D f h
    have h1 := ih (D.harden p) f (fun q hq => h q (List.mem_cons_of_mem _ hq))
    have h2 := harden_len D p f
    have h3 := h p (by simp)
    have h4 : ((D.harden p).now f).length = (D.now f).length := rfl
    show ((hardens (D.harden p) ps).dur f).length ≤ _
    rw [h4] at h1
    split at h2
    · rename_i hf; subst hf; omega
    · omega
theorem hardens_len_mono (ps : List (Nat × Nat)) : ∀ (D : Dk) (f : Nat), (D.dur f).length ≤ ((hardens D ps).dur f).length := by
  induction ps with
  | nil => intro D f; exact Nat.le_refl _
  | cons p ps ih =>
    intro D f
    have h1 := ih (D.harden p) f
    have h2 := harden_len D p f
    show _ ≤ ((hardens (D.harden p) ps).dur f).length
    split at h2 <;> omega
theorem hardens_len_ge (ps : List (Nat × Nat)) : ∀ (D : Dk) (p : Nat × Nat), p ∈ ps → 64 * p.2 + min 64 ((D.now p.1).length - 64 * p.2) ≤ ((hardens D ps).dur p.1).length := by
  induction ps with
  | nil => intro D p h; cases h
  | cons q ps ih =>
    intro D p h
    show _ ≤ ((hardens (D.harden q) ps).dur p.1).length
    rcases List.mem_cons.1 h with rfl | h
    · have h1 := hardens_len_mono ps (D.harden p) p.1
      have h2 := harden_len D p p.1
      rw [if_pos rfl] at h2
      omega
    · exact ih (D.harden q) p h
theorem hardens_other (ps : List (Nat × Nat)) : ∀ (D : Dk) (f : Nat), (∀ p ∈ ps, p.1 ≠ f) → (hardens D ps).dur f = D.dur f := by
  induction ps with
  | nil => intro D f _; rfl
  | cons p ps ih =>
    intro D f h
    show (hardens (D.harden p) ps).dur f = _
    rw [ih (D.harden p) f (fun q hq => h q (List.mem_cons_of_mem _ hq))]
    exact upd_other _ _ (fun e => h p (by simp) e.symm)

structure Good (D : Dk) : Prop where
  inn : D.In
  few : ∀ p ∈ D.pend, p.1 < 16
  len : ∀ f, (D.dur f).length ≤ (D.now f).length
  last : ∀ f, (D.dur f).length < (D.now f).length → (f, ((D.now f).length - 1) / 64) ∈ D.pend
  same : ∀ f i, (f, i / 64) ∉ D.pend → (D.dur f).getD i 0 = (D.now f).getD i 0

theorem good_new : Good new := ⟨fun _ h => (by cases h), fun _ h => (by cases h), fun _ => Nat.le_refl _, fun _ h => absurd h (Nat.lt_irrefl _), fun _ _ _ => rfl⟩
theorem Good.settled {D : Dk} (h : Good D) (f : Nat) : (hardens D (keepsF f D.pend)).dur f = D.now f := by
  have hk : ∀ q, q ∈ keepsF f D.pend ↔ q ∈ D.pend ∧ q.1 = f := fun q => by simp [keepsF]
  apply eq_of_getD
  · have h1 := hardens_len_le (keepsF f D.pend) D f (fun p hp => h.inn p ((hk p).1 hp).1)
    have h2 := hardens_len_mono (keepsF f D.pend) D f
    have h3 := h.len f
    rcases Nat.lt_or_ge (D.dur f).length (D.now f).length with h4 | h4
    · have h5 := hardens_len_ge (keepsF f D.pend) D (f, ((D.now f).length - 1) / 64) ((hk _).2 ⟨h.last f h4, rfl⟩)
      simp only at h5
      omega
    · omega
  · intro i
    rw [hardens_at]
    by_cases hi : (f, i / 64) ∈ D.pend
    · by_cases hl : i < (D.now f).length
      · rw [if_pos ⟨(hk _).2 ⟨hi, rfl⟩, hl⟩]
      · rw [if_neg (fun h => hl h.2), getD_out (by have := h.len f; omega), getD_out (by omega)]
    · rw [if_neg (fun h2 => hi ((hk _).1 h2.1).1), h.same f i hi]
theorem Good.out {D : Dk} (h : Good D) {f : Nat} (hf : 16 ≤ f) : D.dur f = D.now f := by
  have hn : ∀ n, (f, n) ∉ D.pend := fun n hm => by have := h.few _ hm; simp only at this; omega
  apply eq_of_getD
  · rcases Nat.lt_or_ge (D.dur f).length (D.now f).length with h4 | h4
    · exact absurd (h.last f h4) (hn _)
    · have := h.len f; omega
  · exact fun i => h.same f i (hn _)
theorem good_settle {D : Dk} (h : Good D) (f : Nat) : Good (D.settle f) := by
  have hk := (hardens_keeps (keepsF f D.pend) D).1
  have hs := h.settled f
  have ho : ∀ g, g ≠ f → (hardens D (keepsF f D.pend)).dur g = D.dur g := fun g hg => hardens_other _ _ _ fun p hp => by
    have : p.1 = f := by simpa [keepsF] using (List.mem_filter.1 hp).2
    omega
  have hm : ∀ q, q ∈ D.pend.filter (fun p => p.1 ≠ f) ↔ q ∈ D.pend ∧ q.1 ≠ f := fun q => by simp
  refine ⟨in_settle h.inn f, fun p hp => h.few p ((hm p).1 hp).1, fun g => ?_, fun g hg => ?_, fun g i hg => ?_⟩
  · show ((hardens D (keepsF f D.pend)).dur g).length ≤ ((hardens D (keepsF f D.pend)).now g).length
    rw [hk]
    by_cases he : g = f
    · subst he; rw [hs]; exact Nat.le_refl _
    · rw [ho g he]; exact h.len g
  · have hg : ((hardens D (keepsF f D.pend)).dur g).length < ((hardens D (keepsF f D.pend)).now g).length := hg
    show (g, (((hardens D (keepsF f D.pend)).now g).length - 1) / 64) ∈ D.pend.filter (fun p => p.1 ≠ f)
    rw [hk] at hg ⊢
    by_cases he : g = f
    · subst he; rw [hs] at hg; omega
    · rw [ho g he] at hg
      exact (hm _).2 ⟨h.last g hg, he⟩
  · show ((hardens D (keepsF f D.pend)).dur g).getD i 0 = ((hardens D (keepsF f D.pend)).now g).getD i 0
    rw [hk]
    by_cases he : g = f
    · subst he; rw [hs]
    · rw [ho g he]
      exact h.same g i fun hm' => hg ((hm _).2 ⟨hm', he⟩)
theorem addSecs_has {ps : List (Nat × Nat)} {f n : Nat} {q : Nat × Nat} : ∀ k, (q ∈ ps ∨ (q.1 = f ∧ n ≤ q.2 ∧ q.2 < n + k)) → q ∈ addSecs ps f n k := by
  intro k
  induction k with
  | zero => rintro (h | h); exact h; omega
  | succ k ih =>
    intro h
    rw [addSecs_snoc]
    refine addSec_mem.2 ?_
    rcases h with h | ⟨h1, h2, h3⟩
    · exact .inl (ih (.inl h))
    · by_cases he : q.2 = n + k
      · exact .inr (Prod.ext h1 he)
      · exact .inl (ih (.inr ⟨h1, h2, by omega⟩))
theorem good_put {D : Dk} (h : Good D) {f a : Nat} {s : List UInt8} (hf : f < 16) (hs : 0 < s.length) : Good (D.put f a s) := by
  have hnow : ∀ g, (D.put f a s).now g = upd D.now f (putL (D.now f) a s) g := fun _ => rfl
  have hin := fun q => addSecs_has (ps := D.pend) (f := f) (n := a / 64) (q := q) ((a + s.length - 1) / 64 + 1 - a / 64)
  refine ⟨in_put h.inn f a s hs, fun p hp => ?_, fun g => ?_, fun g hg => ?_, fun g i hg => ?_⟩
  · rcases addSecs_mem _ (show p ∈ addSecs D.pend f (a / 64) _ from hp) with h1 | ⟨h1, _⟩
    · exact h.few p h1
    · omega
  · rw [hnow]
    show (D.dur g).length ≤ _
    by_cases he : g = f
    · subst he; rw [upd_same, putL_length]; have := h.len g; omega
    · rw [upd_other _ _ he]; exact h.len g
  · rw [hnow] at hg ⊢
    have hg : (D.dur g).length < _ := hg
    refine hin _ ?_
    by_cases he : g = f
    · subst he
      rw [upd_same, putL_length] at hg ⊢
      rcases Nat.lt_or_ge (a + s.length) (D.now g).length with h2 | h2
      · rw [Nat.max_eq_left (by omega)] at hg ⊢
        exact .inl (h.last g hg)
      · rw [Nat.max_eq_right h2]
        exact .inr ⟨rfl, by show a / 64 ≤ _; omega, by show (a + s.length - 1) / 64 < _; omega⟩
    · rw [upd_other _ _ he] at hg ⊢
      exact .inl (h.last g hg)
  · rw [hnow]
    show (D.dur g).getD i 0 = _
    have hnp : (g, i / 64) ∉ D.pend := fun hm => hg (hin _ (.inl hm))
    by_cases he : g = f
    · subst he
      rw [upd_same, putL_at, if_neg]
      · exact h.same g i hnp
      · rintro ⟨h1, h2⟩
        exact hg (hin _ (.inr ⟨rfl, by show a / 64 ≤ i / 64; omega, by show i / 64 < _; omega⟩))
    · rw [upd_other _ _ he]; exact h.same g i hnp
theorem survive_mem {ks : List Int} {q : Nat × Nat} : ∀ (ps : List (Nat × Nat)) (i : Nat), q ∈ survive ks i ps → q ∈ ps := by
  intro ps
  induction ps with
  | nil => intro i h; exact h
  | cons p ps ih =>
    intro i h
    simp only [survive, List.mem_append] at h
    rcases h with h | h
    · split at h
      · simp at h; simp [h]
      · cases h
    · exact List.mem_cons_of_mem _ (ih _ h)
theorem good_crash {D : Dk} (h : Good D) (ks : List Int) : Good (D.crash ks) := by
  unfold Dk.crash
  split
  · exact h
  · have hf := (hardens_keeps (survive ks 0 D.pend) D).1
    have he : ∀ g, (if g < 16 then (hardens D (survive ks 0 D.pend)).dur g else (hardens D (survive ks 0 D.pend)).now g) = (hardens D (survive ks 0 D.pend)).dur g := fun g => by
      split
      · rfl
      · rename_i hg
        rw [hf, ← h.out (by omega : 16 ≤ g), hardens_other _ _ _ fun p hp => ?_]
        have := h.few p (survive_mem _ _ hp)
        omega
    refine ⟨fun _ hp => (by cases hp), fun _ hp => (by cases hp), fun g => ?_, fun g hg => ?_, fun g i _ => ?_⟩
    · show ((hardens D (survive ks 0 D.pend)).dur g).length ≤ (if g < 16 then _ else _ : List UInt8).length
      rw [he]; exact Nat.le_refl _
    · have hg : ((hardens D (survive ks 0 D.pend)).dur g).length < (if g < 16 then (hardens D (survive ks 0 D.pend)).dur g else (hardens D (survive ks 0 D.pend)).now g : List UInt8).length := hg
      rw [he] at hg; omega
    · show ((hardens D (survive ks 0 D.pend)).dur g).getD i 0 = (if g < 16 then _ else _ : List UInt8).getD i 0
      rw [he]
theorem Good.of {D D' : Dk} (h : Good D) (h1 : D'.now = D.now) (h2 : D'.dur = D.dur) (h3 : D'.pend = D.pend) : Good D' :=
  ⟨fun p hp => by rw [h1]; exact h.inn p (h3 ▸ hp), fun p hp => h.few p (h3 ▸ hp), fun f => by rw [h1, h2]; exact h.len f, fun f => by rw [h1, h2, h3]; exact h.last f, fun f i => by rw [h1, h2, h3]; exact h.same f i⟩
theorem good_strike {D : Dk} (h : Good D) : Good D.strike.2 := by
  unfold Dk.strike
  split
  · exact h
  · split
    · exact good_crash (h.of (D' := { D with calls := 0 }) rfl rfl rfl) _
    · exact h.of rfl rfl rfl
theorem good_wr {D : Dk} (h : Good D) (f a : Int) (s : List UInt8) : Good (D.wr f a s).2 := by
  unfold Dk.wr
  split
  · exact h
  · rename_i h1
    split
    · exact h
    · split
      · exact h
      · rename_i hs
        have hi : isFile f = true := by
          cases hh : isFile f with
          | true => rfl
          | false => exact absurd (.inl hh) h1
        have := isFile_true hi
        exact good_put h (by omega) (by cases s with | nil => exact absurd rfl hs | cons x s => simp)
theorem good_write {D : Dk} (h : Good D) (f a : Int) (s : List UInt8) : Good (D.write f a s).2 := by
  have hs := good_strike (good_wr h f a s)
  unfold Dk.write
  split
  · exact h
  · simp only
    split <;> exact hs
theorem good_sync {D : Dk} (h : Good D) (f : Int) : Good (D.sync f).2 := by
  have hs := good_strike h
  unfold Dk.sync
  split
  · exact h
  · simp only
    split
    · exact hs
    · split
      · exact hs
      · split
        · exact hs.of rfl rfl rfl
        · exact good_settle hs _
theorem trunc_now {D : Dk} (f n : Nat) : ∀ g, (D.trunc (f : Int) n).now g = if g = f then (D.now f).take n else D.now g := by
  intro g
  have hk := (hardens_keeps (keepsF f D.pend) D).1
  show upd (hardens D (keepsF f D.pend)).now f (((hardens D (keepsF f D.pend)).now f).take n) g = _
  rw [hk]
  rfl
theorem good_trunc {D : Dk} (h : Good D) (f n : Nat) : Good (D.trunc (f : Int) n) := by
  have hg := good_settle h f
  have h1 : (D.settle f).dur f = (D.settle f).now f := by
    show (hardens D (keepsF f D.pend)).dur f = (hardens D (keepsF f D.pend)).now f
    rw [h.settled f, (hardens_keeps _ D).1]
  have hnow : ∀ g, (D.trunc (f : Int) n).now g = upd (D.settle f).now f (((D.settle f).now f).take n) g := fun _ => rfl
  have hdur : ∀ g, (D.trunc (f : Int) n).dur g = upd (D.settle f).dur f (((D.settle f).dur f).take n) g := fun _ => rfl
  have hp : (D.trunc (f : Int) n).pend = (D.settle f).pend := rfl
  refine ⟨in_trunc h.inn _ _, fun p hp' => hg.few p hp', fun g => ?_, fun g hl => ?_, fun g i hi => ?_⟩
  · rw [hnow, hdur]
    by_cases he : g = f
    · subst he; simp only [upd_same]; rw [h1]; exact Nat.le_refl _
    · simp only [upd_other _ _ he]; exact hg.len g
  · rw [hnow, hdur] at hl
    rw [hnow, hp]
    by_cases he : g = f
    · subst he; simp only [upd_same] at hl; rw [h1] at hl; omega
    · simp only [upd_other _ _ he] at hl ⊢; exact hg.last g hl
  · rw [hnow, hdur]
    by_cases he : g = f
    · subst he; simp only [upd_same]; rw [h1]
    · simp only [upd_other _ _ he]; exact hg.same g i hi
theorem good_truncate {D : Dk} (h : Good D) (f n : Int) : Good (D.truncate f n).2 := by
  have hs := good_strike h
  unfold Dk.truncate
  split
  · exact h
  · simp only
    split
    · exact hs
    · split
      · exact hs
      · rename_i h1
        have hi : isFile f = true := by
          cases hh : isFile f with
          | true => rfl
          | false => exact absurd (.inl hh) h1
        have h2 := isFile_true hi
        have h3 : D.strike.2.trunc f n.toNat = D.strike.2.trunc ((f.toNat : Nat) : Int) n.toNat := by rw [show ((f.toNat : Nat) : Int) = f by omega]
        rw [h3]
        exact good_trunc hs _ _
end Go.Proofs.YtjbcgahdiolhhaaDoor.D2
