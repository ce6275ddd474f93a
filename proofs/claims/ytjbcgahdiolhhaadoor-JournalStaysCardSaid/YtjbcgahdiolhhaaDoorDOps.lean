/- Write, Sync, Truncate. -/
import Derived.Test.YtjbcgahdiolhhaaDoorDWriteD
namespace Go.Proofs.YtjbcgahdiolhhaaDoor.D2
open Go.RowKit Go.Maps Go.ChangeMaps Go.MapKept
open Dp
attribute [local go_sem ↓] Go.wp_at_zero Go.wp_at_succ

/-! ### What is pending stays in its file -/
theorem addSecs_mem {ps : List (Nat × Nat)} {f n : Nat} {q : Nat × Nat} : ∀ k, q ∈ addSecs ps f n k → q ∈ ps ∨ (q.1 = f ∧ q.2 < n + k) := by
  intro k
  induction k with
  | zero => intro h; exact .inl h
  | succ k ih =>
    intro h
    rw [addSecs_snoc] at h
    rcases addSec_mem.1 h with h | rfl
    · exact (ih h).imp id fun h => ⟨h.1, by omega⟩
    · exact .inr ⟨rfl, by show n + k < n + (k + 1); omega⟩
theorem in_put {D : Dk} (h : D.In) (f a : Nat) (s : List UInt8) (hs : 0 < s.length) : (D.put f a s).In := by
  intro q hq
  have hl : ((D.put f a s).now q.1).length = if q.1 = f then max (D.now f).length (a + s.length) else (D.now q.1).length := by
    show (upd D.now f (putL (D.now f) a s) q.1).length = _
    by_cases he : q.1 = f
    · rw [he, upd_same, if_pos rfl, putL_length]
    · rw [upd_other _ _ he, if_neg he]
  rw [hl]
  rcases addSecs_mem _ (show q ∈ addSecs D.pend f (a / 64) ((a + s.length - 1) / 64 + 1 - a / 64) from hq) with h1 | ⟨h1, h2⟩
  · have := h q h1
    split
    · rename_i he; rw [he] at this; omega
    · exact this
  · rw [if_pos h1]; omega
theorem in_wr {D : Dk} (h : D.In) (f a : Int) (s : List UInt8) : (D.wr f a s).2.In := by
  unfold Dk.wr
  split
  · exact h
  · split
    · exact h
    · split
      · exact h
      · rename_i hs
        exact in_put h _ _ _ (by cases s with | nil => exact absurd rfl hs | cons x s => simp)
theorem in_crash {D : Dk} (h : D.In) (ks : List Int) : (D.crash ks).In := by
  unfold Dk.crash
  split
  · exact h
  · intro q hq; cases hq
theorem in_strike {D : Dk} (h : D.In) : D.strike.2.In := by
  unfold Dk.strike
  split
  · exact h
  · split
    · exact in_crash (D := { D with calls := 0 }) h _
    · exact h
theorem in_settle {D : Dk} (h : D.In) (f : Nat) : (D.settle f).In := by
  intro q hq
  have h1 := (hardens_keeps (keepsF f D.pend) D).1
  show 64 * q.2 < ((hardens D (keepsF f D.pend)).now q.1).length
  rw [h1]
  exact h q (List.mem_filter.1 hq).1
theorem in_sync {D : Dk} (h : D.In) (f : Int) : (D.sync f).2.In := by
  have hs := in_strike h
  unfold Dk.sync
  split
  · exact h
  · simp only
    split
    · exact hs
    · split
      · exact hs
      · split
        · exact hs
        · exact in_settle hs _
theorem in_trunc {D : Dk} (h : D.In) (f : Int) (n : Nat) : (D.trunc f n).In := by
  intro q hq
  have hq' : q ∈ D.pend.filter (fun p => p.1 ≠ f.toNat) := hq
  have h1 := (hardens_keeps (keepsF f.toNat D.pend) D).1
  have h2 := List.mem_filter.1 hq'
  show 64 * q.2 < (upd (hardens D (keepsF f.toNat D.pend)).now f.toNat _ q.1).length
  rw [upd_other _ _ (by simpa using h2.2), h1]
  exact h q h2.1
theorem in_truncate {D : Dk} (h : D.In) (f n : Int) : (D.truncate f n).2.In := by
  have hs := in_strike h
  unfold Dk.truncate
  split
  · exact h
  · simp only
    split
    · exact hs
    · split
      · exact hs
      · exact in_trunc hs _ _
theorem in_write {D : Dk} (h : D.In) (f a : Int) (s : List UInt8) : (D.write f a s).2.In := by
  have hs := in_strike (in_wr h f a s)
  unfold Dk.write
  split
  · exact h
  · simp only
    split <;> exact hs

section
variable {w : World} {lab : Nat → Nat} {id b : Nat} {D : Dk} {L : Loc}
theorem res_same (h : DiskIn w lab id b D D.pend L) (r : Value) {P : Program} {f : FuncId} {args : Array Value} (hc : Calls P f args w fun e w' => e = .returned r ∧ w = w') : Calls P f args w (ResPost lab id b r D w) := by
  refine hc.mono ?_
  rintro e w' ⟨rfl, rfl⟩
  exact ⟨rfl, lab, L, h, Chg.refl h.lo⟩

theorem wr_any (h : DiskIn w lab id b D D.pend L) (f a : Int) (s : List UInt8) (hf : I64 f) (ha : I64 a) (hs : s.length ≤ 140737488355327) :
    Calls Tryd.prog 42 #[.pointer (some ⟨b, 0, none⟩), .int .i64 f, .int .i64 a, .string (bs s)] w (ResPost lab id b (.int .i64 (D.wr f a s).1) (D.wr f a s).2 w) := by
  unfold Dk.wr
  split
  · rename_i h1
    exact res_same h _ (write_arg h f a s hf ha h1)
  · rename_i h1
    have hi : isFile f = true := by
      cases hh : isFile f with
      | true => rfl
      | false => exact absurd (.inl hh) h1
    have h0 : 0 ≤ a := by
      rcases Int.lt_or_le a 0 with h2 | h2
      · exact absurd (.inr h2) h1
      · exact h2
    have h16 := isFile_true hi
    split
    · rename_i h2
      have := write_none h f a s hf ha hi h0 hs (.inl h2)
      rw [if_pos h2] at this
      exact res_same h _ this
    · rename_i h2
      split
      · rename_i h3
        have := write_none h f a s hf ha hi h0 hs (.inr h3)
        rw [if_neg h2] at this
        exact res_same h _ this
      · rename_i h3
        have := write_put h f.toNat a.toNat s (by omega) (by omega) (by cases s with | nil => exact absurd rfl h3 | cons x s => simp)
        rw [show ((f.toNat : Nat) : Int) = f by omega, show ((a.toNat : Nat) : Int) = a by omega] at this
        exact this

set_option maxHeartbeats 1000000 in
set_option maxRecDepth 100000 in
theorem write_any (h : DiskIn w lab id b D D.pend L) (hin : D.In) (f a : Int) (s : List UInt8) (hf : I64 f) (ha : I64 a) (hs : s.length ≤ 140737488355327) :
    Calls Tryd.prog 22 #[.pointer (some ⟨b, 0, none⟩), .int .i64 f, .int .i64 a, .string (bs s)] w (ResPost lab id b (.int .i64 (D.write f a s).1) (D.write f a s).2 w) := by
  have c3 := h.c 3
  simp only [List.getElem?_toArray, List.getElem?_cons_zero, List.getElem?_cons_succ] at c3
  cases hd : D.down with
  | true =>
    have hw : D.write f a s = (eDown, D) := by simp [Dk.write, hd]
    rw [hw]
    rw [hd] at c3
    refine res_same h _ ?_
    clear h hin hf ha hs hw
    go_enter Tryd.func22, Tryd.ntmps22
    go_wp2
    go_ret
    exact ⟨rfl, rfl⟩
  | false =>
    rw [hd] at c3
    have H := Lib.hid h
    have HI := Lib.hid (in_wr hin f a s)
    have HF := Lib.hid hf
    have HA := Lib.hid ha
    have HW := Lib.hid (show D.write f a s = if (D.wr f a s).2.strike.1 then (eDown, (D.wr f a s).2.strike.2) else ((D.wr f a s).1, (D.wr f a s).2.strike.2) by simp [Dk.write, hd])
    generalize hr : (D.wr f a s).1 = r at HW
    have HR := Lib.hid hr
    clear h hin hf ha hd hr
    go_enter Tryd.func22, Tryd.ntmps22
    go_wp2_with (go_at_call 42; ((with_reducible refine (wr_any H.out f a s HF.out HA.out hs).mono ?_); rintro e w1 ⟨rfl, lab1, L1, h1, k1⟩; have H1 := Lib.hid h1; have K1 := Lib.hid k1; clear h1 k1; refine Hid.out ?_))
    refine Lib.hid ?_
    rw [HR.out]
    cases hst : (D.wr f a s).2.strike.1 with
    | true =>
      have HST := Lib.hid hst
      clear hst
      go_wp2_with (go_at_call 43; ((with_reducible refine (strike_any H1.out HI.out).mono ?_); rintro e w2 ⟨rfl, lab2, L2, h2, k2⟩; have H2 := Lib.hid h2; have K2 := Lib.hid k2; clear h2 k2; refine Hid.out ?_))
      refine Lib.hid ?_
      rw [HST.out]
      go_wp2
      go_ret
      exact ⟨by rw [HW.out, if_pos HST.out]; rfl, lab2, L2, by rw [HW.out, if_pos HST.out]; exact H2.out, K1.out.trans K2.out⟩
    | false =>
      have HST := Lib.hid hst
      clear hst
      go_wp2_with (go_at_call 43; ((with_reducible refine (strike_any H1.out HI.out).mono ?_); rintro e w2 ⟨rfl, lab2, L2, h2, k2⟩; have H2 := Lib.hid h2; have K2 := Lib.hid k2; clear h2 k2; refine Hid.out ?_))
      refine Lib.hid ?_
      rw [HST.out]
      go_wp2
      go_ret
      have hn : ¬ ((D.wr f a s).2.strike.1 = true) := by rw [HST.out]; simp
      exact ⟨by rw [HW.out, if_neg hn]; rfl, lab2, L2, by rw [HW.out, if_neg hn]; exact H2.out, K1.out.trans K2.out⟩
end
end Go.Proofs.YtjbcgahdiolhhaaDoor.D2
