/- What wire's readers do: Text, Left, Done, Rest, and the lists. -/
import Derived.Test.YtjbcgahdiolhhaaDoorRead
namespace Go.Proofs.YtjbcgahdiolhhaaDoor
open Go.RowKit Go.Shelf

theorem text_any (b : Nat) (st : Option (List UInt8)) (hs : (st.getD []).length ≤ 281474976710656) (w : World) (he : Env w) (h : RdAt 80 b st w) :
    Calls Tryd.prog 25 #[.pointer (some ⟨b, 0, none⟩)] w (Left 80 b (.string (bs (rText st).1)) (rText st).2 w) := by
  cases st with
  | none => exact text_none b none hs rfl w he h
  | some s =>
    rcases hp : Sp.pNum 58 s with _ | ⟨n, t⟩
    · have hr : rText (some s) = ([], none) := by simp [rText, Sp.pText, hp]
      rw [hr]
      exact text_none b (some s) hs (by simp [rNum, hp]) w he h
    · obtain ⟨h1, _, h2⟩ := Sp.pNum_some hp
      have hr0 : rNum 58 (some s) = (n, some t) := by simp [rNum, hp]
      by_cases hn : (t.length : Int) < n
      · have hr : rText (some s) = ([], none) := by simp [rText, Sp.pText, hp, hn]
        rw [hr]
        exact text_long b (some s) hs n t hr0 hn w he h
      · obtain ⟨k, rfl⟩ := Int.eq_ofNat_of_zero_le h2
        have ht : t.length ≤ 281474976710656 := by
          have : t.length ≤ s.length := by rw [h1]; simp; omega
          simp at hs; omega
        have hlen : k ≤ t.length := by omega
        rcases hk : Sp.skip 44 (t.drop k) with _ | u
        · have hr : rText (some s) = ([], none) := by simp [rText, Sp.pText, hp, hn, hk]
          rw [hr]
          exact text_tail b (some s) hs k t hr0 hlen ht false none (by simp [rSkip, hk]) w he h
        · have hr : rText (some s) = (t.take k, some u) := by simp [rText, Sp.pText, hp, hn, hk]
          rw [hr]
          exact text_tail b (some s) hs k t hr0 hlen ht true (some u) (by simp [rSkip, hk]) w he h

/-! ### Left, Done, Rest -/
theorem left_any (T : TypeId) (hT : T = 80) (b : Nat) (st : Option (List UInt8)) (w : World) (h : RdAt T b st w) :
    Calls Tryd.prog 24 #[.pointer (some ⟨b, 0, none⟩)] w fun x w' => x = .returned (.int .i64 (st.getD []).length) ∧ w = w' := by
  subst hT
  have c0 := h.c0
  go_enter Tryd.func24, Tryd.ntmps24
  go_wp2
  go_ret
  exact ⟨rfl, rfl⟩

def rDone : Option (List UInt8) → Bool
  | none => false
  | some s => s.isEmpty

theorem done_any (b : Nat) (st : Option (List UInt8)) (w : World) (h : RdAt 80 b st w) :
    Calls Tryd.prog 51 #[.pointer (some ⟨b, 0, none⟩)] w fun x w' => x = .returned (.bool (rDone st)) ∧ w = w' := by
  cases st with
  | none =>
    have c1 : w.cell? ⟨b, 1, none⟩ = some (.bool true) := h.c1
    go_enter Tryd.func51, Tryd.ntmps51
    go_wp2
    go_ret
    exact ⟨rfl, rfl⟩
  | some s =>
    have c0 : w.cell? ⟨b, 0, none⟩ = some (.string (bs s)) := h.c0
    have c1 : w.cell? ⟨b, 1, none⟩ = some (.bool false) := h.c1
    have HL := Lib.hid (bs_toList s)
    cases hb : s.isEmpty
    · have hl : (bs s).toList.isEmpty = false := by rw [HL.out]; exact hb
      go_enter Tryd.func51, Tryd.ntmps51
      go_wp2
      go_ret
      exact ⟨by simp [rDone, hb], rfl⟩
    · have hl : (bs s).toList.isEmpty = true := by rw [HL.out]; exact hb
      have hl2 : (bs s).toList = [] := by rw [HL.out]; simpa using hb
      go_enter Tryd.func51, Tryd.ntmps51
      go_wp2
      go_ret
      exact ⟨by simp [rDone, hb], rfl⟩

def rRest (st : Option (List UInt8)) : List UInt8 × Option (List UInt8) := (st.getD [], st.map fun _ => [])

theorem RdAt.set_rest {T : TypeId} {b : Nat} {st : Option (List UInt8)} {w : World} (h : RdAt T b st w) : RdAt T b (st.map fun _ => []) (w.setCell ⟨b, 0, none⟩ (.string ⟨#[]⟩)) := by
  unfold RdAt
  rw [heap_set w b 0 _ h]
  cases st <;> rfl

/-! ### Lists -/
def rList {α : Type} (p : List UInt8 → Option (α × List UInt8)) : Option (List UInt8) → List α × Option (List UInt8)
  | none => ([], none)
  | some s => match Sp.pList p s with
    | none => ([], none)
    | some (l, t) => (l, some t)

/-- What holds after k rounds: xs is what has been read, st is where the reader stands. -/
def Prog {α : Type} (p : List UInt8 → Option (α × List UInt8)) (n : Nat) (t : List UInt8) (xs : List α) : Option (List UInt8) → Prop
  | none => Sp.pMany p n t = none
  | some u => xs.length ≤ n ∧ xs.length + u.length ≤ t.length ∧ Sp.pMany p n t = (Sp.pMany p (n - xs.length) u).map fun x => (xs ++ x.1, x.2)

theorem Prog.start {α : Type} (p : List UInt8 → Option (α × List UInt8)) (n : Nat) (t : List UInt8) : Prog p n t [] (some t) :=
  ⟨Nat.zero_le _, by simp, by simp⟩

theorem Prog.bad {α : Type} {p : List UInt8 → Option (α × List UInt8)} {n : Nat} {t u : List UInt8} {xs : List α} (h : Prog p n t xs (some u)) (hlt : xs.length < n) (hp : p u = none) (ys : List α) : Prog p n t ys none := by
  obtain ⟨_, _, h3⟩ := h
  unfold Prog
  rw [h3, show n - xs.length = (n - xs.length - 1) + 1 by omega]
  simp [Sp.pMany, hp]

theorem Prog.good {α : Type} {p : List UInt8 → Option (α × List UInt8)} {n : Nat} {t u v : List UInt8} {xs : List α} {a : α} (h : Prog p n t xs (some u)) (hlt : xs.length < n) (hp : p u = some (a, v)) (hl : v.length < u.length) : Prog p n t (xs ++ [a]) (some v) := by
  obtain ⟨h1, h2, h3⟩ := h
  refine ⟨by simp; omega, by simp; omega, ?_⟩
  rw [h3, show n - xs.length = (n - (xs ++ [a]).length) + 1 by simp; omega]
  simp [Sp.pMany, hp]
  rfl

/-- A list that a call has made: its cells lie from block lo on. -/
def ListFrom {α : Type} (f : α → Value) (lo : Nat) (w : World) (v : Value) (zs : List α) : Prop :=
  ∃ a cap, v = .slice a zs.length cap ∧ (zs = [] ∨ ∃ b, a = some ⟨b, 0, none⟩ ∧ lo ≤ b ∧ b < w.heap.size ∧ ∀ k z, zs[k]? = some z → w.cell? ⟨b, k, none⟩ = some (f z))

theorem listFrom_own {α : Type} {f : α → Value} {lo : Nat} {w : World} {e : TypeId} {v : Value} {zs : List α} (h : w.ownsRow lo e 1 v zs.length (zs.map f)) : ListFrom f lo w v zs := by
  rcases h.2 with ⟨rfl, h0⟩ | ⟨g, cap, cur, rfl, hg, hh, hn, hc, hs, ht⟩
  · have : zs = [] := List.length_eq_zero_iff.1 h0
    subst this
    exact ⟨none, 0, rfl, .inl rfl⟩
  · refine ⟨_, cap, rfl, .inr ⟨g, rfl, hg, (Array.getElem?_eq_some_iff.1 hh).1, fun k z hk => ?_⟩⟩
    have := h.cells (g := g) rfl k (f z) (by rw [List.getElem?_map, hk]; rfl)
    rw [Lib.add_plain] at this
    simpa using this

theorem listFrom_nil {α : Type} (f : α → Value) (lo : Nat) (w : World) : ListFrom f lo w (.slice none 0 0) [] := ⟨none, 0, rfl, .inl rfl⟩

/-- A list stays one where its block stands. -/
theorem ListFrom.keep {α : Type} {f : α → Value} {lo : Nat} {w w' : World} {v : Value} {zs : List α} (h : ListFrom f lo w v zs) (hb : ∀ k, lo ≤ k → k < w.heap.size → w'.heap[k]? = w.heap[k]?) (hs : w.heap.size ≤ w'.heap.size) : ListFrom f lo w' v zs := by
  obtain ⟨a, cap, h1, h2⟩ := h
  refine ⟨a, cap, h1, ?_⟩
  rcases h2 with h2 | ⟨b, h3, h4, h5, h6⟩
  · exact .inl h2
  · exact .inr ⟨b, h3, h4, Nat.lt_of_lt_of_le h5 hs, fun k z hk => (World.cell?_of_block (w := w) (a := ⟨b, k, none⟩) (hb b h4 h5)).trans (h6 k z hk)⟩

/-- What a reader's method leaves that returns a list. -/
def LeftList {α : Type} (f : α → Value) (T : TypeId) (b : Nat) (zs : List α) (st : Option (List UInt8)) (w : World) (x : Ending) (w' : World) : Prop :=
  ∃ v, x = .returned v ∧ ListFrom f w.heap.size w' v zs ∧ RdAt T b st w' ∧ w.grownBy w' (some b)

theorem RdAt.old {T : TypeId} {b : Nat} {st : Option (List UInt8)} {w w' : World} {row : Option Nat} (h : RdAt T b st w) (hb : w.grownBy w' row) (hne : some b ≠ row) : RdAt T b st w' := (hb.block b h.lt hne).trans h

theorem rSkip_false {c : UInt8} {s : List UInt8} {q : Bool} {st2 : Option (List UInt8)} (h : rSkip c (some s) = (q, st2)) (hq : q = false) : st2 = none := by
  unfold rSkip at h
  rcases hk : Sp.skip c s with _ | t <;> simp [hk] at h
  · exact h.2.symm
  · rw [hq] at h; simp at h
theorem gb_own {a w w' : World} {g : Nat} {row : Option Nat} (h : a.grownBy w (some g)) (k : w.grownBy w' row) (hr : ∀ i, row = some i → a.heap.size ≤ i) : a.grownBy w' (some g) :=
  ⟨k.os.trans h.os, k.tape.trans h.tape, k.output.trans h.output, Nat.le_trans h.size k.size, fun i hi hne => (k.block i (Nat.lt_of_lt_of_le hi h.size) (fun e => by have := hr i e.symm; omega)).trans (h.block i hi hne)⟩
theorem own_reader {e : TypeId} {lo b n : Nat} {v : Value} {xs : List Value} {w : World} (h : w.ownsRow lo e 1 v n xs) (hb : b < lo) : v.ownBlock ≠ some b := by
  intro hv
  have := (h.lt b hv).1
  omega

/-! ### Nums -/
theorem int_info : (Tryd.prog.info? 3).map (fun i => (i.zero, i.size, i.bytes)) = some (some (.int .i64 0), 1, 8) := by kernel_rfl

/-! ### Texts -/
theorem string_info : (Tryd.prog.info? 9).map (fun i => (i.zero, i.size, i.bytes)) = some (some (.string ⟨#[]⟩), 1, 16) := by kernel_rfl

end Go.Proofs.YtjbcgahdiolhhaaDoor
