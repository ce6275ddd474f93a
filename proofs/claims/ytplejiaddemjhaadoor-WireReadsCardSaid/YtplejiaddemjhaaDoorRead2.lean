/- What wire's readers do: Text, Left, Done, Rest, and the lists. -/
import Derived.Test.YtplejiaddemjhaaDoorRead
namespace Go.Proofs.YtplejiaddemjhaaDoor
open Go.RowKit Go.Shelf

theorem text_any (b : Nat) (st : Option (List UInt8)) (hs : (st.getD []).length ≤ 281474976710656) (w : World) (he : Env w) (h : RdAt 54 b st w) :
    Calls Tryd.prog 28 #[.pointer (some ⟨b, 0, none⟩)] w (Left 54 b (.string (bs (rText st).1)) (rText st).2 w) := by
  cases st with
  | none => exact text_none b none hs rfl w he h
  | some s =>
    rcases hp : Sp.pNum 58 s with _ | ⟨n, t⟩
    · have hr : rText (some s) = ([], none) := by simp [rText, Sp.pText, hp]
      rw [hr]
      exact text_none b (some s) hs (by simp [rNum, hp]) w he h
    · obtain ⟨h1, _, h2⟩ := Sp.pNum_some hp
      have hr0 : rNum 58 (some s) = (n, some t) := by simp [rNum, hp]
      by_cases hn : (t.length : Int) < n
      · have hr : rText (some s) = ([], none) := by simp [rText, Sp.pText, hp, hn]
        rw [hr]
        exact text_long b (some s) hs n t hr0 hn w he h
      · obtain ⟨k, rfl⟩ := Int.eq_ofNat_of_zero_le h2
        have ht : t.length ≤ 281474976710656 := by
          have : t.length ≤ s.length := by rw [h1]; simp; omega
          simp at hs; omega
        have hlen : k ≤ t.length := by omega
        rcases hk : Sp.skip 44 (t.drop k) with _ | u
        · have hr : rText (some s) = ([], none) := by simp [rText, Sp.pText, hp, hn, hk]
          rw [hr]
          exact text_tail b (some s) hs k t hr0 hlen ht false none (by simp [rSkip, hk]) w he h
        · have hr : rText (some s) = (t.take k, some u) := by simp [rText, Sp.pText, hp, hn, hk]
          rw [hr]
          exact text_tail b (some s) hs k t hr0 hlen ht true (some u) (by simp [rSkip, hk]) w he h

/-! ### Left, Done, Rest -/
theorem left_any (T : TypeId) (hT : T = 54) (b : Nat) (st : Option (List UInt8)) (w : World) (h : RdAt T b st w) :
    Calls Tryd.prog 36 #[.pointer (some ⟨b, 0, none⟩)] w fun x w' => x = .returned (.int .i64 (st.getD []).length) ∧ w = w' := by
  subst hT
  have c0 := h.c0
  go_enter Tryd.func36, Tryd.ntmps36
  go_wp2
  go_ret
  exact ⟨rfl, rfl⟩

def rDone : Option (List UInt8) → Bool
  | none => false
  | some s => s.isEmpty

theorem done_any (b : Nat) (st : Option (List UInt8)) (w : World) (h : RdAt 54 b st w) :
    Calls Tryd.prog 38 #[.pointer (some ⟨b, 0, none⟩)] w fun x w' => x = .returned (.bool (rDone st)) ∧ w = w' := by
  cases st with
  | none =>
    have c1 : w.cell? ⟨b, 1, none⟩ = some (.bool true) := h.c1
    go_enter Tryd.func38, Tryd.ntmps38
    go_wp2
    go_ret
    exact ⟨rfl, rfl⟩
  | some s =>
    have c0 : w.cell? ⟨b, 0, none⟩ = some (.string (bs s)) := h.c0
    have c1 : w.cell? ⟨b, 1, none⟩ = some (.bool false) := h.c1
    have HL := Lib.hid (bs_toList s)
    cases hb : s.isEmpty
    · have hl : (bs s).toList.isEmpty = false := by rw [HL.out]; exact hb
      go_enter Tryd.func38, Tryd.ntmps38
      go_wp2
      go_ret
      exact ⟨by simp [rDone, hb], rfl⟩
    · have hl : (bs s).toList.isEmpty = true := by rw [HL.out]; exact hb
      have hl2 : (bs s).toList = [] := by rw [HL.out]; simpa using hb
      go_enter Tryd.func38, Tryd.ntmps38
      go_wp2
      go_ret
      exact ⟨by simp [rDone, hb], rfl⟩

def rRest (st : Option (List UInt8)) : List UInt8 × Option (List UInt8) := (st.getD [], st.map fun _ => [])

theorem RdAt.set_rest {T : TypeId} {b : Nat} {st : Option (List UInt8)} {w : World} (h : RdAt T b st w) : RdAt T b (st.map fun _ => []) (w.setCell ⟨b, 0, none⟩ (.string ⟨#[]⟩)) := by
  unfold RdAt
  rw [heap_set w b 0 _ h]
  cases st <;> rfl

theorem rest_any (b : Nat) (st : Option (List UInt8)) (hs : (st.getD []).length ≤ 281474976710656) (w : World) (h : RdAt 54 b st w) :
    Calls Tryd.prog 40 #[.pointer (some ⟨b, 0, none⟩)] w (Left 54 b (.string (bs (rRest st).1)) (rRest st).2 w) := by
  have c0 := h.c0
  have f0 := h.f 0
  have hz : (bs (st.getD [])).size ≤ 281474976710656 := by rw [bs_size]; exact hs
  have h1 := h.set_rest
  have g1 := gb_set (p := ⟨b, 0, none⟩) (gb_refl w (some b)) (.inl rfl) (.string ⟨#[]⟩)
  go_enter Tryd.func40, Tryd.ntmps40
  go_wp2_with (go_at_call 54; refine (clone_any _ hz _).mono ?_; rintro x w5 ⟨rfl, hb5⟩)
  go_ret
  exact ⟨rfl, h1.fresh hb5, gb_below g1 hb5⟩

/-! ### Lists -/
def rList {α : Type} (p : List UInt8 → Option (α × List UInt8)) : Option (List UInt8) → List α × Option (List UInt8)
  | none => ([], none)
  | some s => match Sp.pList p s with
    | none => ([], none)
    | some (l, t) => (l, some t)

/-- What holds after k rounds: xs is what has been read, st is where the reader stands. -/
def Prog {α : Type} (p : List UInt8 → Option (α × List UInt8)) (n : Nat) (t : List UInt8) (xs : List α) : Option (List UInt8) → Prop
  | none => Sp.pMany p n t = none
  | some u => xs.length ≤ n ∧ xs.length + u.length ≤ t.length ∧ Sp.pMany p n t = (Sp.pMany p (n - xs.length) u).map fun x => (xs ++ x.1, x.2)

theorem Prog.start {α : Type} (p : List UInt8 → Option (α × List UInt8)) (n : Nat) (t : List UInt8) : Prog p n t [] (some t) :=
  ⟨Nat.zero_le _, by simp, by simp⟩

theorem Prog.bad {α : Type} {p : List UInt8 → Option (α × List UInt8)} {n : Nat} {t u : List UInt8} {xs : List α} (h : Prog p n t xs (some u)) (hlt : xs.length < n) (hp : p u = none) (ys : List α) : Prog p n t ys none := by
  obtain ⟨_, _, h3⟩ := h
  unfold Prog
  rw [h3, show n - xs.length = (n - xs.length - 1) + 1 by omega]
  simp [Sp.pMany, hp]

theorem Prog.good {α : Type} {p : List UInt8 → Option (α × List UInt8)} {n : Nat} {t u v : List UInt8} {xs : List α} {a : α} (h : Prog p n t xs (some u)) (hlt : xs.length < n) (hp : p u = some (a, v)) (hl : v.length < u.length) : Prog p n t (xs ++ [a]) (some v) := by
  obtain ⟨h1, h2, h3⟩ := h
  refine ⟨by simp; omega, by simp; omega, ?_⟩
  rw [h3, show n - xs.length = (n - (xs ++ [a]).length) + 1 by simp; omega]
  simp [Sp.pMany, hp]
  rfl

/-- A list that a call has made: its cells lie from block lo on. -/
def ListFrom {α : Type} (f : α → Value) (lo : Nat) (w : World) (v : Value) (zs : List α) : Prop :=
  ∃ a cap, v = .slice a zs.length cap ∧ (zs = [] ∨ ∃ b, a = some ⟨b, 0, none⟩ ∧ lo ≤ b ∧ b < w.heap.size ∧ ∀ k z, zs[k]? = some z → w.cell? ⟨b, k, none⟩ = some (f z))

theorem listFrom_own {α : Type} {f : α → Value} {lo : Nat} {w : World} {e : TypeId} {v : Value} {zs : List α} (h : w.ownsRow lo e 1 v zs.length (zs.map f)) : ListFrom f lo w v zs := by
  rcases h.2 with ⟨rfl, h0⟩ | ⟨g, cap, cur, rfl, hg, hh, hn, hc, hs, ht⟩
  · have : zs = [] := List.length_eq_zero_iff.1 h0
    subst this
    exact ⟨none, 0, rfl, .inl rfl⟩
  · refine ⟨_, cap, rfl, .inr ⟨g, rfl, hg, (Array.getElem?_eq_some_iff.1 hh).1, fun k z hk => ?_⟩⟩
    have := h.cells (g := g) rfl k (f z) (by rw [List.getElem?_map, hk]; rfl)
    rw [Lib.add_plain] at this
    simpa using this

theorem listFrom_nil {α : Type} (f : α → Value) (lo : Nat) (w : World) : ListFrom f lo w (.slice none 0 0) [] := ⟨none, 0, rfl, .inl rfl⟩

/-- A list stays one where its block stands. -/
theorem ListFrom.keep {α : Type} {f : α → Value} {lo : Nat} {w w' : World} {v : Value} {zs : List α} (h : ListFrom f lo w v zs) (hb : ∀ k, lo ≤ k → k < w.heap.size → w'.heap[k]? = w.heap[k]?) (hs : w.heap.size ≤ w'.heap.size) : ListFrom f lo w' v zs := by
  obtain ⟨a, cap, h1, h2⟩ := h
  refine ⟨a, cap, h1, ?_⟩
  rcases h2 with h2 | ⟨b, h3, h4, h5, h6⟩
  · exact .inl h2
  · exact .inr ⟨b, h3, h4, Nat.lt_of_lt_of_le h5 hs, fun k z hk => (World.cell?_of_block (w := w) (a := ⟨b, k, none⟩) (hb b h4 h5)).trans (h6 k z hk)⟩

/-- What a reader's method leaves that returns a list. -/
def LeftList {α : Type} (f : α → Value) (T : TypeId) (b : Nat) (zs : List α) (st : Option (List UInt8)) (w : World) (x : Ending) (w' : World) : Prop :=
  ∃ v, x = .returned v ∧ ListFrom f w.heap.size w' v zs ∧ RdAt T b st w' ∧ w.grownBy w' (some b)

theorem RdAt.old {T : TypeId} {b : Nat} {st : Option (List UInt8)} {w w' : World} {row : Option Nat} (h : RdAt T b st w) (hb : w.grownBy w' row) (hne : some b ≠ row) : RdAt T b st w' := (hb.block b h.lt hne).trans h

theorem rSkip_false {c : UInt8} {s : List UInt8} {q : Bool} {st2 : Option (List UInt8)} (h : rSkip c (some s) = (q, st2)) (hq : q = false) : st2 = none := by
  unfold rSkip at h
  rcases hk : Sp.skip c s with _ | t <;> simp [hk] at h
  · exact h.2.symm
  · rw [hq] at h; simp at h
theorem gb_own {a w w' : World} {g : Nat} {row : Option Nat} (h : a.grownBy w (some g)) (k : w.grownBy w' row) (hr : ∀ i, row = some i → a.heap.size ≤ i) : a.grownBy w' (some g) :=
  ⟨k.os.trans h.os, k.tape.trans h.tape, k.output.trans h.output, Nat.le_trans h.size k.size, fun i hi hne => (k.block i (Nat.lt_of_lt_of_le hi h.size) (fun e => by have := hr i e.symm; omega)).trans (h.block i hi hne)⟩
theorem own_reader {e : TypeId} {lo b n : Nat} {v : Value} {xs : List Value} {w : World} (h : w.ownsRow lo e 1 v n xs) (hb : b < lo) : v.ownBlock ≠ some b := by
  intro hv
  have := (h.lt b hv).1
  omega

/-! ### Nums -/
theorem int_info : (Tryd.prog.info? 3).map (fun i => (i.zero, i.size, i.bytes)) = some (some (.int .i64 0), 1, 8) := by kernel_rfl

set_option maxHeartbeats 2000000 in
theorem readList_int (b : Nat) (n : Nat) (st : Option (List UInt8)) (t : List UInt8) (hs : (st.getD []).length ≤ 1099511627776) (ht : t.length ≤ 1099511627776) (hr : rNum 91 st = ((n : Int), some t)) (w : World) (he : Env w) (hb : G0 ≤ b) (h : RdAt 54 b st w) (res : List Int × Option (List UInt8))
    (hres : ∀ xs st', Prog (Sp.pInt 59) n t xs st' → (st' = none → res = ([], none)) ∧ (∀ u, st' = some u → xs.length = n → res = if (rSkip 93 (some u)).1 then (xs, (rSkip 93 (some u)).2) else ([], none))) :
    Calls Tryd.prog 57 #[.pointer (some ⟨b, 0, none⟩), .func (.func 26) #[.pointer (some ⟨b, 0, none⟩)] #[]] w (LeftList (fun z : Int => Value.int .i64 z) 54 b res.1 res.2 w) := by
  obtain ⟨i0, hi, hz0, hz1, hz2⟩ := info_parts int_info
  have hblt := h.lt
  have HN := number_any b 91 st (by omega)
  rw [hr] at HN
  have HN' := Lib.hid HN
  have HR := Lib.hid hres
  clear hr HN hres
  go_enter Tryd.func57, Tryd.ntmps57
  go_wp2_with (go_at_call 48; refine (HN'.out _ he h).mono ?_; rintro x w1 ⟨rfl, h1, g1⟩; refine Hid.out ?_)
  refine Lib.hid ?_
  clear h
  go_wp2
  go_loopw [6, 7] (fun v i wr => ∃ (xs : List Int) (st' : Option (List UInt8)), i = .int .i64 xs.length ∧ xs.length ≤ t.length + 1 ∧ wr.ownsRow w.heap.size 3 1 v xs.length (xs.map (fun z : Int => Value.int .i64 z)) ∧ Hid (Prog (Sp.pInt 59) n t xs st') ∧ RdAt 54 b st' wr ∧ w.grownBy wr (some b)) (fun _ i _ => n - (intOf i).toNat)
  case atStart => exact ⟨[], some t, rfl, by simp, World.ownsRow_nil _ _ _ _, Lib.hid (Prog.start _ n t), h1, g1⟩
  case round =>
    obtain ⟨xs, st', rfl, hxl, hown, HP, hrd, gr⟩ := hrel
    clear h1 g1 w1
    have er := he.gb gr hb
    have hsr := gr.size
    by_cases hlt : xs.length < n
    · cases st' with
      | none =>
        have c1 : wr.cell? ⟨b, 1, none⟩ = some (.bool true) := hrd.c1
        have hr1 := (HR.out xs none HP.out).1 rfl
        subst hr1
        go_wp2_with (go_at_call 53; refine (skip_nil b 93 none rfl _ hrd).mono ?_; rintro x w2 ⟨rfl, h2, g2⟩)
        go_ret
        exact ⟨_, rfl, listFrom_nil _ _ _, h2, gb_trans gr g2⟩
      | some u =>
        have c1 : wr.cell? ⟨b, 1, none⟩ = some (.bool false) := hrd.c1
        have hxl2 : xs.length + u.length ≤ t.length := HP.out.2.1
        obtain ⟨a, st2, hR⟩ : ∃ a st2, rInt 59 (some u) = (a, st2) := ⟨_, _, rfl⟩
        have HP2 : Hid (Prog (Sp.pInt 59) n t (xs ++ [a]) st2) := by
          rcases hp : (Sp.pInt 59) u with _ | ⟨a', v'⟩
          · have : rInt 59 (some u) = (0, none) := by simp [rInt, hp]
            rw [this] at hR
            injection hR with e1 e2
            subst e1; subst e2
            exact Lib.hid (HP.out.bad hlt hp _)
          · have : rInt 59 (some u) = (a', some v') := by simp [rInt, hp]
            rw [this] at hR
            injection hR with e1 e2
            subst e1; subst e2
            exact Lib.hid (HP.out.good hlt hp (Sp.pInt_less hp))
        have HC := int_any b (some u) (by simp; omega)
        rw [hR] at HC
        have HC' := Lib.hid HC
        clear HC hR
        go_wp2_with (go_at_call 26; refine (HC'.out _ er hrd).mono ?_; rintro x w2 ⟨rfl, h2, g2⟩; refine Hid.out ?_)
        refine Lib.hid ?_
        have hown2 := hown.kept g2 (.inr (own_reader hown (by omega)))
        have gr2 := gb_trans gr g2
        have hs2 := gr2.size
        clear hrd gr er g2 c1
        go_wp2_with (at_builtin; refine wpList_append_own _ rfl _ _ 22 rfl w.heap.size 3 i0 (.int .i64 0) 1 8 Tryd.underlying22 hi hz0 hz1 hz2 rfl (by decide) _ _ _ rfl (hown2.alloc _) ⟨w2.heap.size, 0, none⟩ 1 1 [.int .i64 a] rfl rfl ?c1 ?c2 ?c3 ?c4 ?c5 ?_)
        case c1 =>
          intro j y hj
          match j, hj with
          | 0, hj => simp at hj; subst hj; simp [Addr.add]
        case c2 => intro y hy; simp at hy; subst hy; rfl
        case c3 => unfold maxLen; omega
        case c4 => omega
        case c5 => simp; omega
        intro v' w3 hown3 hgrow _
        have h3 : RdAt 54 b st2 w3 := by
          refine RdAt.old (w := w2.alloc (.cells #[.int .i64 a] 3)) ?_ hgrow (fun e => own_reader hown2 (by omega) e.symm)
          exact RdAt.fresh h2 ((Below.refl _ _).alloc (Nat.le_refl _) _)
        have g3 : w.grownBy w3 (some b) := gb_own (gb_alloc gr2 _) hgrow (fun i hi => (hown2.lt i hi).1)
        have hown4 : w3.ownsRow w.heap.size 3 1 v' (xs ++ [a]).length ((xs ++ [a]).map (fun z : Int => Value.int .i64 z)) := by simpa using hown3
        clear hown hown2 hown3 hgrow h2 gr2
        go_wp2
        go_roundw
        case rel => exact ⟨xs ++ [a], st2, by simp, by simp; omega, hown4, HP2, h3, g3⟩
        case measure => simp [intOf]; omega
    · cases st' with
      | none =>
        have hr1 := (HR.out xs none HP.out).1 rfl
        subst hr1
        go_wp2_with (go_at_call 53; refine (skip_nil b 93 none rfl _ hrd).mono ?_; rintro x w2 ⟨rfl, h2, g2⟩)
        go_ret
        exact ⟨_, rfl, listFrom_nil _ _ _, h2, gb_trans gr g2⟩
      | some u =>
        have hxn : xs.length = n := by have := HP.out.1; omega
        have hr1 := (HR.out xs (some u) HP.out).2 u rfl hxn
        obtain ⟨q, st2, hk⟩ : ∃ q st2, rSkip 93 (some u) = (q, st2) := ⟨_, _, rfl⟩
        have HK := skip_any b 93 (some u)
        rw [hk] at HK hr1
        have HK' := Lib.hid HK
        clear HK hxn
        have hst : q = false → st2 = none := rSkip_false hk
        clear hk
        cases q
        all_goals
          simp only [if_true, if_false, Bool.false_eq_true] at hr1
          subst hr1
          go_wp2_with (go_at_call 53; refine (HK'.out _ hrd).mono ?_; rintro x w2 ⟨rfl, h2, g2⟩)
          go_ret
        · exact ⟨_, rfl, listFrom_nil _ _ _, hst (by simp) ▸ h2, gb_trans gr g2⟩
        · exact ⟨_, rfl, listFrom_own (hown.kept g2 (.inr (own_reader hown (by omega)))), h2, gb_trans gr g2⟩

theorem readList_int_none (b : Nat) (st : Option (List UInt8)) (hs : (st.getD []).length ≤ 1099511627776) (hr : rNum 91 st = (0, none)) (w : World) (he : Env w) (h : RdAt 54 b st w) :
    Calls Tryd.prog 57 #[.pointer (some ⟨b, 0, none⟩), .func (.func 26) #[.pointer (some ⟨b, 0, none⟩)] #[]] w (LeftList (fun z : Int => Value.int .i64 z) 54 b [] none w) := by
  have HN := number_any b 91 st (by omega)
  rw [hr] at HN
  have HN' := Lib.hid HN
  clear hr HN
  go_enter Tryd.func57, Tryd.ntmps57
  go_wp2_with (go_at_call 48; refine (HN'.out _ he h).mono ?_; rintro x w1 ⟨rfl, h1, g1⟩; refine Hid.out ?_)
  refine Lib.hid ?_
  clear h he
  go_wp2
  go_loopw [6, 7] (fun v i wr => i = .int .i64 0 ∧ v = .slice none 0 0 ∧ RdAt 54 b none wr ∧ w.grownBy wr (some b)) (fun _ _ _ => 0)
  case atStart => exact ⟨rfl, rfl, h1, g1⟩
  case round =>
    obtain ⟨rfl, rfl, hrd, gr⟩ := hrel
    clear h1 g1 w1
    go_wp2_with (go_at_call 53; refine (skip_nil b 93 none rfl _ hrd).mono ?_; rintro x w2 ⟨rfl, h2, g2⟩)
    go_ret
    exact ⟨_, rfl, listFrom_nil _ _ _, h2, gb_trans gr g2⟩

theorem readList_int_any (b : Nat) (st : Option (List UInt8)) (hs : (st.getD []).length ≤ 1099511627776) (w : World) (he : Env w) (hb : G0 ≤ b) (h : RdAt 54 b st w) :
    Calls Tryd.prog 57 #[.pointer (some ⟨b, 0, none⟩), .func (.func 26) #[.pointer (some ⟨b, 0, none⟩)] #[]] w (LeftList (fun z : Int => Value.int .i64 z) 54 b (rList (Sp.pInt 59) st).1 (rList (Sp.pInt 59) st).2 w) := by
  cases st with
  | none => exact readList_int_none b none hs rfl w he h
  | some s =>
    rcases hp : Sp.pNum 91 s with _ | ⟨n, t⟩
    · have hr : rList (Sp.pInt 59) (some s) = ([], none) := by simp [rList, Sp.pList, hp]
      rw [hr]
      exact readList_int_none b (some s) hs (by simp [rNum, hp]) w he h
    · obtain ⟨h1, _, h2⟩ := Sp.pNum_some hp
      obtain ⟨k, rfl⟩ := Int.eq_ofNat_of_zero_le h2
      have ht : t.length ≤ 1099511627776 := by
        have : t.length ≤ s.length := by rw [h1]; simp; omega
        simp at hs; omega
      refine readList_int b k (some s) t hs ht (by simp [rNum, hp]) w he hb h _ (fun xs st' hP => ⟨fun e => ?_, fun u e hx => ?_⟩)
      · subst e
        have hm : Sp.pMany (Sp.pInt 59) k t = none := hP
        simp [rList, Sp.pList, hp, hm]
      · subst e
        have hm := hP.2.2
        rw [hx, Nat.sub_self] at hm
        simp only [Sp.pMany, Option.map_some, List.append_nil] at hm
        rcases hk : Sp.skip 93 u with _ | v
        · simp [rList, Sp.pList, hp, hm, rSkip, hk]
        · simp [rList, Sp.pList, hp, hm, rSkip, hk]

theorem rNums_any (b : Nat) (st : Option (List UInt8)) (hs : (st.getD []).length ≤ 1099511627776) (w : World) (he : Env w) (hb : G0 ≤ b) (h : RdAt 54 b st w) :
    Calls Tryd.prog 31 #[.pointer (some ⟨b, 0, none⟩)] w (LeftList (fun z : Int => Value.int .i64 z) 54 b (rList (Sp.pInt 59) st).1 (rList (Sp.pInt 59) st).2 w) := by
  go_enter Tryd.func31, Tryd.ntmps31
  go_wp2_with (go_at_call 57; refine (readList_int_any b st hs _ he hb h).mono ?_; rintro x w1 ⟨v, rfl, hl, h1, g1⟩)
  go_ret
  exact ⟨v, rfl, hl, h1, g1⟩

/-! ### Texts -/
theorem string_info : (Tryd.prog.info? 9).map (fun i => (i.zero, i.size, i.bytes)) = some (some (.string ⟨#[]⟩), 1, 16) := by kernel_rfl

set_option maxHeartbeats 2000000 in
theorem readList_str (b : Nat) (n : Nat) (st : Option (List UInt8)) (t : List UInt8) (hs : (st.getD []).length ≤ 1099511627776) (ht : t.length ≤ 1099511627776) (hr : rNum 91 st = ((n : Int), some t)) (w : World) (he : Env w) (hb : G0 ≤ b) (h : RdAt 54 b st w) (res : List (List UInt8) × Option (List UInt8))
    (hres : ∀ xs st', Prog Sp.pText n t xs st' → (st' = none → res = ([], none)) ∧ (∀ u, st' = some u → xs.length = n → res = if (rSkip 93 (some u)).1 then (xs, (rSkip 93 (some u)).2) else ([], none))) :
    Calls Tryd.prog 58 #[.pointer (some ⟨b, 0, none⟩), .func (.func 28) #[.pointer (some ⟨b, 0, none⟩)] #[]] w (LeftList (fun z : List UInt8 => Value.string (bs z)) 54 b res.1 res.2 w) := by
  obtain ⟨i0, hi, hz0, hz1, hz2⟩ := info_parts string_info
  have hblt := h.lt
  have HN := number_any b 91 st (by omega)
  rw [hr] at HN
  have HN' := Lib.hid HN
  have HR := Lib.hid hres
  clear hr HN hres
  go_enter Tryd.func58, Tryd.ntmps58
  go_wp2_with (go_at_call 48; refine (HN'.out _ he h).mono ?_; rintro x w1 ⟨rfl, h1, g1⟩; refine Hid.out ?_)
  refine Lib.hid ?_
  clear h
  go_wp2
  go_loopw [6, 7] (fun v i wr => ∃ (xs : List (List UInt8)) (st' : Option (List UInt8)), i = .int .i64 xs.length ∧ xs.length ≤ t.length + 1 ∧ wr.ownsRow w.heap.size 9 1 v xs.length (xs.map (fun z : List UInt8 => Value.string (bs z))) ∧ Hid (Prog Sp.pText n t xs st') ∧ RdAt 54 b st' wr ∧ w.grownBy wr (some b)) (fun _ i _ => n - (intOf i).toNat)
  case atStart => exact ⟨[], some t, rfl, by simp, World.ownsRow_nil _ _ _ _, Lib.hid (Prog.start _ n t), h1, g1⟩
  case round =>
    obtain ⟨xs, st', rfl, hxl, hown, HP, hrd, gr⟩ := hrel
    clear h1 g1 w1
    have er := he.gb gr hb
    have hsr := gr.size
    by_cases hlt : xs.length < n
    · cases st' with
      | none =>
        have c1 : wr.cell? ⟨b, 1, none⟩ = some (.bool true) := hrd.c1
        have hr1 := (HR.out xs none HP.out).1 rfl
        subst hr1
        go_wp2_with (go_at_call 53; refine (skip_nil b 93 none rfl _ hrd).mono ?_; rintro x w2 ⟨rfl, h2, g2⟩)
        go_ret
        exact ⟨_, rfl, listFrom_nil _ _ _, h2, gb_trans gr g2⟩
      | some u =>
        have c1 : wr.cell? ⟨b, 1, none⟩ = some (.bool false) := hrd.c1
        have hxl2 : xs.length + u.length ≤ t.length := HP.out.2.1
        obtain ⟨a, st2, hR⟩ : ∃ a st2, rText (some u) = (a, st2) := ⟨_, _, rfl⟩
        have HP2 : Hid (Prog Sp.pText n t (xs ++ [a]) st2) := by
          rcases hp : Sp.pText u with _ | ⟨a', v'⟩
          · have : rText (some u) = ([], none) := by simp [rText, hp]
            rw [this] at hR
            injection hR with e1 e2
            subst e1; subst e2
            exact Lib.hid (HP.out.bad hlt hp _)
          · have : rText (some u) = (a', some v') := by simp [rText, hp]
            rw [this] at hR
            injection hR with e1 e2
            subst e1; subst e2
            exact Lib.hid (HP.out.good hlt hp (Sp.pText_less hp))
        have HC := text_any b (some u) (by simp; omega)
        rw [hR] at HC
        have HC' := Lib.hid HC
        clear HC hR
        go_wp2_with (go_at_call 28; refine (HC'.out _ er hrd).mono ?_; rintro x w2 ⟨rfl, h2, g2⟩; refine Hid.out ?_)
        refine Lib.hid ?_
        have hown2 := hown.kept g2 (.inr (own_reader hown (by omega)))
        have gr2 := gb_trans gr g2
        have hs2 := gr2.size
        clear hrd gr er g2 c1
        go_wp2_with (at_builtin; refine wpList_append_own _ rfl _ _ 23 rfl w.heap.size 9 i0 (.string ⟨#[]⟩) 1 16 Tryd.underlying23 hi hz0 hz1 hz2 rfl (by decide) _ _ _ rfl (hown2.alloc _) ⟨w2.heap.size, 0, none⟩ 1 1 [.string (bs a)] rfl rfl ?c1 ?c2 ?c3 ?c4 ?c5 ?_)
        case c1 =>
          intro j y hj
          match j, hj with
          | 0, hj => simp at hj; subst hj; simp [Addr.add]
        case c2 => intro y hy; simp at hy; subst hy; rfl
        case c3 => unfold maxLen; omega
        case c4 => omega
        case c5 => simp; omega
        intro v' w3 hown3 hgrow _
        have h3 : RdAt 54 b st2 w3 := by
          refine RdAt.old (w := w2.alloc (.cells #[.string (bs a)] 9)) ?_ hgrow (fun e => own_reader hown2 (by omega) e.symm)
          exact RdAt.fresh h2 ((Below.refl _ _).alloc (Nat.le_refl _) _)
        have g3 : w.grownBy w3 (some b) := gb_own (gb_alloc gr2 _) hgrow (fun i hi => (hown2.lt i hi).1)
        have hown4 : w3.ownsRow w.heap.size 9 1 v' (xs ++ [a]).length ((xs ++ [a]).map (fun z : List UInt8 => Value.string (bs z))) := by simpa using hown3
        clear hown hown2 hown3 hgrow h2 gr2
        go_wp2
        go_roundw
        case rel => exact ⟨xs ++ [a], st2, by simp, by simp; omega, hown4, HP2, h3, g3⟩
        case measure => simp [intOf]; omega
    · cases st' with
      | none =>
        have hr1 := (HR.out xs none HP.out).1 rfl
        subst hr1
        go_wp2_with (go_at_call 53; refine (skip_nil b 93 none rfl _ hrd).mono ?_; rintro x w2 ⟨rfl, h2, g2⟩)
        go_ret
        exact ⟨_, rfl, listFrom_nil _ _ _, h2, gb_trans gr g2⟩
      | some u =>
        have hxn : xs.length = n := by have := HP.out.1; omega
        have hr1 := (HR.out xs (some u) HP.out).2 u rfl hxn
        obtain ⟨q, st2, hk⟩ : ∃ q st2, rSkip 93 (some u) = (q, st2) := ⟨_, _, rfl⟩
        have HK := skip_any b 93 (some u)
        rw [hk] at HK hr1
        have HK' := Lib.hid HK
        clear HK hxn
        have hst : q = false → st2 = none := rSkip_false hk
        clear hk
        cases q
        all_goals
          simp only [if_true, if_false, Bool.false_eq_true] at hr1
          subst hr1
          go_wp2_with (go_at_call 53; refine (HK'.out _ hrd).mono ?_; rintro x w2 ⟨rfl, h2, g2⟩)
          go_ret
        · exact ⟨_, rfl, listFrom_nil _ _ _, hst (by simp) ▸ h2, gb_trans gr g2⟩
        · exact ⟨_, rfl, listFrom_own (hown.kept g2 (.inr (own_reader hown (by omega)))), h2, gb_trans gr g2⟩

theorem readList_str_none (b : Nat) (st : Option (List UInt8)) (hs : (st.getD []).length ≤ 1099511627776) (hr : rNum 91 st = (0, none)) (w : World) (he : Env w) (h : RdAt 54 b st w) :
    Calls Tryd.prog 58 #[.pointer (some ⟨b, 0, none⟩), .func (.func 28) #[.pointer (some ⟨b, 0, none⟩)] #[]] w (LeftList (fun z : List UInt8 => Value.string (bs z)) 54 b [] none w) := by
  have HN := number_any b 91 st (by omega)
  rw [hr] at HN
  have HN' := Lib.hid HN
  clear hr HN
  go_enter Tryd.func58, Tryd.ntmps58
  go_wp2_with (go_at_call 48; refine (HN'.out _ he h).mono ?_; rintro x w1 ⟨rfl, h1, g1⟩; refine Hid.out ?_)
  refine Lib.hid ?_
  clear h he
  go_wp2
  go_loopw [6, 7] (fun v i wr => i = .int .i64 0 ∧ v = .slice none 0 0 ∧ RdAt 54 b none wr ∧ w.grownBy wr (some b)) (fun _ _ _ => 0)
  case atStart => exact ⟨rfl, rfl, h1, g1⟩
  case round =>
    obtain ⟨rfl, rfl, hrd, gr⟩ := hrel
    clear h1 g1 w1
    go_wp2_with (go_at_call 53; refine (skip_nil b 93 none rfl _ hrd).mono ?_; rintro x w2 ⟨rfl, h2, g2⟩)
    go_ret
    exact ⟨_, rfl, listFrom_nil _ _ _, h2, gb_trans gr g2⟩

theorem readList_str_any (b : Nat) (st : Option (List UInt8)) (hs : (st.getD []).length ≤ 1099511627776) (w : World) (he : Env w) (hb : G0 ≤ b) (h : RdAt 54 b st w) :
    Calls Tryd.prog 58 #[.pointer (some ⟨b, 0, none⟩), .func (.func 28) #[.pointer (some ⟨b, 0, none⟩)] #[]] w (LeftList (fun z : List UInt8 => Value.string (bs z)) 54 b (rList Sp.pText st).1 (rList Sp.pText st).2 w) := by
  cases st with
  | none => exact readList_str_none b none hs rfl w he h
  | some s =>
    rcases hp : Sp.pNum 91 s with _ | ⟨n, t⟩
    · have hr : rList Sp.pText (some s) = ([], none) := by simp [rList, Sp.pList, hp]
      rw [hr]
      exact readList_str_none b (some s) hs (by simp [rNum, hp]) w he h
    · obtain ⟨h1, _, h2⟩ := Sp.pNum_some hp
      obtain ⟨k, rfl⟩ := Int.eq_ofNat_of_zero_le h2
      have ht : t.length ≤ 1099511627776 := by
        have : t.length ≤ s.length := by rw [h1]; simp; omega
        simp at hs; omega
      refine readList_str b k (some s) t hs ht (by simp [rNum, hp]) w he hb h _ (fun xs st' hP => ⟨fun e => ?_, fun u e hx => ?_⟩)
      · subst e
        have hm : Sp.pMany Sp.pText k t = none := hP
        simp [rList, Sp.pList, hp, hm]
      · subst e
        have hm := hP.2.2
        rw [hx, Nat.sub_self] at hm
        simp only [Sp.pMany, Option.map_some, List.append_nil] at hm
        rcases hk : Sp.skip 93 u with _ | v
        · simp [rList, Sp.pList, hp, hm, rSkip, hk]
        · simp [rList, Sp.pList, hp, hm, rSkip, hk]

theorem rTexts_any (b : Nat) (st : Option (List UInt8)) (hs : (st.getD []).length ≤ 1099511627776) (w : World) (he : Env w) (hb : G0 ≤ b) (h : RdAt 54 b st w) :
    Calls Tryd.prog 34 #[.pointer (some ⟨b, 0, none⟩)] w (LeftList (fun z : List UInt8 => Value.string (bs z)) 54 b (rList Sp.pText st).1 (rList Sp.pText st).2 w) := by
  go_enter Tryd.func34, Tryd.ntmps34
  go_wp2_with (go_at_call 58; refine (readList_str_any b st hs _ he hb h).mono ?_; rintro x w1 ⟨v, rfl, hl, h1, g1⟩)
  go_ret
  exact ⟨v, rfl, hl, h1, g1⟩
end Go.Proofs.YtplejiaddemjhaaDoor
