/- Package sat: isLiteral, opposite, Right, Check, slices.Contains, slices.Clone, has. -/
import Derived.Test.YtapgcahbccchfaaSApi
import Derived.Test.YtapgcahbccchfaaZpl
import Derived.Test.YtapgcahbccchfaaShelf
namespace Go.Proofs.Ytapgcahbccchfaa
open Go.RowKit Go.Maps Go.ChangeMaps Go.MapKept
open St
attribute [local go_sem ↓] Go.wp_at_zero Go.wp_at_succ

theorem p_lit {x n : Int} (hn : 0 ≤ n ∧ n ≤ 400) (w : World) : Calls Try.prog 23 #[.int .i64 x, .int .i64 n] w fun e w' => e = .returned (.bool (decide (0 ≤ x ∧ x < 2 * n))) ∧ w' = w := by
  by_cases h0 : 0 ≤ x
  · by_cases h1 : x < 2 * n
    · have HR := Lib.hid (decide_eq_true (show 0 ≤ x ∧ x < 2 * n from ⟨h0, h1⟩))
      go_enter Try.func23, Try.ntmps23
      go_wp2
      go_ret
      exact ⟨ret_bool HR.out.symm, rfl⟩
    · go_enter Try.func23, Try.ntmps23
      go_wp2
      go_ret
      exact ⟨ret_bool (by simp; omega), rfl⟩
  · go_enter Try.func23, Try.ntmps23
    go_wp2
    go_ret
    exact ⟨ret_bool (by simp; omega), rfl⟩
theorem p_lit_yes {x n : Int} (hn : 0 ≤ n ∧ n ≤ 400) (h : 0 ≤ x ∧ x < 2 * n) (w : World) : Calls Try.prog 23 #[.int .i64 x, .int .i64 n] w fun e w' => e = .returned (.bool true) ∧ w' = w := by
  have := p_lit (x := x) hn w
  rwa [decide_eq_true h] at this
theorem p_lit_no {x n : Int} (hn : 0 ≤ n ∧ n ≤ 400) (h : ¬ (0 ≤ x ∧ x < 2 * n)) (w : World) : Calls Try.prog 23 #[.int .i64 x, .int .i64 n] w fun e w' => e = .returned (.bool false) ∧ w' = w := by
  have := p_lit (x := x) hn w
  rwa [decide_eq_false h] at this
theorem bits_opp : ∀ m : Nat, m < 800 → bits BinOp.xor IntKind.i64 (m : Int) 1 = opp (m : Int) := by
  have h : (List.range 800).all (fun m => decide (bits BinOp.xor IntKind.i64 (m : Int) 1 = opp (m : Int))) = true := by decide +kernel
  intro m hm
  exact of_decide_eq_true (List.all_eq_true.1 h m (List.mem_range.2 hm))
theorem p_opp {x : Int} (h : 0 ≤ x ∧ x < 800) (w : World) : Calls Try.prog 28 #[.int .i64 x] w fun e w' => e = .returned (.int .i64 (opp x)) ∧ w' = w := by
  obtain ⟨m, rfl⟩ : ∃ m : Nat, x = (m : Int) := ⟨x.toNat, by omega⟩
  have HB := Lib.hid (bits_opp m (by omega))
  go_enter Try.func28, Try.ntmps28
  go_wp2
  go_ret
  exact ⟨ret_int HB.out, rfl⟩
section
variable {w : World}
set_option maxHeartbeats 1000000 in
set_option maxRecDepth 100000 in
theorem p_right {v : Value} {l : List Cl} {n : Int} (hv : ClAt w v l) (hl : l.length ≤ 100000) :
    Calls Try.prog 9 #[v, .int .i64 n] w (Reads w (.bool (right l n))) := by
  have HV := Lib.hid hv
  have HB := Lib.hid (Below.refl w.heap.size w)
  obtain ⟨a, cap, rfl, -⟩ := hv
  unfold Reads
  go_enter Try.func9, Try.ntmps9
  by_cases hn0 : n < 0
  · have HR := Lib.hid (right_not (l := l) (n := n) (by omega))
    go_wp2
    go_ret
    exact ⟨ret_bool HR.out.symm, HB.out⟩
  · have hn1 : 0 ≤ n := by omega
    by_cases hn4 : 400 < n
    · have HR := Lib.hid (right_not (l := l) (n := n) (by omega))
      go_wp2
      go_ret
      exact ⟨ret_bool HR.out.symm, HB.out⟩
    · by_cases hl4 : 4000 < l.length
      · have HR := Lib.hid (right_not (l := l) (n := n) (by omega))
        have hl5 : (4000 : Int) < (l.length : Int) := by omega
        go_wp2
        go_ret
        exact ⟨ret_bool HR.out.symm, HB.out⟩
      · have hl5 : ¬ (4000 : Int) < (l.length : Int) := by omega
        have hnn : 0 ≤ n ∧ n ≤ 400 := by omega
        go_wp2
        go_loopw [20] (fun i wr => ∃ k : Nat, k ≤ l.length ∧ i = .int .i64 k ∧ Hid (∀ c ∈ l.take k, Inn n c) ∧ Hid (Below w.heap.size w wr)) (fun i _ => l.length - (RowKit.intOf i).toNat)
        case atStart => exact ⟨0, Nat.zero_le _, rfl, Lib.hid (by simp), HB⟩
        case round =>
          obtain ⟨k, hk, rfl, HT, HB⟩ := hrel
          by_cases hlt : k < l.length
          · obtain ⟨⟨x, y⟩, hc⟩ : ∃ c, l[k]? = some c := ⟨_, List.getElem?_eq_getElem hlt⟩
            have HC := Lib.hid hc
            obtain ⟨b, off, cap', h1, _, hcs⟩ := (HV.out.keep HB.out).form (by omega)
            cases h1
            obtain ⟨c0, c1⟩ := hcs k _ hc
            have c0 : wr.cell? ⟨b, off + k * 2, none⟩ = some (.int .i64 x) := c0
            have c1 : wr.cell? ⟨b, off + k * 2 + 1, none⟩ = some (.int .i64 y) := c1
            have HB := Lib.hid (HB.out.trans (((Below.refl _ _).alloc (Nat.le_refl _) (.cells #[.int .i64 x, .int .i64 y] 40)).mono HB.out.size))
            clear hcs hc
            by_cases hx : 0 ≤ x ∧ x < 2 * n
            · have HX := Lib.hid (p_lit_yes hnn hx)
              by_cases hy : 0 ≤ y ∧ y < 2 * n
              · have HY := Lib.hid (p_lit_yes hnn hy)
                have HT2 := Lib.hid (take_all HT.out HC.out (show Inn n (x, y) from ⟨hx, hy⟩))
                go_wp2_with (go_at_call 23; refine (HX.out _).mono ?_; rintro e w2 ⟨rfl, rfl⟩; refine Hid.out ?_)
                refine Lib.hid ?_
                go_wp2_with (go_at_call 23; refine (HY.out _).mono ?_; rintro e w2 ⟨rfl, rfl⟩; refine Hid.out ?_)
                refine Lib.hid ?_
                go_wp2
                go_roundw
                case rel => exact ⟨k + 1, by omega, by go_num, HT2, HB⟩
                case measure => (simp [RowKit.intOf]; try omega)
              · have HY := Lib.hid (p_lit_no hnn hy)
                have HR := Lib.hid (right_out HC.out (fun q => hy q.2) : right l n = false)
                go_wp2_with (go_at_call 23; refine (HX.out _).mono ?_; rintro e w2 ⟨rfl, rfl⟩; refine Hid.out ?_)
                refine Lib.hid ?_
                go_wp2_with (go_at_call 23; refine (HY.out _).mono ?_; rintro e w2 ⟨rfl, rfl⟩; refine Hid.out ?_)
                refine Lib.hid ?_
                go_wp2
                go_ret
                exact ⟨ret_bool HR.out.symm, HB.out⟩
            · have HX := Lib.hid (p_lit_no hnn hx)
              have HR := Lib.hid (right_out HC.out (fun q => hx q.1) : right l n = false)
              go_wp2_with (go_at_call 23; refine (HX.out _).mono ?_; rintro e w2 ⟨rfl, rfl⟩; refine Hid.out ?_)
              refine Lib.hid ?_
              go_wp2
              go_ret
              exact ⟨ret_bool HR.out.symm, HB.out⟩
          · obtain rfl : k = l.length := by omega
            have HR := Lib.hid (right_yes (l := l) (n := n) ⟨hn1, by omega⟩ (by omega) HT.out)
            clear HT
            go_wp2
            go_ret
            exact ⟨ret_bool HR.out.symm, HB.out⟩
/-- The closure of Check. -/
theorem p_true {u : Value} {vs : List Bool} {q : Nat} {x : Int} (hu : BoolsAt w u vs) (hq : w.cell? ⟨q, 0, none⟩ = some u) (hx : 0 ≤ x ∧ x < 2 * (vs.length : Int)) (hl : vs.length ≤ 1000) :
    Calls Try.prog 24 #[.int .i64 x, .pointer (some ⟨q, 0, none⟩)] w fun e w' => e = .returned (.bool (tru vs x)) ∧ w' = w := by
  obtain ⟨p, hp⟩ : ∃ p : Nat, x / 2 = (p : Int) := ⟨(x / 2).toNat, by omega⟩
  have hql : p < vs.length := by omega
  obtain ⟨b, off, cap, rfl, _, hc⟩ := hu.form (by omega)
  obtain ⟨z, hz⟩ : ∃ z, vs[p]? = some z := ⟨_, List.getElem?_eq_getElem hql⟩
  have c0 := hc p z hz
  have HR := Lib.hid (show tru vs x = (z == (x % 2 == 0)) by unfold tru; rw [hp, Int.toNat_natCast]; simp [List.getD, hz]; rfl)
  have hq2 : x.tdiv 2 = (p : Int) := by rw [Int.tdiv_eq_ediv_of_nonneg hx.1]; exact hp
  have hm : x.tmod 2 = x % 2 := Int.tmod_eq_emod_of_nonneg hx.1
  clear hc hz hu
  go_enter Try.func24, Try.ntmps24
  go_wp2
  go_ret
  exact ⟨ret_bool HR.out.symm, rfl⟩
set_option maxHeartbeats 1000000 in
set_option maxRecDepth 100000 in
theorem p_check {v u : Value} {l : List Cl} {n : Int} {vs : List Bool} (hv : ClAt w v l) (hl : l.length ≤ 100000) (hu : BoolsAt w u vs) (hvs : vs.length ≤ 1000) :
    Calls Try.prog 11 #[v, .int .i64 n, u] w (Reads w (.bool (check l n vs))) := by
  have hb1 := (Below.refl w.heap.size w).alloc (Nat.le_refl _) (.cells #[u] 23)
  have HV := Lib.hid hv
  have HU := Lib.hid hu
  have HQ := Lib.hid (p_right (n := n) (hv.keep hb1) hl)
  have s0 : (w.alloc (.cells #[u] 23)).cell? ⟨w.heap.size, 0, none⟩ = some u := by rw [Lib.cell_of_heap (MapKept.heap_alloc _ _).1]; rfl
  have S0 := Lib.hid s0
  have HB1 := Lib.hid hb1
  have hs1 : (w.alloc (.cells #[u] 23)).heap.size = w.heap.size + 1 := by simp
  obtain ⟨a, cap, rfl, -⟩ := hv
  obtain ⟨ua, uc, hua⟩ := hu.slice
  subst hua
  clear hu hb1 s0
  unfold Reads
  go_enter Try.func11, Try.ntmps11
  cases hr : right l n with
  | false =>
    have HR := Lib.hid (check_wrong (vs := vs) hr)
    rw [hr] at HQ
    clear hr
    go_wp2_with (go_at_call 9; refine (HQ.out).mono ?_; rintro e w2 ⟨rfl, b2⟩; refine Hid.out ?_)
    refine Lib.hid ?_
    have HB := Lib.hid (HB1.out.trans (b2.mono (by omega)))
    go_wp2
    go_ret
    exact ⟨ret_bool HR.out.symm, HB.out⟩
  | true =>
    have HRI := Lib.hid hr
    rw [hr] at HQ
    clear hr
    go_wp2_with (go_at_call 9; refine (HQ.out).mono ?_; rintro e w2 ⟨rfl, b2⟩; refine Hid.out ?_)
    refine Lib.hid ?_
    have HB := Lib.hid (HB1.out.trans (b2.mono (by omega)))
    have c2 := below_cell S0.out b2
    by_cases hlen : (vs.length : Int) = n
    · subst hlen
      have HV2 := Lib.hid (HV.out.keep HB.out)
      have HU2 := Lib.hid (HU.out.keep HB.out)
      go_wp2
      have C2 := Lib.hid c2
      have HB2 := HB
      clear c2 HB b2 HB1 S0 HQ
      have HQ2 := Lib.hid HB2.out.size
      generalize hB : w.heap.size = B at C2 ⊢
      have HBB := Lib.hid hB
      clear hB
      go_loopw [23] (fun i wr => ∃ k : Nat, k ≤ l.length ∧ i = .int .i64 k ∧ Hid (∀ c ∈ l.take k, tru vs c.1 = true ∨ tru vs c.2 = true) ∧ Hid (Below w2.heap.size w2 wr)) (fun i _ => l.length - (RowKit.intOf i).toNat)
      case atStart => exact ⟨0, Nat.zero_le _, rfl, Lib.hid (by simp), Lib.hid (Below.refl _ _)⟩
      case round =>
        obtain ⟨k, hk, rfl, HT, HBr⟩ := hrel
        have HB := Lib.hid (show Below B w wr from HBB.out ▸ HB2.out.trans (HBr.out.mono HB2.out.size))
        by_cases hlt : k < l.length
        · obtain ⟨⟨x, y⟩, hc⟩ : ∃ c, l[k]? = some c := ⟨_, List.getElem?_eq_getElem hlt⟩
          have HC := Lib.hid hc
          have hin := (right_iff.1 HRI.out).2.2 _ (List.mem_of_getElem? hc)
          obtain ⟨b, off, cap', h1, _, hcs⟩ := (HV2.out.keep HBr.out).form (by omega)
          cases h1
          obtain ⟨c0, c1⟩ := hcs k _ hc
          have c0 : wr.cell? ⟨b, off + k * 2, none⟩ = some (.int .i64 x) := c0
          have c1 : wr.cell? ⟨b, off + k * 2 + 1, none⟩ = some (.int .i64 y) := c1
          have hba := (Below.refl wr.heap.size wr).alloc (Nat.le_refl _) (.cells #[.int .i64 x, .int .i64 y] 40)
          have HBr2 := Lib.hid (HBr.out.trans (hba.mono HBr.out.size))
          have HB := Lib.hid (show Below w.heap.size w _ from HB2.out.trans (HBr2.out.mono HB2.out.size))
          have c2 := below_cell C2.out HBr2.out
          have HX := p_true (HU2.out.keep HBr2.out) c2 hin.1 hvs
          have HY := p_true (HU2.out.keep HBr2.out) c2 hin.2 hvs
          clear hcs hc hin hba
          cases hx : tru vs x with
          | true =>
            have HT2 := Lib.hid (take_all HT.out HC.out (show tru vs (x, y).1 = true ∨ tru vs (x, y).2 = true from .inl hx))
            have HX := Lib.hid (hx ▸ HX)
            clear hx HY c2
            go_wp2_with (go_at_call 24; refine (HX.out).mono ?_; rintro e w3 ⟨rfl, rfl⟩; refine Hid.out ?_)
            refine Lib.hid ?_
            go_wp2
            go_roundw
            case rel => exact ⟨k + 1, by omega, by go_num, HT2, HBr2⟩
            case measure => (simp [RowKit.intOf]; try omega)
          | false =>
            cases hy : tru vs y with
            | true =>
              have HT2 := Lib.hid (take_all HT.out HC.out (show tru vs (x, y).1 = true ∨ tru vs (x, y).2 = true from .inr hy))
              rw [show tru vs (x, y).1 = false from hx] at HX
              rw [show tru vs (x, y).2 = true from hy] at HY
              have HX := Lib.hid HX
              have HY := Lib.hid HY
              clear hx hy c2
              go_wp2_with (go_at_call 24; refine (HX.out).mono ?_; rintro e w3 ⟨rfl, rfl⟩; refine Hid.out ?_)
              refine Lib.hid ?_
              go_wp2_with (go_at_call 24; refine (HY.out).mono ?_; rintro e w3 ⟨rfl, rfl⟩; refine Hid.out ?_)
              refine Lib.hid ?_
              go_wp2
              go_roundw
              case rel => exact ⟨k + 1, by omega, by go_num, HT2, HBr2⟩
              case measure => (simp [RowKit.intOf]; try omega)
            | false =>
              have HR := Lib.hid (check_miss (n := (vs.length : Int)) HC.out hx hy)
              rw [show tru vs (x, y).1 = false from hx] at HX
              rw [show tru vs (x, y).2 = false from hy] at HY
              have HX := Lib.hid HX
              have HY := Lib.hid HY
              clear hx hy c2
              go_wp2_with (go_at_call 24; refine (HX.out).mono ?_; rintro e w3 ⟨rfl, rfl⟩; refine Hid.out ?_)
              refine Lib.hid ?_
              go_wp2_with (go_at_call 24; refine (HY.out).mono ?_; rintro e w3 ⟨rfl, rfl⟩; refine Hid.out ?_)
              refine Lib.hid ?_
              go_wp2
              go_ret
              exact ⟨ret_bool HR.out.symm, HB.out⟩
        · obtain rfl : k = l.length := by omega
          have HR := Lib.hid (check_all HRI.out rfl HT.out)
          have HB := Lib.hid (show Below w.heap.size w wr from HB2.out.trans (HBr.out.mono HB2.out.size))
          clear HT
          go_wp2
          go_ret
          exact ⟨ret_bool HR.out.symm, HB.out⟩
    · have HR := Lib.hid (check_len (l := l) hlen)
      go_wp2
      go_ret
      exact ⟨ret_bool HR.out.symm, HB.out⟩
/-- slices.Contains. -/
theorem p_contains {u : Value} {xs : List Int} (hu : NumsAt w u xs) (hl : xs.length ≤ 100000) (x : Int) :
    Calls Try.prog 27 #[u, .int .i64 x] w fun e w' => e = .returned (.bool (xs.contains x)) ∧ w' = w := by
  by_cases h0 : 0 < xs.length
  · obtain ⟨b, off, cap, rfl, _, hc⟩ := hu.form h0
    have H := Any.slices_Contains_int Try.lcontains b off xs.length cap xs x w (Nat.le_refl _) (by omega) (fun j hj => by
      rw [List.getD_eq_getElem?_getD, List.getElem?_eq_getElem hj]
      exact hc j _ (List.getElem?_eq_getElem hj))
    rw [List.take_length] at H
    exact H
  · have hx : xs = [] := List.length_eq_zero_iff.1 (by omega)
    subst hx
    obtain ⟨a, cap, rfl, _, _⟩ := hu
    exact Any.slices_Contains_int_empty Try.lcontains a cap x w
/-- slices.Clone of clauses. -/
theorem p_clone {v : Value} {l : List Cl} (hv : ClAt w v l) (hl : l.length ≤ 1000) :
    Calls Try.prog 31 #[v] w fun e w' => ∃ a c, e = .returned (.slice a l.length c) ∧ w'.ownsRow 0 40 2 (.slice a l.length c) l.length (clVs l) ∧ Below w.heap.size w w' ∧ ∀ x, (Value.slice a l.length c).ownBlock = some x → w.heap.size ≤ x := by
  have HV := Lib.hid hv
  have q22 : ∀ (w : World) (a : Option Addr) (n c n' c' : Nat), (binOp .eql 22 (.slice a n c) (.slice none n' c')).run Try.prog w = .ok (.bool a.isNone) w := fun w a n c n' c' => Lib.run_eql_slice_nil w _ _ a n c n' c' Try.underlying22
  obtain ⟨a, cap, rfl, hcap, -⟩ := hv
  cases a with
  | none =>
    have hc0 := hcap.2 rfl
    subst hc0
    have hl0 : l = [] := List.length_eq_zero_iff.1 (by omega)
    subst hl0
    go_enter Try.func31, Try.ntmps31
    go_wp2
    go_ret
    exact ⟨_, _, rfl, World.ownsRow_nil _ _ _ _, Below.refl _ _, fun x hx => by cases hx⟩
  | some a =>
    obtain ⟨a2, c2, w2, hrun, ho, hb, hn⟩ := copyC_run HV.out hl
    go_enter Try.func31, Try.ntmps31
    have HRN := Lib.hid hrun
    clear hrun
    go_wp2_with (at_builtin; refine Hid.out ?_)
    refine Lib.hid ?_
    refine Lib.wpList_append_run _ rfl _ _ _ _ rfl _ _ rfl rfl _ _ HRN.out ?_
    go_wp2
    go_ret
    exact ⟨_, _, rfl, ho, hb, hn⟩
/-- has, of a trail that is read. -/
theorem p_has {t : Value} {T : List Int} {x p : Int} (ht : NumsAt w t T) (hx : 0 ≤ x) (hl : T.length ≤ 1000) (hp : T[x.toNat]? = some p) :
    Calls Try.prog 35 #[t, .int .i64 x] w fun e w' => e = .returned (.bool (decide (0 ≤ p))) ∧ w' = w := by
  obtain ⟨k, rfl⟩ : ∃ k : Nat, x = (k : Int) := ⟨x.toNat, by omega⟩
  have hk : k < T.length := by have := (List.getElem?_eq_some_iff.1 hp).1; simpa using this
  obtain ⟨b, off, cap, rfl, _, hc⟩ := ht.form (by omega)
  have c0 := hc k p (by simpa using hp)
  clear hc ht hp
  go_enter Try.func35, Try.ntmps35
  go_wp2
  go_ret
  exact ⟨rfl, rfl⟩
end
end Go.Proofs.Ytapgcahbccchfaa
