/- Sorted, first part: the closures, IndexFunc, DeleteFunc, cmp.Or. -/
import Derived.Test.YtihnnffhpgbgjaaPsame
namespace Go.Proofs.Ytihnnffhpgbgjaa
open Go.RowKit Go.Maps Go.ChangeMaps Go.MapKept
open Gp
attribute [local go_sem ↓] Go.wp_at_zero Go.wp_at_succ

/-- Numbers in a block's first cells. -/
def HoldsI (w : World) (g : Nat) (d : List Int) : Prop := ∀ (j : Nat) (z : Int), d[j]? = some z → w.cell? ⟨g, j, none⟩ = some (.int .i64 z) ∧ w.frozen? ⟨g, j, none⟩ = false
theorem HoldsI.block {w w' : World} {g : Nat} {d : List Int} (h : HoldsI w g d) (hb : w'.heap[g]? = w.heap[g]?) : HoldsI w' g d := fun j z hj => ⟨(World.cell?_of_block hb).trans (h j z hj).1, (World.frozen?_of_block hb).trans (h j z hj).2⟩
theorem HoldsI.of_own {w : World} {g n c : Nat} {d : List Int} (h : w.ownsRow 0 3 1 (.slice (some ⟨g, 0, none⟩) n c) n (intVs d)) : HoldsI w g d :=
  fun j z hj => ⟨own_at h (by simp [intVs, hj]), own_fz h j⟩
theorem HoldsI.set {w : World} {g : Nat} {d : List Int} (h : HoldsI w g d) (i : Nat) (x : Int) (hi : i < d.length) : HoldsI (w.setCell ⟨g, i, none⟩ (.int .i64 x)) g (d.set i x) := fun j z hj => by
  rw [World.frozen?_setCell]
  rw [List.getElem?_set] at hj
  by_cases e : i = j
  · subst e
    rw [if_pos rfl, if_pos hi] at hj
    cases hj
    have h0 := h i _ (List.getElem?_eq_getElem hi)
    exact ⟨World.cell?_setCell_same' _ _ _ (by rw [h0.1]; rfl), h0.2⟩
  · rw [if_neg e] at hj
    have h0 := h j z hj
    refine ⟨?_, h0.2⟩
    exact (World.cell?_setCell_other _ _ _ _ (by intro q; cases q; exact e rfl)).trans h0.1
/-- The graph, and the closures' variable that points to it. -/
structure GBox (w : World) (b mb : Nat) (G : List Nd) (pv : Int → Value) (S : Nat → Prop) (q : Nat) : Prop where
  gr : GIn w b mb G pv S
  box : w.cell? ⟨q, 0, none⟩ = some (.pointer (some ⟨b, 0, none⟩))
section
variable {w : World} {b mb q g : Nat} {G : List Nd} {pv : Int → Value} {S : Nat → Prop}
theorem GBox.lt (h : GBox w b mb G pv S q) : q < w.heap.size := Lib.lt_of_cell h.box
theorem GBox.keep {w' : World} (h : GBox w b mb G pv S q) (hb : Below w.heap.size w w') : GBox w' b mb G pv S q := ⟨h.gr.keep hb, below_cell h.box hb⟩
/-- .. and a row beside them is written. -/
theorem GBox.grown {w' : World} (h : GBox w b mb G pv S q) (hg : w.grownBy w' (some g)) (h1 : b < g ∧ mb < g ∧ q < g) (h2 : ∀ x, S x → x < g) : GBox w' b mb G pv S q :=
  ⟨h.gr.kept fun x hx => hg.block x (h.gr.lt x hx) (fun e => by
    have e := Option.some.inj e
    rcases hx with (rfl | rfl) | hx
    · omega
    · omega
    · have := h2 x hx; omega), hg.cell h.box (fun e => by have e : q = g := Option.some.inj e; omega)⟩
set_option maxHeartbeats 1000000 in
theorem cl1_any (h : GBox w b mb G pv S q) (x : Int) : Calls Try.prog 49 #[.int .i64 x, .pointer (some ⟨q, 0, none⟩)] w fun e w' => e = .returned (.bool (!(ids G).contains x)) ∧ Grw w w' := by
  have HH := Lib.hid (has_in h.gr x)
  have c0 := h.box
  clear h
  generalize (ids G).contains x = r at HH ⊢
  go_enter Try.func49, Try.ntmps49
  go_wp2_with (go_at_call 11; refine (HH.out).mono ?_; rintro e w2 ⟨rfl, g2⟩; refine Hid.out ?_)
  refine Lib.hid ?_
  go_wp2
  go_ret
  exact ⟨by cases r <;> rfl, g2⟩
theorem grown_step {w wr w3 : World} {row : Option Nat} (hg : w.grownBy wr row) (hb : Below wr.heap.size wr w3) : w.grownBy w3 row :=
  ⟨hb.os.trans hg.os, hb.tape.trans hg.tape, hb.output.trans hg.output, Nat.le_trans hg.size hb.size, fun k hk hr => (hb.block k (Nat.lt_of_lt_of_le hk hg.size)).trans (hg.block k hk hr)⟩
theorem grown_set {w w3 : World} {g i : Nat} {v : Value} (hg : w.grownBy w3 (some g)) : w.grownBy (w3.setCell ⟨g, i, none⟩ v) (some g) :=
  ⟨hg.os, hg.tape, hg.output, by rw [set_size]; exact hg.size, fun k hk hr => (set_other (fun e => hr (by rw [e]))).trans (hg.block k hk hr)⟩
theorem grown_sets {w : World} {g : Nat} : ∀ (vs : List Value) (o : Nat) (w3 : World), w.grownBy w3 (some g) → w.grownBy (w3.setCells g o vs) (some g)
  | [], _, _, h => h
  | _ :: r, o, _, h => grown_sets r (o + 1) _ (grown_set h)
/-- The first number that is not 0, or 0. -/
def orv (l : List Int) : Int := (l.find? (fun z => z != 0)).getD 0
set_option maxHeartbeats 1000000 in
theorem or_any {v : Value} {l : List Int} (hv : NumsAt w v l) (hl : l.length ≤ 1000) : Calls Try.prog 52 #[v] w fun e w' => e = .returned (.int .i64 (orv l)) ∧ w' = w := by
  have HV := Lib.hid hv
  obtain ⟨a, cap, rfl, -⟩ := hv
  go_enter Try.func52, Try.ntmps52
  go_wp2
  go_loopw [8] (fun i wr => ∃ k : Nat, k ≤ l.length ∧ i = .int .i64 k ∧ Hid (orv l = orv (l.drop k)) ∧ w = wr) (fun i _ => l.length - (RowKit.intOf i).toNat)
  case atStart => exact ⟨0, Nat.zero_le _, rfl, Lib.hid rfl, rfl⟩
  case round =>
    obtain ⟨k, hk, rfl, HT, rfl⟩ := hrel
    by_cases hlt : k < l.length
    · obtain ⟨p, hpk⟩ : ∃ p, l[k]? = some p := ⟨_, List.getElem?_eq_getElem hlt⟩
      obtain ⟨b1, off1, cap1, e1, _, hc⟩ := HV.out.form (by omega)
      cases e1
      have c1 := hc k p hpk
      have hdr : l.drop k = p :: l.drop (k + 1) := by
        rw [List.drop_eq_getElem_cons hlt]
        congr 1
        exact Option.some.inj ((List.getElem?_eq_getElem hlt).symm.trans hpk)
      by_cases hz : p = 0
      · have HN := Lib.hid (show orv l = orv (l.drop (k + 1)) by rw [HT.out, hdr]; simp [orv, hz])
        subst hz
        clear hc hpk hdr
        go_wp2
        go_roundw
        case rel => exact ⟨k + 1, by omega, by go_num, HN, by trivial⟩
        case measure => simp [RowKit.intOf]; omega
      · have HN := Lib.hid (show orv l = p by rw [HT.out, hdr]; simp [orv, hz])
        clear hc hpk hdr
        go_wp2
        go_ret
        exact ⟨ret_int HN.out.symm, rfl⟩
    · obtain rfl : k = l.length := by omega
      have HN := Lib.hid (show orv l = 0 by rw [HT.out, List.drop_length]; rfl)
      go_wp2
      go_ret
      exact ⟨ret_int HN.out.symm, rfl⟩
set_option maxHeartbeats 2000000 in
set_option maxRecDepth 100000 in
theorem idx_in (h : GBox w b mb G pv S q) {xs : List Int} (hd : HoldsI w g xs) (cap : Nat) (hl : xs.length ≤ 1000) :
    Calls Try.prog 61 #[.slice (some ⟨g, 0, none⟩) xs.length cap, .func (.func 49) #[] #[.pointer (some ⟨q, 0, none⟩)]] w fun e w' =>
      ∃ k : Int, e = .returned (.int .i64 k) ∧ ((k = -1 ∧ ∀ x ∈ xs, x ∈ ids G) ∨ ∃ i : Nat, k = (i : Int) ∧ i < xs.length ∧ (∀ x ∈ xs.take i, x ∈ ids G) ∧ ∀ x, xs[i]? = some x → x ∉ ids G) ∧ Below w.heap.size w w' := by
  have HB := Lib.hid h
  have HD := Lib.hid hd
  clear h hd
  go_enter Try.func61, Try.ntmps61
  go_wp2
  go_loopw [8] (fun i wr => ∃ k : Nat, k ≤ xs.length ∧ i = .int .i64 k ∧ Hid (∀ x ∈ xs.take k, x ∈ ids G) ∧ Hid (Below w.heap.size w wr)) (fun i _ => xs.length - (RowKit.intOf i).toNat)
  case atStart => exact ⟨0, Nat.zero_le _, rfl, Lib.hid (by simp), Lib.hid (Below.refl _ _)⟩
  case round =>
    obtain ⟨k, hk, rfl, HT, HW⟩ := hrel
    by_cases hlt : k < xs.length
    · obtain ⟨x, hxk⟩ : ∃ p, xs[k]? = some p := ⟨_, List.getElem?_eq_getElem hlt⟩
      have c1 := below_cell (HD.out k x hxk).1 HW.out
      have HC := Lib.hid (cl1_any (HB.out.keep HW.out) x)
      by_cases hi : x ∈ ids G
      · rw [show (!(ids G).contains x) = false by simpa using hi] at HC
        have HN := Lib.hid (show ∀ y ∈ xs.take (k + 1), y ∈ ids G from fun y hy => by
          rw [List.take_add_one, hxk] at hy
          rcases List.mem_append.1 hy with r | r
          · exact HT.out y r
          · simp at r; subst r; exact hi)
        clear hxk hi
        go_wp2_with (go_at_call 49; refine (HC.out).mono ?_; rintro e w2 ⟨rfl, g2⟩; refine Hid.out ?_)
        refine Lib.hid ?_
        have HW2 := Lib.hid (HW.out.trans (g2.1.mono HW.out.size))
        clear g2
        go_wp2
        go_roundw
        case rel => exact ⟨k + 1, by omega, by go_num, HN, HW2⟩
        case measure => simp [RowKit.intOf]; omega
      · rw [show (!(ids G).contains x) = true by simpa using hi] at HC
        have HNX := Lib.hid (show ∀ y, xs[k]? = some y → y ∉ ids G from fun y hy => by rw [hxk] at hy; cases hy; exact hi)
        clear hxk hi
        go_wp2_with (go_at_call 49; refine (HC.out).mono ?_; rintro e w2 ⟨rfl, g2⟩; refine Hid.out ?_)
        refine Lib.hid ?_
        have HW2 := Lib.hid (HW.out.trans (g2.1.mono HW.out.size))
        clear g2
        go_wp2
        go_ret
        exact ⟨k, rfl, .inr ⟨k, rfl, hlt, HT.out, HNX.out⟩, HW2.out⟩
    · obtain rfl : k = xs.length := by omega
      have ht := HT.out
      rw [List.take_length] at ht
      have HT2 := Lib.hid ht
      clear ht
      go_wp2
      go_ret
      exact ⟨-1, rfl, .inl ⟨rfl, HT2.out⟩, HW.out⟩
set_option maxHeartbeats 4000000 in
set_option maxRecDepth 100000 in
theorem del_in (h : GBox w b mb G pv S q) {xs : List Int} (hd : HoldsI w g xs) (hgs : g < w.heap.size) (h1 : b < g ∧ mb < g ∧ q < g) (h2 : ∀ x, S x → x < g) {cap : Nat} (hcap : xs.length ≤ cap) (hl : xs.length ≤ 1000) :
    Calls Try.prog 48 #[.slice (some ⟨g, 0, none⟩) xs.length cap, .func (.func 49) #[] #[.pointer (some ⟨q, 0, none⟩)]] w fun e w' =>
      e = .returned (.slice (some ⟨g, 0, none⟩) (xs.filter (fun x => (ids G).contains x)).length cap) ∧ HoldsI w' g (xs.filter (fun x => (ids G).contains x)) ∧ w.grownBy w' (some g) := by
  have HB := Lib.hid h
  have HD := Lib.hid hd
  have HI := Lib.hid (idx_in h hd cap hl)
  have H2 := Lib.hid h2
  clear h hd h2
  generalize hks : xs.filter (fun x => (ids G).contains x) = ks
  have HKS := Lib.hid hks
  clear hks
  go_enter Try.func48, Try.ntmps48
  go_wp2_with (go_at_call 61; refine (HI.out).mono ?_; rintro e w2 ⟨k, rfl, hk, b2⟩; refine Hid.out ?_)
  refine Lib.hid ?_
  have B2 := Lib.hid b2
  have HD2 := Lib.hid (HD.out.block (b2.block _ hgs))
  clear b2 HI
  rcases hk with ⟨rfl, hall⟩ | ⟨i, rfl, hi, hbefore, hat⟩
  · have HE := Lib.hid (show ks = xs by rw [← HKS.out]; exact List.filter_eq_self.2 fun x hx => by simpa using hall x hx)
    clear hall
    go_wp2
    go_ret
    rw [HE.out]
    exact ⟨rfl, HD2.out, below_grown2 B2.out⟩
  · have hne1 : (((i : Nat) : Int) == -1) = false := beq_eq_false_iff_ne.2 (by omega)
    obtain ⟨x0, hx0⟩ : ∃ p, xs[i]? = some p := ⟨_, List.getElem?_eq_getElem hi⟩
    have HS := Lib.hid (show xs.take i = (xs.take (i + 1)).filter (fun x => (ids G).contains x) by
      rw [List.take_add_one, hx0, List.filter_append, List.filter_eq_self.2 (fun x hx => by simpa using hbefore x hx)]
      have := hat x0 hx0
      simp [this])
    clear hbefore hat hx0
    go_wp2
    go_loopw [5, 6, 7] (fun s5 s6 _ wr => ∃ (i j : Nat) (d : List Int), s5 = .int .i64 i ∧ s6 = .int .i64 j ∧ j ≤ xs.length ∧ i < j ∧ Hid (d.length = xs.length ∧ d.take i = (xs.take j).filter (fun x => (ids G).contains x) ∧ d.drop j = xs.drop j) ∧ Hid (HoldsI wr g d) ∧ Hid (w.grownBy wr (some g))) (fun _ s6 _ _ => xs.length - (RowKit.intOf s6).toNat)
    case atStart => exact ⟨i, i + 1, xs, rfl, by go_num, by omega, by omega, Lib.hid ⟨rfl, HS.out, rfl⟩, HD2, Lib.hid (below_grown2 B2.out)⟩
    case round =>
      obtain ⟨i, j, d, rfl, rfl, hj, hij, HP, HH, HW⟩ := hrel
      have hgr := HW.out.size
      by_cases hlt : j < xs.length
      · obtain ⟨x, hxj⟩ : ∃ p, xs[j]? = some p := ⟨_, List.getElem?_eq_getElem hlt⟩
        have hdj : d[j]? = some x := by
          have e1 : (d.drop j)[0]? = (xs.drop j)[0]? := by rw [HP.out.2.2]
          rw [List.getElem?_drop, List.getElem?_drop] at e1
          exact e1.trans hxj
        have c1 := (HH.out j x hdj).1
        have HC := Lib.hid (cl1_any (HB.out.grown HW.out h1 H2.out) x)
        have hil : i < d.length := by rw [HP.out.1]; omega
        obtain ⟨y, hy⟩ : ∃ p, d[i]? = some p := ⟨_, List.getElem?_eq_getElem hil⟩
        by_cases hx : x ∈ ids G
        · rw [show (!(ids G).contains x) = false by simpa using hx] at HC
          have HN := Lib.hid (show (d.set i x).length = xs.length ∧ (d.set i x).take (i + 1) = (xs.take (j + 1)).filter (fun x => (ids G).contains x) ∧ (d.set i x).drop (j + 1) = xs.drop (j + 1) by
            refine ⟨by rw [List.length_set]; exact HP.out.1, ?_, ?_⟩
            · rw [List.take_add_one (l := xs), hxj, List.filter_append, ← HP.out.2.1, List.take_add_one, List.take_set, List.getElem?_set, if_pos rfl, if_pos hil, List.set_eq_of_length_le (by rw [List.length_take]; omega)]
              simp [hx]
            · rw [List.drop_set, if_pos (by omega)]
              have e2 : (d.drop j).drop 1 = (xs.drop j).drop 1 := by rw [HP.out.2.2]
              rwa [List.drop_drop, List.drop_drop] at e2)
          have HY := Lib.hid hy
          clear hxj hx hdj hy
          go_wp2_with (go_at_call 49; refine (HC.out).mono ?_; rintro e w3 ⟨rfl, g3⟩; refine Hid.out ?_)
          refine Lib.hid ?_
          have HH3 := Lib.hid (HH.out.block (g3.1.block _ (Nat.lt_of_lt_of_le hgs hgr)))
          have HW3 := Lib.hid (grown_step HW.out g3.1)
          have ci := (HH3.out i y HY.out).1
          have fi := (HH3.out i y HY.out).2
          have HH4 := Lib.hid (HH3.out.set i x hil)
          clear g3
          go_wp2
          go_roundw
          case rel => exact ⟨i + 1, j + 1, _, by go_num, by go_num, by omega, by omega, HN, HH4, Lib.hid (grown_set HW3.out)⟩
          case measure => simp [RowKit.intOf]; omega
        · rw [show (!(ids G).contains x) = true by simpa using hx] at HC
          have HN := Lib.hid (show d.length = xs.length ∧ d.take i = (xs.take (j + 1)).filter (fun x => (ids G).contains x) ∧ d.drop (j + 1) = xs.drop (j + 1) by
            refine ⟨HP.out.1, ?_, ?_⟩
            · rw [List.take_add_one (l := xs), hxj, List.filter_append, ← HP.out.2.1]
              simp [hx]
            · have e2 : (d.drop j).drop 1 = (xs.drop j).drop 1 := by rw [HP.out.2.2]
              rwa [List.drop_drop, List.drop_drop] at e2)
          clear hxj hx hdj hy
          go_wp2_with (go_at_call 49; refine (HC.out).mono ?_; rintro e w3 ⟨rfl, g3⟩; refine Hid.out ?_)
          refine Lib.hid ?_
          have HH3 := Lib.hid (HH.out.block (g3.1.block _ (Nat.lt_of_lt_of_le hgs hgr)))
          have HW3 := Lib.hid (grown_step HW.out g3.1)
          clear g3
          go_wp2
          go_roundw
          case rel => exact ⟨i, j + 1, d, rfl, by go_num, by omega, by omega, HN, HH3, HW3⟩
          case measure => simp [RowKit.intOf]; omega
      · obtain rfl : j = xs.length := by omega
        have hdk := HP.out.2.1
        rw [List.take_length, HKS.out] at hdk
        have hil : i < d.length := by rw [HP.out.1]; omega
        have hkl : ks.length = i := by rw [← hdk, List.length_take]; omega
        have hcl : ∀ ty, (Builtin.clear_ #[23] ty #[.slice (some ⟨g, i, none⟩) (xs.length - i) (cap - i)]).run Try.prog wr = .ok (.tuple #[]) (wr.setCells g i (List.replicate (xs.length - i) (.int .i64 0))) :=
          fun ty => Lib.run_clear_slice wr _ _ ty _ Try.underlying23 Try.zeroValue3 rfl rfl g i _ _ (by omega)
            (fun t ht => by rw [(HH.out (i + t) _ (List.getElem?_eq_getElem (by rw [HP.out.1]; omega))).1]; rfl) (fun t ht => (HH.out (i + t) _ (List.getElem?_eq_getElem (by rw [HP.out.1]; omega))).2)
        have HF := Lib.hid (show HoldsI (wr.setCells g i (List.replicate (xs.length - i) (.int .i64 0))) g ks from fun t z hz => by
          have htl : t < ks.length := (List.getElem?_eq_some_iff.1 hz).1
          rw [World.cell?_setCells_out g _ _ _ _ (fun _ _ => .inl (by show t < i; omega)), World.frozen?_setCells]
          refine HH.out t z ?_
          rw [← hdk, List.getElem?_take] at hz
          split at hz
          · exact hz
          · cases hz)
        have HG2 := Lib.hid (grown_sets (List.replicate (xs.length - i) (.int .i64 0)) i wr HW.out)
        have HKL := Lib.hid hkl
        have hic : i ≤ cap := by omega
        clear hdk hkl
        go_wp2
        go_ret
        rw [HKL.out]
        exact ⟨rfl, HF.out, HG2.out⟩
end
end Go.Proofs.Ytihnnffhpgbgjaa
