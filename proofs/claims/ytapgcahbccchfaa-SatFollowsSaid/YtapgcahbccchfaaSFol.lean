/- The walk of SatFollows. -/
import Derived.Test.YtapgcahbccchfaaSSmall
import Derived.Test.YtapgcahbccchfaaOrd3
import Derived.Deep.CutRange
namespace Go.Proofs.Ytapgcahbccchfaa
open Go.RowKit Go.Maps Go.ChangeMaps Go.MapKept
open St
attribute [local go_sem ↓] Go.wp_at_zero Go.wp_at_succ

theorem snocN_run {w0 w : World} {v : Value} {ks : List Int} (hb : Below w0.heap.size w0 w) (ho : w.ownsRow 0 3 1 v ks.length (intVs ks)) (hv : ∀ x, v.ownBlock = some x → w0.heap.size ≤ x) (z : Int) (hn : ks.length ≤ 900) :
    ∃ a c w', (Builtin.append_ #[24, 24] 24 #[v, .slice (some ⟨w.heap.size, 0, none⟩) 1 1]).run Try.prog (w.alloc (.cells #[.int .i64 z] 3)) = .ok (.slice a (ks.length + 1) c) w' ∧ NumsAt w' (.slice a (ks.length + 1) c) (ks ++ [z]) ∧ Below w0.heap.size w0 w' := by
  have hb2 := (Below.refl w.heap.size w).alloc (Nat.le_refl _) (.cells #[.int .i64 z] 3)
  have ho2 := ownsRow_block (w' := w.alloc (.cells #[.int .i64 z] 3)) ho fun x hx => hb2.block x (ho.lt x hx).2
  obtain ⟨a, c, w', h1, h2, h3⟩ := addN_run (hb.trans (hb2.mono hb.size)) ho2 hv (nums_one w z) (by simp; omega)
  exact ⟨a, c, w', h1, h2, h3⟩
/-- One copy and one clause behind it, where the clause's own slice is laid between the two, or before them. -/
theorem app_between {w : World} {v : Value} {l : List Cl} (c : Cl) (hv : ClAt w v l) (hl : l.length ≤ 1000) : ∃ a cp w5 ea ec w6,
    (Builtin.append_ #[22, 22] 22 #[.slice (some ⟨w.heap.size, 0, none⟩) 0 0, v]).run Try.prog ((w.alloc (.cells #[] 40)).alloc (.cells #[.int .i64 c.1, .int .i64 c.2] 40)) = .ok (.slice a l.length cp) w5 ∧
    (Builtin.append_ #[22, 22] 22 #[.slice a l.length cp, .slice (some ⟨w.heap.size + 1, 0, none⟩) 1 1]).run Try.prog w5 = .ok (.slice ea (l.length + 1) ec) w6 ∧ ClAt w6 (.slice ea (l.length + 1) ec) (l ++ [c]) ∧ Below w.heap.size w w5 ∧ Below w.heap.size w w6 := by
  have M1 := (OMem.start w).rowNewAt ((Below.refl w.heap.size w).alloc (Nat.le_refl _) (.cells #[] 40)) (World.ownsRow_lit w #[] 0 (e := 40) (size := 2) (base := 0) (Nat.zero_le _) (by decide) rfl) (fun x hx => Nat.le_of_eq (by simpa [Value.ownBlock] using hx))
  have hs : (w.alloc (.cells #[] 40)).heap.size = w.heap.size + 1 := by simp
  generalize w.alloc (.cells #[] 40) = w1 at M1 hs ⊢
  have M2 := M1.rowNewAt ((Below.refl w1.heap.size w1).alloc (Nat.le_refl _) (.cells #[.int .i64 c.1, .int .i64 c.2] 40)) (own_clause w1 c) (fun x hx => Nat.le_of_eq (by simpa [Value.ownBlock] using hx))
  rw [hs] at M2
  obtain ⟨a, cp, w5, r5, o5, g5, at5⟩ := run_pushC _ _ v [] l (M2.rowAt (i := 0) rfl) (hv.keep M2.below) (by simp; omega)
  have e : ([] : List Cl).length + l.length = l.length := by simp
  rw [e, List.nil_append] at o5
  rw [e] at r5 at5
  have M5 := M2.rowGrow (i := 0) rfl g5 o5 at5
  obtain ⟨ea, ec, w6, r6, o6, g6, at6⟩ := run_pushC _ _ _ l [c] (M5.rowAt (i := 0) rfl) (ClAt.of_own (M5.rowAt (i := 1) rfl)) (by simp; omega)
  have M6 := M5.rowGrow (i := 0) rfl g6 o6 at6
  exact ⟨a, cp, w5, ea, ec, w6, r5, r6, ClAt.of_own o6, M5.below, M6.below⟩
theorem app_before {w : World} {v : Value} {l : List Cl} (c : Cl) (hv : ClAt w v l) (hl : l.length ≤ 1000) : ∃ a cp w5 ea ec w6,
    (Builtin.append_ #[22, 22] 22 #[.slice (some ⟨w.heap.size + 1, 0, none⟩) 0 0, v]).run Try.prog ((w.alloc (.cells #[.int .i64 c.1, .int .i64 c.2] 40)).alloc (.cells #[] 40)) = .ok (.slice a l.length cp) w5 ∧
    (Builtin.append_ #[22, 22] 22 #[.slice a l.length cp, .slice (some ⟨w.heap.size, 0, none⟩) 1 1]).run Try.prog w5 = .ok (.slice ea (l.length + 1) ec) w6 ∧ ClAt w6 (.slice ea (l.length + 1) ec) (l ++ [c]) ∧ Below w.heap.size w w5 ∧ Below w.heap.size w w6 := by
  have M1 := (OMem.start w).rowNewAt ((Below.refl w.heap.size w).alloc (Nat.le_refl _) (.cells #[.int .i64 c.1, .int .i64 c.2] 40)) (own_clause w c) (fun x hx => Nat.le_of_eq (by simpa [Value.ownBlock] using hx))
  have hs : (w.alloc (.cells #[.int .i64 c.1, .int .i64 c.2] 40)).heap.size = w.heap.size + 1 := by simp
  generalize w.alloc (.cells #[.int .i64 c.1, .int .i64 c.2] 40) = w1 at M1 hs ⊢
  have M2 := M1.rowNewAt ((Below.refl w1.heap.size w1).alloc (Nat.le_refl _) (.cells #[] 40)) (World.ownsRow_lit w1 #[] 0 (e := 40) (size := 2) (base := 0) (Nat.zero_le _) (by decide) rfl) (fun x hx => Nat.le_of_eq (by simpa [Value.ownBlock] using hx))
  rw [hs] at M2
  obtain ⟨a, cp, w5, r5, o5, g5, at5⟩ := run_pushC _ _ v [] l (M2.rowAt (i := 1) rfl) (hv.keep M2.below) (by simp; omega)
  have e : ([] : List Cl).length + l.length = l.length := by simp
  rw [e, List.nil_append] at o5
  rw [e] at r5 at5
  have M5 := M2.rowGrow (i := 1) rfl g5 o5 at5
  obtain ⟨ea, ec, w6, r6, o6, g6, at6⟩ := run_pushC _ _ _ l [c] (M5.rowAt (i := 1) rfl) (ClAt.of_own (M5.rowAt (i := 0) rfl)) (by simp; omega)
  have M6 := M5.rowGrow (i := 1) rfl g6 o6 at6
  exact ⟨a, cp, w5, ea, ec, w6, r5, r6, ClAt.of_own o6, M5.below, M6.below⟩
theorem appN_between {w : World} {v : Value} {l : List Int} (c : Int) (hv : NumsAt w v l) (hl : l.length ≤ 900) : ∃ a cp w5 ea ec w6,
    (Builtin.append_ #[24, 24] 24 #[.slice (some ⟨w.heap.size, 0, none⟩) 0 0, v]).run Try.prog ((w.alloc (.cells #[] 3)).alloc (.cells #[.int .i64 c] 3)) = .ok (.slice a l.length cp) w5 ∧
    (Builtin.append_ #[24, 24] 24 #[.slice a l.length cp, .slice (some ⟨w.heap.size + 1, 0, none⟩) 1 1]).run Try.prog w5 = .ok (.slice ea (l.length + 1) ec) w6 ∧ NumsAt w6 (.slice ea (l.length + 1) ec) (l ++ [c]) ∧ Below w.heap.size w w5 ∧ Below w.heap.size w w6 := by
  have M1 := (OMem.start w).rowNewAt ((Below.refl w.heap.size w).alloc (Nat.le_refl _) (.cells #[] 3)) (World.ownsRow_lit w #[] 0 (e := 3) (size := 1) (base := 0) (Nat.zero_le _) (by decide) rfl) (fun x hx => Nat.le_of_eq (by simpa [Value.ownBlock] using hx))
  have hs : (w.alloc (.cells #[] 3)).heap.size = w.heap.size + 1 := by simp
  generalize w.alloc (.cells #[] 3) = w1 at M1 hs ⊢
  have M2 := M1.rowNewAt ((Below.refl w1.heap.size w1).alloc (Nat.le_refl _) (.cells #[.int .i64 c] 3)) (own_int w1 c) (fun x hx => Nat.le_of_eq (by simpa [Value.ownBlock] using hx))
  rw [hs] at M2
  obtain ⟨a, cp, w5, r5, o5, g5, at5⟩ := run_pushN _ _ v [] l (M2.rowAt (i := 0) rfl) (hv.keep M2.below) (by simp; omega)
  have e : ([] : List Int).length + l.length = l.length := by simp
  rw [e, List.nil_append] at o5
  rw [e] at r5 at5
  have M5 := M2.rowGrow (i := 0) rfl g5 o5 at5
  obtain ⟨ea, ec, w6, r6, o6, g6, at6⟩ := run_pushN _ _ _ l [c] (M5.rowAt (i := 0) rfl) (NumsAt.of_own (M5.rowAt (i := 1) rfl)) (by simp; omega)
  have M6 := M5.rowGrow (i := 0) rfl g6 o6 at6
  exact ⟨a, cp, w5, ea, ec, w6, r5, r6, NumsAt.of_own o6, M5.below, M6.below⟩
theorem appN_before {w : World} {v : Value} {l : List Int} (c : Int) (hv : NumsAt w v l) (hl : l.length ≤ 900) : ∃ a cp w5 ea ec w6,
    (Builtin.append_ #[24, 24] 24 #[.slice (some ⟨w.heap.size + 1, 0, none⟩) 0 0, v]).run Try.prog ((w.alloc (.cells #[.int .i64 c] 3)).alloc (.cells #[] 3)) = .ok (.slice a l.length cp) w5 ∧
    (Builtin.append_ #[24, 24] 24 #[.slice a l.length cp, .slice (some ⟨w.heap.size, 0, none⟩) 1 1]).run Try.prog w5 = .ok (.slice ea (l.length + 1) ec) w6 ∧ NumsAt w6 (.slice ea (l.length + 1) ec) (l ++ [c]) ∧ Below w.heap.size w w5 ∧ Below w.heap.size w w6 := by
  have M1 := (OMem.start w).rowNewAt ((Below.refl w.heap.size w).alloc (Nat.le_refl _) (.cells #[.int .i64 c] 3)) (own_int w c) (fun x hx => Nat.le_of_eq (by simpa [Value.ownBlock] using hx))
  have hs : (w.alloc (.cells #[.int .i64 c] 3)).heap.size = w.heap.size + 1 := by simp
  generalize w.alloc (.cells #[.int .i64 c] 3) = w1 at M1 hs ⊢
  have M2 := M1.rowNewAt ((Below.refl w1.heap.size w1).alloc (Nat.le_refl _) (.cells #[] 3)) (World.ownsRow_lit w1 #[] 0 (e := 3) (size := 1) (base := 0) (Nat.zero_le _) (by decide) rfl) (fun x hx => Nat.le_of_eq (by simpa [Value.ownBlock] using hx))
  rw [hs] at M2
  obtain ⟨a, cp, w5, r5, o5, g5, at5⟩ := run_pushN _ _ v [] l (M2.rowAt (i := 1) rfl) (hv.keep M2.below) (by simp; omega)
  have e : ([] : List Int).length + l.length = l.length := by simp
  rw [e, List.nil_append] at o5
  rw [e] at r5 at5
  have M5 := M2.rowGrow (i := 1) rfl g5 o5 at5
  obtain ⟨ea, ec, w6, r6, o6, g6, at6⟩ := run_pushN _ _ _ l [c] (M5.rowAt (i := 1) rfl) (NumsAt.of_own (M5.rowAt (i := 0) rfl)) (by simp; omega)
  have M6 := M5.rowGrow (i := 1) rfl g6 o6 at6
  exact ⟨a, cp, w5, ea, ec, w6, r5, r6, NumsAt.of_own o6, M5.below, M6.below⟩
set_option maxHeartbeats 8000000 in
set_option maxRecDepth 100000 in
theorem follows_walk (A : SApi) {w : World} {v u : Value} {l : List Cl} {n : Int} {xs : List Int} {c : Cl} (hv : ClAt w v l) (hn : I64 n) (hu : NumsAt w u xs) :
    Calls Try.prog 6 #[v, .int .i64 n, u, .agg #[.int .i64 c.1, .int .i64 c.2]] w fun e w' => e = .returned (.bool true) ∧ Below w.heap.size w w' := by
  have HV := Lib.hid hv
  have HU := Lib.hid hu
  have HN := Lib.hid hn
  have hb := (Below.refl w.heap.size w).alloc (Nat.le_refl _) (.cells #[.int .i64 c.1, .int .i64 c.2] 40)
  have d0 : (w.alloc (.cells #[.int .i64 c.1, .int .i64 c.2] 40)).cell? ⟨w.heap.size, 0, none⟩ = some (.int .i64 c.1) := by rw [Lib.cell_of_heap (MapKept.heap_alloc _ _).1]; rfl
  have d1 : (w.alloc (.cells #[.int .i64 c.1, .int .i64 c.2] 40)).cell? ⟨w.heap.size, 1, none⟩ = some (.int .i64 c.2) := by rw [Lib.cell_of_heap (MapKept.heap_alloc _ _).1]; rfl
  have D0 := Lib.hid d0
  have D1 := Lib.hid d1
  have HB := Lib.hid hb
  obtain ⟨va, vc, rfl⟩ := hv.slice
  obtain ⟨ua, uc, rfl⟩ := hu.slice
  clear hu hn hv hb d0 d1
  by_cases h1 : 100 < l.length
  · have h1' : (100 : Int) < (l.length : Int) := by omega
    go_enter Try.func6, Try.ntmps6
    go_wp2_with (go_at_call 8; refine (small_any A _).mono ?_; rintro e w1 ⟨rfl, m1⟩; refine Hid.out ?_)
    refine Lib.hid ?_
    have B1 := Lib.hid (HB.out.trans (m1.mono HB.out.size))
    have d0 := below_cell D0.out m1
    have d1 := below_cell D1.out m1
    clear m1
    go_wp2
    go_ret
    exact ⟨rfl, B1.out⟩
  · have h1' : ¬ (100 : Int) < (l.length : Int) := by omega
    by_cases h2 : 40 < n
    · go_enter Try.func6, Try.ntmps6
      go_wp2_with (go_at_call 8; refine (small_any A _).mono ?_; rintro e w1 ⟨rfl, m1⟩; refine Hid.out ?_)
      refine Lib.hid ?_
      have B1 := Lib.hid (HB.out.trans (m1.mono HB.out.size))
      have d0 := below_cell D0.out m1
      have d1 := below_cell D1.out m1
      clear m1
      go_wp2
      go_ret
      exact ⟨rfl, B1.out⟩
    · by_cases h3 : 10 < xs.length
      · have h3' : (10 : Int) < (xs.length : Int) := by omega
        go_enter Try.func6, Try.ntmps6
        go_wp2_with (go_at_call 8; refine (small_any A _).mono ?_; rintro e w1 ⟨rfl, m1⟩; refine Hid.out ?_)
        refine Lib.hid ?_
        have B1 := Lib.hid (HB.out.trans (m1.mono HB.out.size))
        have d0 := below_cell D0.out m1
        have d1 := below_cell D1.out m1
        clear m1
        go_wp2
        go_ret
        exact ⟨rfl, B1.out⟩
      · have h3' : ¬ (10 : Int) < (xs.length : Int) := by omega
        go_enter Try.func6, Try.ntmps6
        go_wp2_with (go_at_call 8; refine (small_any A _).mono ?_; rintro e w1 ⟨rfl, m1⟩; refine Hid.out ?_)
        refine Lib.hid ?_
        have B1 := Lib.hid (HB.out.trans (m1.mono HB.out.size))
        have d0 := below_cell D0.out m1
        have d1 := below_cell D1.out m1
        clear m1
        have HV := Lib.hid (HV.out.keep B1.out)
        have HU := Lib.hid (HU.out.keep B1.out)
        have D0 := Lib.hid d0
        have D1 := Lib.hid d1
        have HR := q_right (n := n) HV.out (by omega)
        cases hr : right l n with
        | false =>
          rw [hr] at HR
          have HR := Lib.hid HR
          clear hr
          go_wp2_with (go_at_call 10; refine (HR.out).mono ?_; rintro e w2 ⟨rfl, rfl⟩; refine Hid.out ?_)
          refine Lib.hid ?_
          go_wp2
          go_ret
          exact ⟨rfl, B1.out⟩
        | true =>
          rw [hr] at HR
          have HRI := Lib.hid hr
          have hn2 := (right_iff.1 hr).1
          have HR := Lib.hid HR
          have HC := q_right (n := n) (cls_lit w1 [c] (by simp)) (by simp)
          clear hr
          have B2 := Lib.hid ((Below.refl w1.heap.size w1).alloc (Nat.le_refl _) (.cells (clVs [c]).toArray 40))
          cases hrc : right [c] n with
          | false =>
            rw [hrc] at HC
            have HC := Lib.hid HC
            clear hrc
            go_wp2_with (go_at_call 10; refine (HR.out).mono ?_; rintro e w2 ⟨rfl, rfl⟩; refine Hid.out ?_)
            refine Lib.hid ?_
            go_wp2_with (go_at_call 10; refine (HC.out).mono ?_; rintro e w2 ⟨rfl, rfl⟩; refine Hid.out ?_)
            refine Lib.hid ?_
            go_wp2
            go_ret
            exact ⟨rfl, B1.out.trans (B2.out.mono B1.out.size)⟩
          | true =>
            rw [hrc] at HC
            have hcin := (right_iff.1 hrc).2.2 c (by simp)
            have HRM := Lib.hid (show right (l ++ [c]) n = true from right_app HRI.out (by simp; omega) (fun x hx => by simp at hx; subst hx; exact hcin))
            have HCI := Lib.hid hcin
            have HC := Lib.hid HC
            have HF := Lib.hid (A.follows_ (n := n) (HV.out.keep B2.out) (by omega) HN.out (HU.out.keep B2.out) (by omega))
            clear hrc hcin
            go_wp2_with (go_at_call 10; refine (HR.out).mono ?_; rintro e w2 ⟨rfl, rfl⟩; refine Hid.out ?_)
            refine Lib.hid ?_
            go_wp2_with (go_at_call 10; refine (HC.out).mono ?_; rintro e w2 ⟨rfl, rfl⟩; refine Hid.out ?_)
            refine Lib.hid ?_
            clear HR HC d0 d1
            go_wp2_with (go_at_call 15; refine (HF.out).mono ?_; rintro e w3 ⟨rfl, b3⟩; refine Hid.out ?_)
            refine Lib.hid ?_
            have HK := Lib.hid (B2.out.trans (b3.mono B2.out.size))
            obtain ⟨f, hf⟩ : ∃ f, f = follows l n xs := ⟨_, rfl⟩
            rw [← hf]
            have HFF := Lib.hid hf
            obtain ⟨ca, cc, w5, r5, o5, b5, n5⟩ := copyC_run (HV.out.keep HK.out) (by omega)
            have R5 := Lib.hid r5
            have M5 := Lib.hid (show OMem w3 w5 [.row 40 2 (.slice ca (l ++ oppc (xs.take 0)).length cc) (l ++ oppc (xs.take 0)).length (clVs (l ++ oppc (xs.take 0)))] by
              rw [show l ++ oppc (xs.take 0) = l by simp [oppc]]; exact (OMem.start _).rowNewAt b5 o5 n5)
            clear r5 o5 b5 n5 hf b3 HF
            go_wp2_with (at_builtin; refine Hid.out ?_)
            refine Lib.hid ?_
            refine Lib.wpList_append_run _ rfl _ _ _ _ rfl _ _ rfl rfl _ _ R5.out ?_
            go_wp2
            go_loopw [11, 12] (fun o i wr => ∃ (k : Nat) (oa : Option Addr) (oc : Nat), k ≤ xs.length ∧ i = .int .i64 k ∧ o = .slice oa (l ++ oppc (xs.take k)).length oc ∧ Hid (∀ x ∈ xs.take k, 0 ≤ x ∧ x < 2 * n) ∧ OMem w3 wr [.row 40 2 (.slice oa (l ++ oppc (xs.take k)).length oc) (l ++ oppc (xs.take k)).length (clVs (l ++ oppc (xs.take k)))]) (fun _ i _ => xs.length - (RowKit.intOf i).toNat)
            case atStart => exact ⟨0, ca, cc, Nat.zero_le _, rfl, by simp [oppc], Lib.hid (by simp), M5.out⟩
            case round =>
              obtain ⟨k, oa, oc, hk, rfl, rfl, HT, mm⟩ := hrel
              obtain ⟨L, hL⟩ : ∃ L, L = l ++ oppc (xs.take k) := ⟨_, rfl⟩
              have hLl : L.length ≤ 110 := by rw [hL, List.length_append, oppc_len, List.length_take]; omega
              rw [← hL] at mm ⊢
              have HLL := Lib.hid hL
              clear hL
              have M := Lib.hid mm
              by_cases hlt : k < xs.length
              · obtain ⟨x, hx⟩ : ∃ x, xs[k]? = some x := ⟨_, List.getElem?_eq_getElem hlt⟩
                have HX := Lib.hid hx
                obtain ⟨ab, ao, acap, e1, _, hcs⟩ := (HU.out.keep (HK.out.trans (mm.below.mono HK.out.size))).form (by omega)
                cases e1
                have c0 := hcs k x hx
                have BE := Lib.hid (HK.out.trans (mm.below.mono HK.out.size))
                clear hcs hx
                by_cases hx0 : x < 0
                · have hff : f = false := by rw [HFF.out]; exact follows_bad (List.mem_of_getElem? HX.out) (fun q => by omega)
                  subst hff
                  clear mm
                  go_wp2
                  go_ret
                  exact ⟨rfl, B1.out.trans (BE.out.mono B1.out.size)⟩
                · by_cases hx1 : 2 * n ≤ x
                  · have hff : f = false := by rw [HFF.out]; exact follows_bad (List.mem_of_getElem? HX.out) (fun q => by omega)
                    subst hff
                    clear mm
                    go_wp2
                    go_ret
                    exact ⟨rfl, B1.out.trans (BE.out.mono B1.out.size)⟩
                  · have hxx : 0 ≤ x ∧ x < 100 := by omega
                    have HT2 := Lib.hid (take_all HT.out HX.out (show 0 ≤ x ∧ x < 2 * n by omega))
                    obtain ⟨o, ho⟩ : ∃ o, opp x = o := ⟨_, rfl⟩
                    have hm : x.tmod 2 = x % 2 := Int.tmod_eq_emod_of_nonneg hxx.1
                    have hw1 : IntKind.i64.wrap (x + 1) = x + 1 := wrap_in (by omega)
                    have hw2 : IntKind.i64.wrap (2 * (x % 2)) = 2 * (x % 2) := wrap_in (by omega)
                    have hw3 : IntKind.i64.wrap (x + 1 - 2 * (x % 2)) = o := by rw [← ho]; exact wrap_in (by omega)
                    have HO := Lib.hid ho
                    obtain ⟨ya, yc, w7, r7, m7⟩ := (mm.fresh (below_drew wr)).pushC (i := 0) rfl (o, o) (by omega)
                    have R7 := Lib.hid r7
                    have M7 := Lib.hid (show OMem w3 w7 [.row 40 2 (.slice ya (l ++ oppc (xs.take (k + 1))).length yc) (l ++ oppc (xs.take (k + 1))).length (clVs (l ++ oppc (xs.take (k + 1))))] by
                      have e : l ++ oppc (xs.take (k + 1)) = L ++ [(o, o)] := by
                        rw [HLL.out, List.take_add_one, HX.out]
                        simp [oppc, HO.out]
                      rw [e, List.length_append]; exact m7)
                    have HL2 := Lib.hid (show L.length + 1 = (l ++ oppc (xs.take (k + 1))).length by
                      rw [HLL.out, List.take_add_one, HX.out]; simp [oppc]; omega)
                    have S0 := below_cell c0 (below_drew wr)
                    clear ho r7 m7 mm
                    go_wp2
                    refine region_till 12 (fun wx => wx.cell? ⟨ab, ao + k, none⟩ = some (.int .i64 x)) (by kernel_rfl) ?_
                    refine till_take 0 60 false (v := ?v0) (by kernel_rfl) (by kernel_rfl) (by kernel_rfl) (by kernel_rfl) (by kernel_rfl) (fun _ _ _ h => h) ?hw0 S0 ?hy0 ?rest0
                    case hw0 => (simp only [List.getElem?_toArray, List.getElem?_cons_zero, Option.elim]; rfl)
                    case hy0 => (simp only [List.getElem?_toArray, List.getElem?_cons_zero, Option.elim]; intro wx _; go_simp; with_reducible rfl)
                    simp only [dstOf, List.getElem?_toArray, List.getElem?_cons_zero, Option.bind, Act.put, List.setIfInBounds_toArray, List.set_cons_zero, List.set_cons_succ]
                    refine till_take 1 60 false (v := ?v1) (by kernel_rfl) (by kernel_rfl) (by kernel_rfl) (by kernel_rfl) (by kernel_rfl) (fun _ _ _ h => h) ?hw1 S0 ?hy1 ?rest1
                    case hw1 => (simp only [List.getElem?_toArray, List.getElem?_cons_zero, List.getElem?_cons_succ, Option.elim]; rfl)
                    case hy1 => (simp only [List.getElem?_toArray, List.getElem?_cons_zero, List.getElem?_cons_succ, Option.elim]; intro wx _; go_simp; with_reducible rfl)
                    simp only [dstOf, List.getElem?_toArray, List.getElem?_cons_zero, List.getElem?_cons_succ, Option.bind, Act.put, List.setIfInBounds_toArray, List.set_cons_zero, List.set_cons_succ]
                    refine till_take 2 60 false (v := ?v2) (by kernel_rfl) (by kernel_rfl) (by kernel_rfl) (by kernel_rfl) (by kernel_rfl) (fun _ _ _ h => h) ?hw2 S0 ?hy2 ?rest2
                    case hw2 => (simp only [List.getElem?_toArray, List.getElem?_cons_zero, List.getElem?_cons_succ, Option.elim]; rfl)
                    case hy2 => (simp only [List.getElem?_toArray, List.getElem?_cons_zero, List.getElem?_cons_succ, Option.elim]; intro wx _; go_simp; with_reducible rfl)
                    simp only [dstOf, List.getElem?_toArray, List.getElem?_cons_zero, List.getElem?_cons_succ, Option.bind, Act.put, List.setIfInBounds_toArray, List.set_cons_zero, List.set_cons_succ]
                    refine till_take 3 60 true (v := ?v3) (by kernel_rfl) (by kernel_rfl) (by kernel_rfl) (by kernel_rfl) (by kernel_rfl) (fun _ _ _ h => h) ?hw3 S0 ?hy3 ?rest3
                    case hw3 => (simp only [List.getElem?_toArray, List.getElem?_cons_zero, List.getElem?_cons_succ, Option.elim]; rfl)
                    case hy3 => (simp only [List.getElem?_toArray, List.getElem?_cons_zero, List.getElem?_cons_succ, Option.elim]; intro wx hx; have x0 := hx trivial; go_simp; with_reducible rfl)
                    simp only [dstOf, List.getElem?_toArray, List.getElem?_cons_zero, List.getElem?_cons_succ, Option.bind, Act.put, List.setIfInBounds_toArray, List.set_cons_zero, List.set_cons_succ]
                    refine till_take 4 60 false (v := ?v4) (by kernel_rfl) (by kernel_rfl) (by kernel_rfl) (by kernel_rfl) (by kernel_rfl) (fun _ _ _ h => h) ?hw4 S0 ?hy4 ?rest4
                    case hw4 => (simp only [List.getElem?_toArray, List.getElem?_cons_zero, List.getElem?_cons_succ, Option.elim]; rfl)
                    case hy4 => (simp only [List.getElem?_toArray, List.getElem?_cons_zero, List.getElem?_cons_succ, Option.elim]; intro wx _; go_simp; with_reducible rfl)
                    simp only [dstOf, List.getElem?_toArray, List.getElem?_cons_zero, List.getElem?_cons_succ, Option.bind, Act.put, List.setIfInBounds_toArray, List.set_cons_zero, List.set_cons_succ]
                    refine till_take 5 60 false (v := ?v5) (by kernel_rfl) (by kernel_rfl) (by kernel_rfl) (by kernel_rfl) (by kernel_rfl) (fun _ _ _ h => h) ?hw5 S0 ?hy5 ?rest5
                    case hw5 => (simp only [List.getElem?_toArray, List.getElem?_cons_zero, List.getElem?_cons_succ, Option.elim]; rfl)
                    case hy5 => (simp only [List.getElem?_toArray, List.getElem?_cons_zero, List.getElem?_cons_succ, Option.elim]; intro wx _; go_simp; with_reducible rfl)
                    simp only [dstOf, List.getElem?_toArray, List.getElem?_cons_zero, List.getElem?_cons_succ, Option.bind, Act.put, List.setIfInBounds_toArray, List.set_cons_zero, List.set_cons_succ]
                    refine till_take 6 60 false (v := ?v6) (by kernel_rfl) (by kernel_rfl) (by kernel_rfl) (by kernel_rfl) (by kernel_rfl) (fun _ _ _ h => h) ?hw6 S0 ?hy6 ?rest6
                    case hw6 => (simp only [List.getElem?_toArray, List.getElem?_cons_zero, List.getElem?_cons_succ, Option.elim]; rfl)
                    case hy6 => (simp only [List.getElem?_toArray, List.getElem?_cons_zero, List.getElem?_cons_succ, Option.elim]; intro wx _; go_simp; with_reducible rfl)
                    simp only [dstOf, List.getElem?_toArray, List.getElem?_cons_zero, List.getElem?_cons_succ, Option.bind, Act.put, List.setIfInBounds_toArray, List.set_cons_zero, List.set_cons_succ]
                    refine till_take 7 60 false (v := ?v7) (by kernel_rfl) (by kernel_rfl) (by kernel_rfl) (by kernel_rfl) (by kernel_rfl) (fun _ _ _ h => h) ?hw7 S0 ?hy7 ?rest7
                    case hw7 => (simp only [List.getElem?_toArray, List.getElem?_cons_zero, List.getElem?_cons_succ, Option.elim]; rfl)
                    case hy7 => (simp only [List.getElem?_toArray, List.getElem?_cons_zero, List.getElem?_cons_succ, Option.elim]; intro wx _; go_simp; with_reducible rfl)
                    simp only [dstOf, List.getElem?_toArray, List.getElem?_cons_zero, List.getElem?_cons_succ, Option.bind, Act.put, List.setIfInBounds_toArray, List.set_cons_zero, List.set_cons_succ]
                    refine till_take 8 60 true (v := ?v8) (by kernel_rfl) (by kernel_rfl) (by kernel_rfl) (by kernel_rfl) (by kernel_rfl) (fun _ _ _ h => h) ?hw8 S0 ?hy8 ?rest8
                    case hw8 => (simp only [List.getElem?_toArray, List.getElem?_cons_zero, List.getElem?_cons_succ, Option.elim]; rfl)
                    case hy8 => (simp only [List.getElem?_toArray, List.getElem?_cons_zero, List.getElem?_cons_succ, Option.elim]; intro wx hx; have x0 := hx trivial; go_simp; with_reducible rfl)
                    simp only [dstOf, List.getElem?_toArray, List.getElem?_cons_zero, List.getElem?_cons_succ, Option.bind, Act.put, List.setIfInBounds_toArray, List.set_cons_zero, List.set_cons_succ]
                    refine till_take 9 60 false (v := ?v9) (by kernel_rfl) (by kernel_rfl) (by kernel_rfl) (by kernel_rfl) (by kernel_rfl) (fun _ _ _ h => h) ?hw9 S0 ?hy9 ?rest9
                    case hw9 => (simp only [List.getElem?_toArray, List.getElem?_cons_zero, List.getElem?_cons_succ, Option.elim]; rfl)
                    case hy9 => (simp only [List.getElem?_toArray, List.getElem?_cons_zero, List.getElem?_cons_succ, Option.elim]; intro wx _; go_simp; with_reducible rfl)
                    simp only [dstOf, List.getElem?_toArray, List.getElem?_cons_zero, List.getElem?_cons_succ, Option.bind, Act.put, List.setIfInBounds_toArray, List.set_cons_zero, List.set_cons_succ]
                    refine till_take 10 60 false (v := ?v10) (by kernel_rfl) (by kernel_rfl) (by kernel_rfl) (by kernel_rfl) (by kernel_rfl) (fun _ _ _ h => h) ?hw10 S0 ?hy10 ?rest10
                    case hw10 => (simp only [List.getElem?_toArray, List.getElem?_cons_zero, List.getElem?_cons_succ, Option.elim]; rfl)
                    case hy10 => (simp only [List.getElem?_toArray, List.getElem?_cons_zero, List.getElem?_cons_succ, Option.elim]; intro wx _; go_simp; with_reducible rfl)
                    simp only [dstOf, List.getElem?_toArray, List.getElem?_cons_zero, List.getElem?_cons_succ, Option.bind, Act.put, List.setIfInBounds_toArray, List.set_cons_zero, List.set_cons_succ]
                    refine till_take 11 60 false (v := ?v11) (by kernel_rfl) (by kernel_rfl) (by kernel_rfl) (by kernel_rfl) (by kernel_rfl) (fun _ _ _ h => h) ?hw11 S0 ?hy11 ?rest11
                    case hw11 => (simp only [List.getElem?_toArray, List.getElem?_cons_zero, List.getElem?_cons_succ, Option.elim]; rfl)
                    case hy11 => (simp only [List.getElem?_toArray, List.getElem?_cons_zero, List.getElem?_cons_succ, Option.elim]; intro wx _; go_simp; with_reducible rfl)
                    simp only [dstOf, List.getElem?_toArray, List.getElem?_cons_zero, List.getElem?_cons_succ, Option.bind, Act.put, List.setIfInBounds_toArray, List.set_cons_zero, List.set_cons_succ]
                    refine till_step 12 (by kernel_rfl) (by kernel_rfl) (fun K hK => ?_)
                    simp only [List.getElem?_toArray, List.getElem?_cons_zero, List.getElem?_cons_succ, Option.elim]
                    rw [if_pos (by rfl)]
                    go_simp
                    refine hK.out _ _ ?_
                    clear hK K
                    try simp only [Act.put, List.setIfInBounds_toArray, List.set_cons_zero, List.set_cons_succ]
                    refine till_end (by kernel_rfl) ?_ _
                    clear S0 hw1 hw2 hw3 hm c0
                    go_wp2_with (at_builtin; refine Hid.out ?_)
                    refine Lib.hid ?_
                    refine Lib.wpList_append_run _ rfl _ _ _ _ rfl _ _ rfl rfl _ _ R7.out ?_
                    go_wp2
                    go_roundw
                    case rel => exact ⟨k + 1, ya, yc, by omega, by go_num, by rw [HL2.out], HT2, M7.out⟩
                    case measure => (simp [RowKit.intOf]; try omega)
              · obtain rfl : k = xs.length := by omega
                have ht := HT.out
                rw [List.take_length] at ht
                have hLx : L = l ++ oppc xs := by rw [HLL.out, List.take_length]
                have hli : lits n xs = true := lits_iff.2 ht
                have hfc := follows_can HRI.out (by omega) hli
                have hrL : right L n = true := by rw [hLx]; exact oppc_right HRI.out (by omega) hli
                rw [← hLx, ← HFF.out] at hfc
                have HBM := Lib.hid (HK.out.trans (mm.below.mono HK.out.size))
                have HCL := Lib.hid (ClAt.of_own (mm.rowAt (i := 0) rfl))
                clear ht hLx HT mm HLL
                cases f with
                | true =>
                  have HS := Lib.hid (A.solve_none HCL.out (by omega) HN.out hrL (hfc.1 rfl))
                  have HFT := Lib.hid (show follows l n xs = true from HFF.out.symm)
                  clear hfc hrL hli
                  go_wp2_with (go_at_call 17; refine (HS.out).mono ?_; rintro e we ⟨u9, c9, cy9, rfl, -, -, b9, -⟩; refine Hid.out ?_)
                  refine Lib.hid ?_
                  have HE := Lib.hid (HBM.out.trans (b9.mono HBM.out.size))
                  clear b9 HS
                  go_upto_region 16 with fail
                  go_cut [17] from 106 to 111 (fun v wx => ∃ ea ec, v = .slice ea (l.length + 1) ec ∧ Hid (ClAt wx v (l ++ [c])) ∧ Hid (Below w1.heap.size w1 wx))
                  case first =>
                    have SS := Lib.hid (show ∀ wx, Below w1.heap.size w1 wx → wx.cell? ⟨w.heap.size, 0, none⟩ = some (.int .i64 c.1) ∧ wx.cell? ⟨w.heap.size, 1, none⟩ = some (.int .i64 c.2) from fun wx hx => ⟨below_cell D0.out hx, below_cell D1.out hx⟩)
                    have HD := Lib.hid (HE.out.trans ((below_drew we).mono HE.out.size))
                    have S0 := SS.out _ HD.out
                    refine region_till 5 (fun wx => wx.cell? ⟨w.heap.size, 0, none⟩ = some (.int .i64 c.1) ∧ wx.cell? ⟨w.heap.size, 1, none⟩ = some (.int .i64 c.2)) (by kernel_rfl) ?_
                    refine till_take 1 60 false (v := ?v1ap) (by kernel_rfl) (by kernel_rfl) (by kernel_rfl) (by kernel_rfl) (by kernel_rfl) (fun _ _ _ h => h) ?hw1ap S0 ?hy1ap ?rest1ap
                    case hw1ap => (simp only [List.getElem?_toArray, List.getElem?_cons_zero, List.getElem?_cons_succ, Option.elim]; rfl)
                    case hy1ap => (simp only [List.getElem?_toArray, List.getElem?_cons_zero, List.getElem?_cons_succ, Option.elim]; intro wx _; go_simp; with_reducible rfl)
                    simp only [dstOf, List.getElem?_toArray, List.getElem?_cons_zero, List.getElem?_cons_succ, Option.bind, Act.put, List.setIfInBounds_toArray, List.set_cons_zero, List.set_cons_succ]
                    refine till_take 3 60 true (v := ?v3ap) (by kernel_rfl) (by kernel_rfl) (by kernel_rfl) (by kernel_rfl) (by kernel_rfl) (fun _ _ _ h => h) ?hw3ap S0 ?hy3ap ?rest3ap
                    case hw3ap => (simp only [List.getElem?_toArray, List.getElem?_cons_zero, List.getElem?_cons_succ, Option.elim]; rfl)
                    case hy3ap => (simp only [List.getElem?_toArray, List.getElem?_cons_zero, List.getElem?_cons_succ, Option.elim]; intro wx hx; have x0 := (hx trivial).1; have x1 := (hx trivial).2; go_simp; with_reducible rfl)
                    simp only [dstOf, List.getElem?_toArray, List.getElem?_cons_zero, List.getElem?_cons_succ, Option.bind, Act.put, List.setIfInBounds_toArray, List.set_cons_zero, List.set_cons_succ]
                    refine till_split 0 4 (by kernel_rfl) ?_ ?_
                    · intro K hK
                      simp only [List.getElem?_toArray, List.getElem?_cons_zero, Option.elim]
                      rw [if_pos (by rfl)]
                      go_simp
                      refine hK.out _ _ (SS.out _ (HD.out.trans (((Below.refl we.drew.heap.size we.drew).alloc (Nat.le_refl _) (.cells #[] 40)).mono HD.out.size))) ?_
                      clear hK K
                      try simp only [Act.put, List.setIfInBounds_toArray, List.set_cons_zero, List.set_cons_succ]
                      have S0 := SS.out _ (HD.out.trans (((Below.refl we.drew.heap.size we.drew).alloc (Nat.le_refl _) (.cells #[] 40)).mono HD.out.size))
                      refine till_split 2 4 (by kernel_rfl) ?_ ?_
                      · intro K hK
                        simp only [List.getElem?_toArray, List.getElem?_cons_zero, List.getElem?_cons_succ, Option.elim]
                        rw [if_pos (by rfl)]
                        obtain ⟨ca, cc, w5, r5, o5, b5, n5⟩ := copyC_run (w := we.drew) (HV.out.keep HD.out) (by omega)
                        have R5 := Lib.hid r5
                        have O5 := Lib.hid o5
                        have N5 := Lib.hid n5
                        have B5 := Lib.hid b5
                        clear r5 o5 n5
                        refine Lib.wp_append_run _ (.tmp 106) (.tmp 107) 22 22 rfl _ _ rfl rfl _ _ R5.out ?_
                        refine hK.out _ _ (SS.out _ (HD.out.trans (b5.mono HD.out.size))) ?_
                        clear hK K
                        try simp only [Act.put, List.setIfInBounds_toArray, List.set_cons_zero, List.set_cons_succ]
                        clear R5
                        refine till_before 4 (by kernel_rfl) (fun K hK => ?_)
                        simp only [List.getElem?_toArray, List.getElem?_cons_zero, List.getElem?_cons_succ, Option.elim]
                        rw [if_pos (by rfl)]
                        go_simp
                        refine hK.out _ _ (SS.out _ (HD.out.trans ((b5.trans (((Below.refl w5.heap.size w5).alloc (Nat.le_refl _) (.cells #[.int .i64 c.1, .int .i64 c.2] 40)).mono b5.size)).mono HD.out.size))) ?_
                        clear hK K
                        try simp only [Act.put, List.setIfInBounds_toArray, List.set_cons_zero, List.set_cons_succ]
                        refine till_step 5 (by kernel_rfl) (by kernel_rfl) (fun K hK => ?_)
                        simp only [List.getElem?_toArray, List.getElem?_cons_zero, List.getElem?_cons_succ, Option.elim]
                        rw [if_pos (by rfl)]
                        obtain ⟨ea, ec, w6, r6, o6, b6, n6⟩ := snocC_run B5.out O5.out N5.out c (by omega)
                        have R6 := Lib.hid r6
                        clear r6
                        refine Lib.wp_append_run _ (.tmp 108) (.tmp 110) 22 22 rfl _ _ rfl rfl _ _ R6.out ?_
                        refine hK.out _ _ ?_
                        clear hK K
                        try simp only [Act.put, List.setIfInBounds_toArray, List.set_cons_zero, List.set_cons_succ]
                        refine till_step 6 (by kernel_rfl) (by kernel_rfl) (fun K hK => ?_)
                        simp only [List.getElem?_toArray, List.getElem?_cons_zero, List.getElem?_cons_succ, Option.elim]
                        rw [if_pos (by rfl)]
                        go_simp
                        refine hK.out _ _ ?_
                        clear hK K
                        try simp only [Act.put, List.setIfInBounds_toArray, List.set_cons_zero, List.set_cons_succ]
                        refine till_end (by kernel_rfl) ?_ _
                        go_wp2
                        go_meet
                        exact ⟨_, _, rfl, Lib.hid (ClAt.of_own o6), Lib.hid (HD.out.trans (b6.mono HD.out.size))⟩
                      · intro K hK
                        simp only [List.getElem?_toArray, List.getElem?_cons_zero, List.getElem?_cons_succ, Option.elim]
                        rw [if_pos (by rfl)]
                        have hal := ((Below.refl we.drew.heap.size we.drew).alloc (Nat.le_refl _) (.cells #[] 40)).trans (((Below.refl (we.drew.alloc (.cells #[] 40)).heap.size (we.drew.alloc (.cells #[] 40))).alloc (Nat.le_refl _) (.cells #[.int .i64 c.1, .int .i64 c.2] 40)).mono (by simp))
                        go_simp
                        refine hK.out _ _ (SS.out _ (HD.out.trans (hal.mono HD.out.size))) ?_
                        clear hK K
                        try simp only [Act.put, List.setIfInBounds_toArray, List.set_cons_zero, List.set_cons_succ]
                        obtain ⟨a, cp, w5, ea, ec, w6, r5, r6, h6, b5, b6⟩ := app_between (w := we.drew) c (HV.out.keep HD.out) (by omega)
                        have R5 := Lib.hid r5
                        have R6 := Lib.hid r6
                        have H6 := Lib.hid h6
                        have B5 := Lib.hid b5
                        have B6 := Lib.hid b6
                        clear r5 r6 h6 b5 b6
                        refine till_before 2 (by kernel_rfl) (fun K hK => ?_)
                        simp only [List.getElem?_toArray, List.getElem?_cons_zero, List.getElem?_cons_succ, Option.elim]
                        rw [if_pos (by rfl)]
                        refine Lib.wp_append_run _ (.tmp 106) (.tmp 107) 22 22 rfl _ _ rfl rfl _ _ R5.out ?_
                        refine hK.out _ _ (SS.out _ (HD.out.trans (B5.out.mono HD.out.size))) ?_
                        clear hK K
                        try simp only [Act.put, List.setIfInBounds_toArray, List.set_cons_zero, List.set_cons_succ]
                        refine till_step 5 (by kernel_rfl) (by kernel_rfl) (fun K hK => ?_)
                        simp only [List.getElem?_toArray, List.getElem?_cons_zero, List.getElem?_cons_succ, Option.elim]
                        rw [if_pos (by rfl)]
                        refine Lib.wp_append_run _ (.tmp 108) (.tmp 110) 22 22 rfl _ _ rfl rfl _ _ R6.out ?_
                        refine hK.out _ _ ?_
                        clear hK K
                        try simp only [Act.put, List.setIfInBounds_toArray, List.set_cons_zero, List.set_cons_succ]
                        refine till_step 6 (by kernel_rfl) (by kernel_rfl) (fun K hK => ?_)
                        simp only [List.getElem?_toArray, List.getElem?_cons_zero, List.getElem?_cons_succ, Option.elim]
                        rw [if_pos (by rfl)]
                        go_simp
                        refine hK.out _ _ ?_
                        clear hK K
                        try simp only [Act.put, List.setIfInBounds_toArray, List.set_cons_zero, List.set_cons_succ]
                        refine till_end (by kernel_rfl) ?_ _
                        go_wp2
                        go_meet
                        exact ⟨_, _, rfl, H6, Lib.hid (HD.out.trans (B6.out.mono HD.out.size))⟩
                    · intro K hK
                      simp only [List.getElem?_toArray, List.getElem?_cons_zero, List.getElem?_cons_succ, Option.elim]
                      rw [if_pos (by rfl)]
                      go_simp
                      refine hK.out _ _ (SS.out _ (HD.out.trans (((Below.refl we.drew.heap.size we.drew).alloc (Nat.le_refl _) (.cells #[.int .i64 c.1, .int .i64 c.2] 40)).mono HD.out.size))) ?_
                      clear hK K
                      try simp only [Act.put, List.setIfInBounds_toArray, List.set_cons_zero, List.set_cons_succ]
                      obtain ⟨a, cp, w5, ea, ec, w6, r5, r6, h6, b5, b6⟩ := app_before (w := we.drew) c (HV.out.keep HD.out) (by omega)
                      have R5 := Lib.hid r5
                      have R6 := Lib.hid r6
                      have H6 := Lib.hid h6
                      have B5 := Lib.hid b5
                      have B6 := Lib.hid b6
                      clear r5 r6 h6 b5 b6
                      refine till_before 0 (by kernel_rfl) (fun K hK => ?_)
                      simp only [List.getElem?_toArray, List.getElem?_cons_zero, Option.elim]
                      rw [if_pos (by rfl)]
                      go_simp
                      refine hK.out _ _ (SS.out _ (HD.out.trans ((((Below.refl we.drew.heap.size we.drew).alloc (Nat.le_refl _) (.cells #[.int .i64 c.1, .int .i64 c.2] 40)).trans (((Below.refl (we.drew.alloc (.cells #[.int .i64 c.1, .int .i64 c.2] 40)).heap.size (we.drew.alloc (.cells #[.int .i64 c.1, .int .i64 c.2] 40))).alloc (Nat.le_refl _) (.cells #[] 40)).mono (by simp))).mono HD.out.size))) ?_
                      clear hK K
                      try simp only [Act.put, List.setIfInBounds_toArray, List.set_cons_zero, List.set_cons_succ]
                      refine till_before 2 (by kernel_rfl) (fun K hK => ?_)
                      simp only [List.getElem?_toArray, List.getElem?_cons_zero, List.getElem?_cons_succ, Option.elim]
                      rw [if_pos (by rfl)]
                      refine Lib.wp_append_run _ (.tmp 106) (.tmp 107) 22 22 rfl _ _ rfl rfl _ _ R5.out ?_
                      refine hK.out _ _ (SS.out _ (HD.out.trans (B5.out.mono HD.out.size))) ?_
                      clear hK K
                      try simp only [Act.put, List.setIfInBounds_toArray, List.set_cons_zero, List.set_cons_succ]
                      refine till_step 5 (by kernel_rfl) (by kernel_rfl) (fun K hK => ?_)
                      simp only [List.getElem?_toArray, List.getElem?_cons_zero, List.getElem?_cons_succ, Option.elim]
                      rw [if_pos (by rfl)]
                      refine Lib.wp_append_run _ (.tmp 108) (.tmp 110) 22 22 rfl _ _ rfl rfl _ _ R6.out ?_
                      refine hK.out _ _ ?_
                      clear hK K
                      try simp only [Act.put, List.setIfInBounds_toArray, List.set_cons_zero, List.set_cons_succ]
                      refine till_step 6 (by kernel_rfl) (by kernel_rfl) (fun K hK => ?_)
                      simp only [List.getElem?_toArray, List.getElem?_cons_zero, List.getElem?_cons_succ, Option.elim]
                      rw [if_pos (by rfl)]
                      go_simp
                      refine hK.out _ _ ?_
                      clear hK K
                      try simp only [Act.put, List.setIfInBounds_toArray, List.set_cons_zero, List.set_cons_succ]
                      refine till_end (by kernel_rfl) ?_ _
                      go_wp2
                      go_meet
                      exact ⟨_, _, rfl, H6, Lib.hid (HD.out.trans (B6.out.mono HD.out.size))⟩
                  case rest =>
                    obtain ⟨ea, ec, rfl, HM6, B6⟩ := hcut
                    clear HE
                    generalize wc = w6 at HM6 B6 ⊢
                    have S0 := And.intro (below_cell (below_cell D0.out B6.out) (below_drew w6)) (below_cell (below_cell D1.out B6.out) (below_drew w6))
                    have bal := (below_drew w6).trans ((Below.refl w6.drew.heap.size w6.drew).alloc (Nat.le_refl _) (.cells #[.int .i64 c.1, .int .i64 c.2] 3))
                    have BAL := Lib.hid bal
                    have H1 := A.follows_ (n := n) (HM6.out.keep bal) (by rw [List.length_append]; simp; omega) HN.out (nums_lit w6.drew [c.1, c.2] (by simp)) (by simp)
                    rw [follows_clause HRM.out] at H1
                    have H1 := Lib.hid H1
                    clear bal
                    go_wp2
                    have S0' := S0
                    refine region_till 8 (fun wx => wx.cell? ⟨w.heap.size, 0, none⟩ = some (.int .i64 c.1) ∧ wx.cell? ⟨w.heap.size, 1, none⟩ = some (.int .i64 c.2)) (by kernel_rfl) ?_
                    refine till_take 0 60 false (v := ?v0as) (by kernel_rfl) (by kernel_rfl) (by kernel_rfl) (by kernel_rfl) (by kernel_rfl) (fun _ _ _ h => h) ?hw0as S0 ?hy0as ?rest0as
                    case hw0as => (simp only [List.getElem?_toArray, List.getElem?_cons_zero, Option.elim]; rfl)
                    case hy0as => (simp only [List.getElem?_toArray, List.getElem?_cons_zero, Option.elim]; intro wx _; go_simp; with_reducible rfl)
                    simp only [dstOf, List.getElem?_toArray, List.getElem?_cons_zero, Option.bind, Act.put, List.setIfInBounds_toArray, List.set_cons_zero, List.set_cons_succ]
                    refine till_take 1 60 false (v := ?v1as) (by kernel_rfl) (by kernel_rfl) (by kernel_rfl) (by kernel_rfl) (by kernel_rfl) (fun _ _ _ h => h) ?hw1as S0 ?hy1as ?rest1as
                    case hw1as => (simp only [List.getElem?_toArray, List.getElem?_cons_zero, List.getElem?_cons_succ, Option.elim]; rfl)
                    case hy1as => (simp only [List.getElem?_toArray, List.getElem?_cons_zero, List.getElem?_cons_succ, Option.elim]; intro wx _; go_simp; with_reducible rfl)
                    simp only [dstOf, List.getElem?_toArray, List.getElem?_cons_zero, List.getElem?_cons_succ, Option.bind, Act.put, List.setIfInBounds_toArray, List.set_cons_zero, List.set_cons_succ]
                    refine till_take 2 60 false (v := ?v2as) (by kernel_rfl) (by kernel_rfl) (by kernel_rfl) (by kernel_rfl) (by kernel_rfl) (fun _ _ _ h => h) ?hw2as S0 ?hy2as ?rest2as
                    case hw2as => (simp only [List.getElem?_toArray, List.getElem?_cons_zero, List.getElem?_cons_succ, Option.elim]; rfl)
                    case hy2as => (simp only [List.getElem?_toArray, List.getElem?_cons_zero, List.getElem?_cons_succ, Option.elim]; intro wx _; go_simp; with_reducible rfl)
                    simp only [dstOf, List.getElem?_toArray, List.getElem?_cons_zero, List.getElem?_cons_succ, Option.bind, Act.put, List.setIfInBounds_toArray, List.set_cons_zero, List.set_cons_succ]
                    refine till_take 3 60 false (v := ?v3as) (by kernel_rfl) (by kernel_rfl) (by kernel_rfl) (by kernel_rfl) (by kernel_rfl) (fun _ _ _ h => h) ?hw3as S0 ?hy3as ?rest3as
                    case hw3as => (simp only [List.getElem?_toArray, List.getElem?_cons_zero, List.getElem?_cons_succ, Option.elim]; rfl)
                    case hy3as => (simp only [List.getElem?_toArray, List.getElem?_cons_zero, List.getElem?_cons_succ, Option.elim]; intro wx _; go_simp; with_reducible rfl)
                    simp only [dstOf, List.getElem?_toArray, List.getElem?_cons_zero, List.getElem?_cons_succ, Option.bind, Act.put, List.setIfInBounds_toArray, List.set_cons_zero, List.set_cons_succ]
                    refine till_take 4 60 false (v := ?v4as) (by kernel_rfl) (by kernel_rfl) (by kernel_rfl) (by kernel_rfl) (by kernel_rfl) (fun _ _ _ h => h) ?hw4as S0 ?hy4as ?rest4as
                    case hw4as => (simp only [List.getElem?_toArray, List.getElem?_cons_zero, List.getElem?_cons_succ, Option.elim]; rfl)
                    case hy4as => (simp only [List.getElem?_toArray, List.getElem?_cons_zero, List.getElem?_cons_succ, Option.elim]; intro wx _; go_simp; with_reducible rfl)
                    simp only [dstOf, List.getElem?_toArray, List.getElem?_cons_zero, List.getElem?_cons_succ, Option.bind, Act.put, List.setIfInBounds_toArray, List.set_cons_zero, List.set_cons_succ]
                    refine till_take 5 60 true (v := ?v5as) (by kernel_rfl) (by kernel_rfl) (by kernel_rfl) (by kernel_rfl) (by kernel_rfl) (fun _ _ _ h => h) ?hw5as S0 ?hy5as ?rest5as
                    case hw5as => (simp only [List.getElem?_toArray, List.getElem?_cons_zero, List.getElem?_cons_succ, Option.elim]; rfl)
                    case hy5as => (simp only [List.getElem?_toArray, List.getElem?_cons_zero, List.getElem?_cons_succ, Option.elim]; intro wx hx; have x0 := (hx trivial).1; have x1 := (hx trivial).2; go_simp; with_reducible rfl)
                    simp only [dstOf, List.getElem?_toArray, List.getElem?_cons_zero, List.getElem?_cons_succ, Option.bind, Act.put, List.setIfInBounds_toArray, List.set_cons_zero, List.set_cons_succ]
                    refine till_take 6 60 false (v := ?v6as) (by kernel_rfl) (by kernel_rfl) (by kernel_rfl) (by kernel_rfl) (by kernel_rfl) (fun _ _ _ h => h) ?hw6as S0 ?hy6as ?rest6as
                    case hw6as => (simp only [List.getElem?_toArray, List.getElem?_cons_zero, List.getElem?_cons_succ, Option.elim]; rfl)
                    case hy6as => (simp only [List.getElem?_toArray, List.getElem?_cons_zero, List.getElem?_cons_succ, Option.elim]; intro wx _; go_simp; with_reducible rfl)
                    simp only [dstOf, List.getElem?_toArray, List.getElem?_cons_zero, List.getElem?_cons_succ, Option.bind, Act.put, List.setIfInBounds_toArray, List.set_cons_zero, List.set_cons_succ]
                    refine till_take 7 60 true (v := ?v7as) (by kernel_rfl) (by kernel_rfl) (by kernel_rfl) (by kernel_rfl) (by kernel_rfl) (fun _ _ _ h => h) ?hw7as S0 ?hy7as ?rest7as
                    case hw7as => (simp only [List.getElem?_toArray, List.getElem?_cons_zero, List.getElem?_cons_succ, Option.elim]; rfl)
                    case hy7as => (simp only [List.getElem?_toArray, List.getElem?_cons_zero, List.getElem?_cons_succ, Option.elim]; intro wx hx; have x0 := (hx trivial).1; have x1 := (hx trivial).2; go_simp; with_reducible rfl)
                    simp only [dstOf, List.getElem?_toArray, List.getElem?_cons_zero, List.getElem?_cons_succ, Option.bind, Act.put, List.setIfInBounds_toArray, List.set_cons_zero, List.set_cons_succ]
                    refine till_step 8 (by kernel_rfl) (by kernel_rfl) (fun K hK => ?_)
                    simp only [List.getElem?_toArray, List.getElem?_cons_zero, List.getElem?_cons_succ, Option.elim]
                    rw [if_pos (by rfl)]
                    go_simp
                    refine hK.out _ _ ?_
                    clear hK K
                    try simp only [Act.put, List.setIfInBounds_toArray, List.set_cons_zero, List.set_cons_succ]
                    refine till_step 9 (by kernel_rfl) (by kernel_rfl) (fun K hK => ?_)
                    simp only [List.getElem?_toArray, List.getElem?_cons_zero, List.getElem?_cons_succ, Option.elim]
                    rw [if_pos (by rfl)]
                    go_simp
                    go_at_call 15
                    refine (H1.out).mono ?_
                    rintro e w7 ⟨rfl, b7⟩
                    refine hK.out _ _ ?_
                    clear hK K
                    try simp only [Act.put, List.setIfInBounds_toArray, List.set_cons_zero, List.set_cons_succ]
                    have B67 := Lib.hid (BAL.out.trans (b7.mono BAL.out.size))
                    have B7 := Lib.hid (B6.out.trans (B67.out.mono B6.out.size))
                    clear b7 H1 S0 S0'
                    have H2 := A.follows_ (n := n) (HM6.out.keep B67.out) (by rw [List.length_append]; simp; omega) HN.out (HU.out.keep B7.out) (by omega)
                    rw [follows_more HRM.out HFT.out] at H2
                    have H2 := Lib.hid H2
                    refine till_late 10 (v := ?v10as) (by kernel_rfl) (by kernel_rfl) (by kernel_rfl) (by kernel_rfl) (fun _ _ _ h => h) (by kernel_rfl) ?hw10as ?hy10as ?rest10as
                    case hw10as => (simp only [List.getElem?_toArray, List.getElem?_cons_zero, List.getElem?_cons_succ, Option.elim]; rfl)
                    case hy10as => (simp only [List.getElem?_toArray, List.getElem?_cons_zero, List.getElem?_cons_succ, Option.elim]; intro wx; go_simp; with_reducible rfl)
                    simp only [dstOf, List.getElem?_toArray, List.getElem?_cons_zero, List.getElem?_cons_succ, Option.bind, Act.put, List.setIfInBounds_toArray, List.set_cons_zero, List.set_cons_succ]
                    refine till_late 11 (v := ?v11as) (by kernel_rfl) (by kernel_rfl) (by kernel_rfl) (by kernel_rfl) (fun _ _ _ h => h) (by kernel_rfl) ?hw11as ?hy11as ?rest11as
                    case hw11as => (simp only [List.getElem?_toArray, List.getElem?_cons_zero, List.getElem?_cons_succ, Option.elim]; rfl)
                    case hy11as => (simp only [List.getElem?_toArray, List.getElem?_cons_zero, List.getElem?_cons_succ, Option.elim]; intro wx; go_simp; with_reducible rfl)
                    simp only [dstOf, List.getElem?_toArray, List.getElem?_cons_zero, List.getElem?_cons_succ, Option.bind, Act.put, List.setIfInBounds_toArray, List.set_cons_zero, List.set_cons_succ]
                    refine till_late 12 (v := ?v12as) (by kernel_rfl) (by kernel_rfl) (by kernel_rfl) (by kernel_rfl) (fun _ _ _ h => h) (by kernel_rfl) ?hw12as ?hy12as ?rest12as
                    case hw12as => (simp only [List.getElem?_toArray, List.getElem?_cons_zero, List.getElem?_cons_succ, Option.elim]; rfl)
                    case hy12as => (simp only [List.getElem?_toArray, List.getElem?_cons_zero, List.getElem?_cons_succ, Option.elim]; intro wx; go_simp; with_reducible rfl)
                    simp only [dstOf, List.getElem?_toArray, List.getElem?_cons_zero, List.getElem?_cons_succ, Option.bind, Act.put, List.setIfInBounds_toArray, List.set_cons_zero, List.set_cons_succ]
                    refine till_late 13 (v := ?v13as) (by kernel_rfl) (by kernel_rfl) (by kernel_rfl) (by kernel_rfl) (fun _ _ _ h => h) (by kernel_rfl) ?hw13as ?hy13as ?rest13as
                    case hw13as => (simp only [List.getElem?_toArray, List.getElem?_cons_zero, List.getElem?_cons_succ, Option.elim]; rfl)
                    case hy13as => (simp only [List.getElem?_toArray, List.getElem?_cons_zero, List.getElem?_cons_succ, Option.elim]; intro wx; go_simp; with_reducible rfl)
                    simp only [dstOf, List.getElem?_toArray, List.getElem?_cons_zero, List.getElem?_cons_succ, Option.bind, Act.put, List.setIfInBounds_toArray, List.set_cons_zero, List.set_cons_succ]
                    refine till_late 14 (v := ?v14as) (by kernel_rfl) (by kernel_rfl) (by kernel_rfl) (by kernel_rfl) (fun _ _ _ h => h) (by kernel_rfl) ?hw14as ?hy14as ?rest14as
                    case hw14as => (simp only [List.getElem?_toArray, List.getElem?_cons_zero, List.getElem?_cons_succ, Option.elim]; rfl)
                    case hy14as => (simp only [List.getElem?_toArray, List.getElem?_cons_zero, List.getElem?_cons_succ, Option.elim]; intro wx; go_simp; with_reducible rfl)
                    simp only [dstOf, List.getElem?_toArray, List.getElem?_cons_zero, List.getElem?_cons_succ, Option.bind, Act.put, List.setIfInBounds_toArray, List.set_cons_zero, List.set_cons_succ]
                    refine till_late 15 (v := ?v15as) (by kernel_rfl) (by kernel_rfl) (by kernel_rfl) (by kernel_rfl) (fun _ _ _ h => h) (by kernel_rfl) ?hw15as ?hy15as ?rest15as
                    case hw15as => (simp only [List.getElem?_toArray, List.getElem?_cons_zero, List.getElem?_cons_succ, Option.elim]; rfl)
                    case hy15as => (simp only [List.getElem?_toArray, List.getElem?_cons_zero, List.getElem?_cons_succ, Option.elim]; intro wx; go_simp; with_reducible rfl)
                    simp only [dstOf, List.getElem?_toArray, List.getElem?_cons_zero, List.getElem?_cons_succ, Option.bind, Act.put, List.setIfInBounds_toArray, List.set_cons_zero, List.set_cons_succ]
                    refine till_late 16 (v := ?v16as) (by kernel_rfl) (by kernel_rfl) (by kernel_rfl) (by kernel_rfl) (fun _ _ _ h => h) (by kernel_rfl) ?hw16as ?hy16as ?rest16as
                    case hw16as => (simp only [List.getElem?_toArray, List.getElem?_cons_zero, List.getElem?_cons_succ, Option.elim]; rfl)
                    case hy16as => (simp only [List.getElem?_toArray, List.getElem?_cons_zero, List.getElem?_cons_succ, Option.elim]; intro wx; go_simp; with_reducible rfl)
                    simp only [dstOf, List.getElem?_toArray, List.getElem?_cons_zero, List.getElem?_cons_succ, Option.bind, Act.put, List.setIfInBounds_toArray, List.set_cons_zero, List.set_cons_succ]
                    refine till_late 17 (v := ?v17as) (by kernel_rfl) (by kernel_rfl) (by kernel_rfl) (by kernel_rfl) (fun _ _ _ h => h) (by kernel_rfl) ?hw17as ?hy17as ?rest17as
                    case hw17as => (simp only [List.getElem?_toArray, List.getElem?_cons_zero, List.getElem?_cons_succ, Option.elim]; rfl)
                    case hy17as => (simp only [List.getElem?_toArray, List.getElem?_cons_zero, List.getElem?_cons_succ, Option.elim]; intro wx; go_simp; with_reducible rfl)
                    simp only [dstOf, List.getElem?_toArray, List.getElem?_cons_zero, List.getElem?_cons_succ, Option.bind, Act.put, List.setIfInBounds_toArray, List.set_cons_zero, List.set_cons_succ]
                    refine till_step 18 (by kernel_rfl) (by kernel_rfl) (fun K hK => ?_)
                    simp only [List.getElem?_toArray, List.getElem?_cons_zero, List.getElem?_cons_succ, Option.elim]
                    rw [if_pos (by rfl)]
                    go_simp
                    go_at_call 15
                    refine (H2.out).mono ?_
                    rintro e w8 ⟨rfl, b8⟩
                    refine hK.out _ _ ?_
                    clear hK K
                    try simp only [Act.put, List.setIfInBounds_toArray, List.set_cons_zero, List.set_cons_succ]
                    have B8 := Lib.hid (B7.out.trans (b8.mono B7.out.size))
                    clear b8 H2
                    have SS := Lib.hid (show ∀ wx, Below w8.heap.size w8 wx → wx.cell? ⟨w.heap.size, 0, none⟩ = some (.int .i64 c.1) from fun wx hx => below_cell D0.out (B8.out.trans (hx.mono B8.out.size)))
                    have S0 := SS.out _ (Below.refl _ _)
                    refine till_late 19 (v := ?v19as) (by kernel_rfl) (by kernel_rfl) (by kernel_rfl) (by kernel_rfl) (fun _ _ _ h => h) (by kernel_rfl) ?hw19as ?hy19as ?rest19as
                    case hw19as => (simp only [List.getElem?_toArray, List.getElem?_cons_zero, List.getElem?_cons_succ, Option.elim]; rfl)
                    case hy19as => (simp only [List.getElem?_toArray, List.getElem?_cons_zero, List.getElem?_cons_succ, Option.elim]; intro wx; go_simp; with_reducible rfl)
                    simp only [dstOf, List.getElem?_toArray, List.getElem?_cons_zero, List.getElem?_cons_succ, Option.bind, Act.put, List.setIfInBounds_toArray, List.set_cons_zero, List.set_cons_succ]
                    refine till_again 28 (fun wx => wx.cell? ⟨w.heap.size, 0, none⟩ = some (.int .i64 c.1)) (by kernel_rfl) ?_
                    refine till_take 20 60 false (v := ?v20as) (by kernel_rfl) (by kernel_rfl) (by kernel_rfl) (by kernel_rfl) (by kernel_rfl) (fun _ _ _ h => h) ?hw20as S0 ?hy20as ?rest20as
                    case hw20as => (simp only [List.getElem?_toArray, List.getElem?_cons_zero, List.getElem?_cons_succ, Option.elim]; rfl)
                    case hy20as => (simp only [List.getElem?_toArray, List.getElem?_cons_zero, List.getElem?_cons_succ, Option.elim]; intro wx _; go_simp; with_reducible rfl)
                    simp only [dstOf, List.getElem?_toArray, List.getElem?_cons_zero, List.getElem?_cons_succ, Option.bind, Act.put, List.setIfInBounds_toArray, List.set_cons_zero, List.set_cons_succ]
                    refine till_take 21 60 false (v := ?v21as) (by kernel_rfl) (by kernel_rfl) (by kernel_rfl) (by kernel_rfl) (by kernel_rfl) (fun _ _ _ h => h) ?hw21as S0 ?hy21as ?rest21as
                    case hw21as => (simp only [List.getElem?_toArray, List.getElem?_cons_zero, List.getElem?_cons_succ, Option.elim]; rfl)
                    case hy21as => (simp only [List.getElem?_toArray, List.getElem?_cons_zero, List.getElem?_cons_succ, Option.elim]; intro wx _; go_simp; with_reducible rfl)
                    simp only [dstOf, List.getElem?_toArray, List.getElem?_cons_zero, List.getElem?_cons_succ, Option.bind, Act.put, List.setIfInBounds_toArray, List.set_cons_zero, List.set_cons_succ]
                    refine till_take 23 60 false (v := ?v23as) (by kernel_rfl) (by kernel_rfl) (by kernel_rfl) (by kernel_rfl) (by kernel_rfl) (fun _ _ _ h => h) ?hw23as S0 ?hy23as ?rest23as
                    case hw23as => (simp only [List.getElem?_toArray, List.getElem?_cons_zero, List.getElem?_cons_succ, Option.elim]; rfl)
                    case hy23as => (simp only [List.getElem?_toArray, List.getElem?_cons_zero, List.getElem?_cons_succ, Option.elim]; intro wx _; go_simp; with_reducible rfl)
                    simp only [dstOf, List.getElem?_toArray, List.getElem?_cons_zero, List.getElem?_cons_succ, Option.bind, Act.put, List.setIfInBounds_toArray, List.set_cons_zero, List.set_cons_succ]
                    refine till_take 25 60 false (v := ?v25as) (by kernel_rfl) (by kernel_rfl) (by kernel_rfl) (by kernel_rfl) (by kernel_rfl) (fun _ _ _ h => h) ?hw25as S0 ?hy25as ?rest25as
                    case hw25as => (simp only [List.getElem?_toArray, List.getElem?_cons_zero, List.getElem?_cons_succ, Option.elim]; rfl)
                    case hy25as => (simp only [List.getElem?_toArray, List.getElem?_cons_zero, List.getElem?_cons_succ, Option.elim]; intro wx _; go_simp; with_reducible rfl)
                    simp only [dstOf, List.getElem?_toArray, List.getElem?_cons_zero, List.getElem?_cons_succ, Option.bind, Act.put, List.setIfInBounds_toArray, List.set_cons_zero, List.set_cons_succ]
                    refine till_take 26 60 true (v := ?v26as) (by kernel_rfl) (by kernel_rfl) (by kernel_rfl) (by kernel_rfl) (by kernel_rfl) (fun _ _ _ h => h) ?hw26as S0 ?hy26as ?rest26as
                    case hw26as => (simp only [List.getElem?_toArray, List.getElem?_cons_zero, List.getElem?_cons_succ, Option.elim]; rfl)
                    case hy26as => (simp only [List.getElem?_toArray, List.getElem?_cons_zero, List.getElem?_cons_succ, Option.elim]; intro wx hx; have x0 := hx trivial; go_simp; with_reducible rfl)
                    simp only [dstOf, List.getElem?_toArray, List.getElem?_cons_zero, List.getElem?_cons_succ, Option.bind, Act.put, List.setIfInBounds_toArray, List.set_cons_zero, List.set_cons_succ]
                    refine till_split 22 27 (by kernel_rfl) ?_ ?_
                    · intro K hK
                      simp only [List.getElem?_toArray, List.getElem?_cons_zero, List.getElem?_cons_succ, Option.elim]
                      rw [if_pos (by rfl)]
                      go_simp
                      refine hK.out _ _ (SS.out _ ((Below.refl w8.heap.size w8).alloc (Nat.le_refl _) (.cells #[] 3))) ?_
                      clear hK K
                      try simp only [Act.put, List.setIfInBounds_toArray, List.set_cons_zero, List.set_cons_succ]
                      have S0 := SS.out _ ((Below.refl w8.heap.size w8).alloc (Nat.le_refl _) (.cells #[] 3))
                      refine till_split 24 27 (by kernel_rfl) ?_ ?_
                      · intro K hK
                        simp only [List.getElem?_toArray, List.getElem?_cons_zero, List.getElem?_cons_succ, Option.elim]
                        rw [if_pos (by rfl)]
                        obtain ⟨ca, cc, w9, r5, o5, b5, n5⟩ := copyN_run (w := w8) (HU.out.keep B8.out) (by omega)
                        have R5 := Lib.hid r5
                        have O5 := Lib.hid o5
                        have N5 := Lib.hid n5
                        have B5 := Lib.hid b5
                        clear r5 o5 n5 b5
                        refine Lib.wp_append_run _ (.tmp 134) (.tmp 135) 24 24 rfl _ _ rfl rfl _ _ R5.out ?_
                        refine hK.out _ _ (SS.out _ B5.out) ?_
                        clear hK K
                        try simp only [Act.put, List.setIfInBounds_toArray, List.set_cons_zero, List.set_cons_succ]
                        clear R5
                        refine till_before 27 (by kernel_rfl) (fun K hK => ?_)
                        simp only [List.getElem?_toArray, List.getElem?_cons_zero, List.getElem?_cons_succ, Option.elim]
                        rw [if_pos (by rfl)]
                        go_simp
                        refine hK.out _ _ (SS.out _ (B5.out.trans (((Below.refl w9.heap.size w9).alloc (Nat.le_refl _) (.cells #[.int .i64 c.1] 3)).mono B5.out.size))) ?_
                        clear hK K
                        try simp only [Act.put, List.setIfInBounds_toArray, List.set_cons_zero, List.set_cons_succ]
                        refine till_step 28 (by kernel_rfl) (by kernel_rfl) (fun K hK => ?_)
                        simp only [List.getElem?_toArray, List.getElem?_cons_zero, List.getElem?_cons_succ, Option.elim]
                        rw [if_pos (by rfl)]
                        obtain ⟨ea, ec, w10, r6, h6, b6⟩ := snocN_run B5.out O5.out N5.out c.1 (by omega)
                        have R6 := Lib.hid r6
                        have H6 := Lib.hid h6
                        have B10 := Lib.hid b6
                        clear r6 h6 b6
                        refine Lib.wp_append_run _ (.tmp 136) (.tmp 139) 24 24 rfl _ _ rfl rfl _ _ R6.out ?_
                        refine hK.out _ _ ?_
                        clear hK K
                        try simp only [Act.put, List.setIfInBounds_toArray, List.set_cons_zero, List.set_cons_succ]
                        have H3 := A.follows_ (n := n) (HV.out.keep (B8.out.trans (B10.out.mono B8.out.size))) (by omega) HN.out H6.out (by rw [List.length_append]; simp; omega)
                        rw [follows_lit HFT.out HCI.out.1] at H3
                        have H3 := Lib.hid H3
                        refine till_step 29 (by kernel_rfl) (by kernel_rfl) (fun K hK => ?_)
                        simp only [List.getElem?_toArray, List.getElem?_cons_zero, List.getElem?_cons_succ, Option.elim]
                        rw [if_pos (by rfl)]
                        go_simp
                        go_at_call 15
                        refine (H3.out).mono ?_
                        rintro e w11 ⟨rfl, b11⟩
                        refine hK.out _ _ ?_
                        clear hK K
                        try simp only [Act.put, List.setIfInBounds_toArray, List.set_cons_zero, List.set_cons_succ]
                        refine till_late 30 (v := ?v30asA1) (by kernel_rfl) (by kernel_rfl) (by kernel_rfl) (by kernel_rfl) (fun _ _ _ h => h) (by kernel_rfl) ?hw30asA1 ?hy30asA1 ?rest30asA1
                        case hw30asA1 => (simp only [List.getElem?_toArray, List.getElem?_cons_zero, List.getElem?_cons_succ, Option.elim]; rfl)
                        case hy30asA1 => (simp only [List.getElem?_toArray, List.getElem?_cons_zero, List.getElem?_cons_succ, Option.elim]; intro wx; go_simp; with_reducible rfl)
                        simp only [dstOf, List.getElem?_toArray, List.getElem?_cons_zero, List.getElem?_cons_succ, Option.bind, Act.put, List.setIfInBounds_toArray, List.set_cons_zero, List.set_cons_succ]
                        refine till_late 31 (v := ?v31asA1) (by kernel_rfl) (by kernel_rfl) (by kernel_rfl) (by kernel_rfl) (fun _ _ _ h => h) (by kernel_rfl) ?hw31asA1 ?hy31asA1 ?rest31asA1
                        case hw31asA1 => (simp only [List.getElem?_toArray, List.getElem?_cons_zero, List.getElem?_cons_succ, Option.elim]; rfl)
                        case hy31asA1 => (simp only [List.getElem?_toArray, List.getElem?_cons_zero, List.getElem?_cons_succ, Option.elim]; intro wx; go_simp; with_reducible rfl)
                        simp only [dstOf, List.getElem?_toArray, List.getElem?_cons_zero, List.getElem?_cons_succ, Option.bind, Act.put, List.setIfInBounds_toArray, List.set_cons_zero, List.set_cons_succ]
                        refine till_late 32 (v := ?v32asA1) (by kernel_rfl) (by kernel_rfl) (by kernel_rfl) (by kernel_rfl) (fun _ _ _ h => h) (by kernel_rfl) ?hw32asA1 ?hy32asA1 ?rest32asA1
                        case hw32asA1 => (simp only [List.getElem?_toArray, List.getElem?_cons_zero, List.getElem?_cons_succ, Option.elim]; rfl)
                        case hy32asA1 => (simp only [List.getElem?_toArray, List.getElem?_cons_zero, List.getElem?_cons_succ, Option.elim]; intro wx; go_simp; with_reducible rfl)
                        simp only [dstOf, List.getElem?_toArray, List.getElem?_cons_zero, List.getElem?_cons_succ, Option.bind, Act.put, List.setIfInBounds_toArray, List.set_cons_zero, List.set_cons_succ]
                        refine till_late 33 (v := ?v33asA1) (by kernel_rfl) (by kernel_rfl) (by kernel_rfl) (by kernel_rfl) (fun _ _ _ h => h) (by kernel_rfl) ?hw33asA1 ?hy33asA1 ?rest33asA1
                        case hw33asA1 => (simp only [List.getElem?_toArray, List.getElem?_cons_zero, List.getElem?_cons_succ, Option.elim]; rfl)
                        case hy33asA1 => (simp only [List.getElem?_toArray, List.getElem?_cons_zero, List.getElem?_cons_succ, Option.elim]; intro wx; go_simp; with_reducible rfl)
                        simp only [dstOf, List.getElem?_toArray, List.getElem?_cons_zero, List.getElem?_cons_succ, Option.bind, Act.put, List.setIfInBounds_toArray, List.set_cons_zero, List.set_cons_succ]
                        refine till_end (by kernel_rfl) ?_ _
                        go_wp2
                        go_ret
                        exact ⟨rfl, B1.out.trans ((B8.out.trans ((B10.out.trans (b11.mono B10.out.size)).mono B8.out.size)).mono B1.out.size)⟩
                      · intro K hK
                        simp only [List.getElem?_toArray, List.getElem?_cons_zero, List.getElem?_cons_succ, Option.elim]
                        rw [if_pos (by rfl)]
                        have hal := ((Below.refl w8.heap.size w8).alloc (Nat.le_refl _) (.cells #[] 3)).trans (((Below.refl (w8.alloc (.cells #[] 3)).heap.size (w8.alloc (.cells #[] 3))).alloc (Nat.le_refl _) (.cells #[.int .i64 c.1] 3)).mono (by simp))
                        go_simp
                        refine hK.out _ _ (SS.out _ hal) ?_
                        clear hK K
                        try simp only [Act.put, List.setIfInBounds_toArray, List.set_cons_zero, List.set_cons_succ]
                        obtain ⟨a, cp, w9, ea, ec, w10, r5, r6, h6, b5, b6⟩ := appN_between (w := w8) c.1 (HU.out.keep B8.out) (by omega)
                        have R5 := Lib.hid r5
                        have R6 := Lib.hid r6
                        have H6 := Lib.hid h6
                        have B9 := Lib.hid b5
                        have B10 := Lib.hid b6
                        clear r5 r6 h6 b5 b6
                        refine till_before 24 (by kernel_rfl) (fun K hK => ?_)
                        simp only [List.getElem?_toArray, List.getElem?_cons_zero, List.getElem?_cons_succ, Option.elim]
                        rw [if_pos (by rfl)]
                        refine Lib.wp_append_run _ (.tmp 134) (.tmp 135) 24 24 rfl _ _ rfl rfl _ _ R5.out ?_
                        refine hK.out _ _ (SS.out _ B9.out) ?_
                        clear hK K
                        try simp only [Act.put, List.setIfInBounds_toArray, List.set_cons_zero, List.set_cons_succ]
                        refine till_step 28 (by kernel_rfl) (by kernel_rfl) (fun K hK => ?_)
                        simp only [List.getElem?_toArray, List.getElem?_cons_zero, List.getElem?_cons_succ, Option.elim]
                        rw [if_pos (by rfl)]
                        refine Lib.wp_append_run _ (.tmp 136) (.tmp 139) 24 24 rfl _ _ rfl rfl _ _ R6.out ?_
                        refine hK.out _ _ ?_
                        clear hK K
                        try simp only [Act.put, List.setIfInBounds_toArray, List.set_cons_zero, List.set_cons_succ]
                        have H3 := A.follows_ (n := n) (HV.out.keep (B8.out.trans (B10.out.mono B8.out.size))) (by omega) HN.out H6.out (by rw [List.length_append]; simp; omega)
                        rw [follows_lit HFT.out HCI.out.1] at H3
                        have H3 := Lib.hid H3
                        refine till_step 29 (by kernel_rfl) (by kernel_rfl) (fun K hK => ?_)
                        simp only [List.getElem?_toArray, List.getElem?_cons_zero, List.getElem?_cons_succ, Option.elim]
                        rw [if_pos (by rfl)]
                        go_simp
                        go_at_call 15
                        refine (H3.out).mono ?_
                        rintro e w11 ⟨rfl, b11⟩
                        refine hK.out _ _ ?_
                        clear hK K
                        try simp only [Act.put, List.setIfInBounds_toArray, List.set_cons_zero, List.set_cons_succ]
                        refine till_late 30 (v := ?v30asA2) (by kernel_rfl) (by kernel_rfl) (by kernel_rfl) (by kernel_rfl) (fun _ _ _ h => h) (by kernel_rfl) ?hw30asA2 ?hy30asA2 ?rest30asA2
                        case hw30asA2 => (simp only [List.getElem?_toArray, List.getElem?_cons_zero, List.getElem?_cons_succ, Option.elim]; rfl)
                        case hy30asA2 => (simp only [List.getElem?_toArray, List.getElem?_cons_zero, List.getElem?_cons_succ, Option.elim]; intro wx; go_simp; with_reducible rfl)
                        simp only [dstOf, List.getElem?_toArray, List.getElem?_cons_zero, List.getElem?_cons_succ, Option.bind, Act.put, List.setIfInBounds_toArray, List.set_cons_zero, List.set_cons_succ]
                        refine till_late 31 (v := ?v31asA2) (by kernel_rfl) (by kernel_rfl) (by kernel_rfl) (by kernel_rfl) (fun _ _ _ h => h) (by kernel_rfl) ?hw31asA2 ?hy31asA2 ?rest31asA2
                        case hw31asA2 => (simp only [List.getElem?_toArray, List.getElem?_cons_zero, List.getElem?_cons_succ, Option.elim]; rfl)
                        case hy31asA2 => (simp only [List.getElem?_toArray, List.getElem?_cons_zero, List.getElem?_cons_succ, Option.elim]; intro wx; go_simp; with_reducible rfl)
                        simp only [dstOf, List.getElem?_toArray, List.getElem?_cons_zero, List.getElem?_cons_succ, Option.bind, Act.put, List.setIfInBounds_toArray, List.set_cons_zero, List.set_cons_succ]
                        refine till_late 32 (v := ?v32asA2) (by kernel_rfl) (by kernel_rfl) (by kernel_rfl) (by kernel_rfl) (fun _ _ _ h => h) (by kernel_rfl) ?hw32asA2 ?hy32asA2 ?rest32asA2
                        case hw32asA2 => (simp only [List.getElem?_toArray, List.getElem?_cons_zero, List.getElem?_cons_succ, Option.elim]; rfl)
                        case hy32asA2 => (simp only [List.getElem?_toArray, List.getElem?_cons_zero, List.getElem?_cons_succ, Option.elim]; intro wx; go_simp; with_reducible rfl)
                        simp only [dstOf, List.getElem?_toArray, List.getElem?_cons_zero, List.getElem?_cons_succ, Option.bind, Act.put, List.setIfInBounds_toArray, List.set_cons_zero, List.set_cons_succ]
                        refine till_late 33 (v := ?v33asA2) (by kernel_rfl) (by kernel_rfl) (by kernel_rfl) (by kernel_rfl) (fun _ _ _ h => h) (by kernel_rfl) ?hw33asA2 ?hy33asA2 ?rest33asA2
                        case hw33asA2 => (simp only [List.getElem?_toArray, List.getElem?_cons_zero, List.getElem?_cons_succ, Option.elim]; rfl)
                        case hy33asA2 => (simp only [List.getElem?_toArray, List.getElem?_cons_zero, List.getElem?_cons_succ, Option.elim]; intro wx; go_simp; with_reducible rfl)
                        simp only [dstOf, List.getElem?_toArray, List.getElem?_cons_zero, List.getElem?_cons_succ, Option.bind, Act.put, List.setIfInBounds_toArray, List.set_cons_zero, List.set_cons_succ]
                        refine till_end (by kernel_rfl) ?_ _
                        go_wp2
                        go_ret
                        exact ⟨rfl, B1.out.trans ((B8.out.trans ((B10.out.trans (b11.mono B10.out.size)).mono B8.out.size)).mono B1.out.size)⟩
                    · intro K hK
                      simp only [List.getElem?_toArray, List.getElem?_cons_zero, List.getElem?_cons_succ, Option.elim]
                      rw [if_pos (by rfl)]
                      go_simp
                      refine hK.out _ _ (SS.out _ ((Below.refl w8.heap.size w8).alloc (Nat.le_refl _) (.cells #[.int .i64 c.1] 3))) ?_
                      clear hK K
                      try simp only [Act.put, List.setIfInBounds_toArray, List.set_cons_zero, List.set_cons_succ]
                      obtain ⟨a, cp, w9, ea, ec, w10, r5, r6, h6, b5, b6⟩ := appN_before (w := w8) c.1 (HU.out.keep B8.out) (by omega)
                      have R5 := Lib.hid r5
                      have R6 := Lib.hid r6
                      have H6 := Lib.hid h6
                      have B9 := Lib.hid b5
                      have B10 := Lib.hid b6
                      clear r5 r6 h6 b5 b6
                      refine till_before 22 (by kernel_rfl) (fun K hK => ?_)
                      simp only [List.getElem?_toArray, List.getElem?_cons_zero, List.getElem?_cons_succ, Option.elim]
                      rw [if_pos (by rfl)]
                      go_simp
                      refine hK.out _ _ (SS.out _ (((Below.refl w8.heap.size w8).alloc (Nat.le_refl _) (.cells #[.int .i64 c.1] 3)).trans (((Below.refl (w8.alloc (.cells #[.int .i64 c.1] 3)).heap.size (w8.alloc (.cells #[.int .i64 c.1] 3))).alloc (Nat.le_refl _) (.cells #[] 3)).mono (by simp)))) ?_
                      clear hK K
                      try simp only [Act.put, List.setIfInBounds_toArray, List.set_cons_zero, List.set_cons_succ]
                      refine till_before 24 (by kernel_rfl) (fun K hK => ?_)
                      simp only [List.getElem?_toArray, List.getElem?_cons_zero, List.getElem?_cons_succ, Option.elim]
                      rw [if_pos (by rfl)]
                      refine Lib.wp_append_run _ (.tmp 134) (.tmp 135) 24 24 rfl _ _ rfl rfl _ _ R5.out ?_
                      refine hK.out _ _ (SS.out _ B9.out) ?_
                      clear hK K
                      try simp only [Act.put, List.setIfInBounds_toArray, List.set_cons_zero, List.set_cons_succ]
                      refine till_step 28 (by kernel_rfl) (by kernel_rfl) (fun K hK => ?_)
                      simp only [List.getElem?_toArray, List.getElem?_cons_zero, List.getElem?_cons_succ, Option.elim]
                      rw [if_pos (by rfl)]
                      refine Lib.wp_append_run _ (.tmp 136) (.tmp 139) 24 24 rfl _ _ rfl rfl _ _ R6.out ?_
                      refine hK.out _ _ ?_
                      clear hK K
                      try simp only [Act.put, List.setIfInBounds_toArray, List.set_cons_zero, List.set_cons_succ]
                      have H3 := A.follows_ (n := n) (HV.out.keep (B8.out.trans (B10.out.mono B8.out.size))) (by omega) HN.out H6.out (by rw [List.length_append]; simp; omega)
                      rw [follows_lit HFT.out HCI.out.1] at H3
                      have H3 := Lib.hid H3
                      refine till_step 29 (by kernel_rfl) (by kernel_rfl) (fun K hK => ?_)
                      simp only [List.getElem?_toArray, List.getElem?_cons_zero, List.getElem?_cons_succ, Option.elim]
                      rw [if_pos (by rfl)]
                      go_simp
                      go_at_call 15
                      refine (H3.out).mono ?_
                      rintro e w11 ⟨rfl, b11⟩
                      refine hK.out _ _ ?_
                      clear hK K
                      try simp only [Act.put, List.setIfInBounds_toArray, List.set_cons_zero, List.set_cons_succ]
                      refine till_late 30 (v := ?v30asB) (by kernel_rfl) (by kernel_rfl) (by kernel_rfl) (by kernel_rfl) (fun _ _ _ h => h) (by kernel_rfl) ?hw30asB ?hy30asB ?rest30asB
                      case hw30asB => (simp only [List.getElem?_toArray, List.getElem?_cons_zero, List.getElem?_cons_succ, Option.elim]; rfl)
                      case hy30asB => (simp only [List.getElem?_toArray, List.getElem?_cons_zero, List.getElem?_cons_succ, Option.elim]; intro wx; go_simp; with_reducible rfl)
                      simp only [dstOf, List.getElem?_toArray, List.getElem?_cons_zero, List.getElem?_cons_succ, Option.bind, Act.put, List.setIfInBounds_toArray, List.set_cons_zero, List.set_cons_succ]
                      refine till_late 31 (v := ?v31asB) (by kernel_rfl) (by kernel_rfl) (by kernel_rfl) (by kernel_rfl) (fun _ _ _ h => h) (by kernel_rfl) ?hw31asB ?hy31asB ?rest31asB
                      case hw31asB => (simp only [List.getElem?_toArray, List.getElem?_cons_zero, List.getElem?_cons_succ, Option.elim]; rfl)
                      case hy31asB => (simp only [List.getElem?_toArray, List.getElem?_cons_zero, List.getElem?_cons_succ, Option.elim]; intro wx; go_simp; with_reducible rfl)
                      simp only [dstOf, List.getElem?_toArray, List.getElem?_cons_zero, List.getElem?_cons_succ, Option.bind, Act.put, List.setIfInBounds_toArray, List.set_cons_zero, List.set_cons_succ]
                      refine till_late 32 (v := ?v32asB) (by kernel_rfl) (by kernel_rfl) (by kernel_rfl) (by kernel_rfl) (fun _ _ _ h => h) (by kernel_rfl) ?hw32asB ?hy32asB ?rest32asB
                      case hw32asB => (simp only [List.getElem?_toArray, List.getElem?_cons_zero, List.getElem?_cons_succ, Option.elim]; rfl)
                      case hy32asB => (simp only [List.getElem?_toArray, List.getElem?_cons_zero, List.getElem?_cons_succ, Option.elim]; intro wx; go_simp; with_reducible rfl)
                      simp only [dstOf, List.getElem?_toArray, List.getElem?_cons_zero, List.getElem?_cons_succ, Option.bind, Act.put, List.setIfInBounds_toArray, List.set_cons_zero, List.set_cons_succ]
                      refine till_late 33 (v := ?v33asB) (by kernel_rfl) (by kernel_rfl) (by kernel_rfl) (by kernel_rfl) (fun _ _ _ h => h) (by kernel_rfl) ?hw33asB ?hy33asB ?rest33asB
                      case hw33asB => (simp only [List.getElem?_toArray, List.getElem?_cons_zero, List.getElem?_cons_succ, Option.elim]; rfl)
                      case hy33asB => (simp only [List.getElem?_toArray, List.getElem?_cons_zero, List.getElem?_cons_succ, Option.elim]; intro wx; go_simp; with_reducible rfl)
                      simp only [dstOf, List.getElem?_toArray, List.getElem?_cons_zero, List.getElem?_cons_succ, Option.bind, Act.put, List.setIfInBounds_toArray, List.set_cons_zero, List.set_cons_succ]
                      refine till_end (by kernel_rfl) ?_ _
                      go_wp2
                      go_ret
                      exact ⟨rfl, B1.out.trans ((B8.out.trans ((B10.out.trans (b11.mono B10.out.size)).mono B8.out.size)).mono B1.out.size)⟩
                | false =>
                  have hcan : St.Can L n := Classical.byContradiction fun q => (by have := hfc.2 q; cases this)
                  have HCAN := Lib.hid hcan
                  have HS := Lib.hid (A.solve_ HCL.out (by omega) HN.out)
                  clear hfc hli hcan
                  go_wp2_with (go_at_call 17; refine (HS.out).mono ?_; rintro e we ⟨ra, rcx, sv, cs, er, rfl, -, -, b9, hsol⟩; refine Hid.out ?_)
                  refine Lib.hid ?_
                  have HE := Lib.hid (HBM.out.trans (b9.mono HBM.out.size))
                  have her : er = 0 := by
                    rcases hsol with ⟨hno, _⟩ | ⟨_, _, h⟩ | ⟨_, hno, _⟩
                    · rw [hrL] at hno; cases hno
                    · exact h
                    · exact (hno HCAN.out).elim
                  subst her
                  clear b9 HS hsol hrL
                  go_upto_region 16 with fail
                  go_cut [17] from 106 to 111 (fun v wx => ∃ ea ec, v = .slice ea (l.length + 1) ec ∧ Hid (ClAt wx v (l ++ [c])) ∧ Hid (Below w1.heap.size w1 wx))
                  case first =>
                    have SS := Lib.hid (show ∀ wx, Below w1.heap.size w1 wx → wx.cell? ⟨w.heap.size, 0, none⟩ = some (.int .i64 c.1) ∧ wx.cell? ⟨w.heap.size, 1, none⟩ = some (.int .i64 c.2) from fun wx hx => ⟨below_cell D0.out hx, below_cell D1.out hx⟩)
                    have HD := Lib.hid (HE.out.trans ((below_drew we).mono HE.out.size))
                    have S0 := SS.out _ HD.out
                    refine region_till 5 (fun wx => wx.cell? ⟨w.heap.size, 0, none⟩ = some (.int .i64 c.1) ∧ wx.cell? ⟨w.heap.size, 1, none⟩ = some (.int .i64 c.2)) (by kernel_rfl) ?_
                    refine till_take 1 60 false (v := ?v1bp) (by kernel_rfl) (by kernel_rfl) (by kernel_rfl) (by kernel_rfl) (by kernel_rfl) (fun _ _ _ h => h) ?hw1bp S0 ?hy1bp ?rest1bp
                    case hw1bp => (simp only [List.getElem?_toArray, List.getElem?_cons_zero, List.getElem?_cons_succ, Option.elim]; rfl)
                    case hy1bp => (simp only [List.getElem?_toArray, List.getElem?_cons_zero, List.getElem?_cons_succ, Option.elim]; intro wx _; go_simp; with_reducible rfl)
                    simp only [dstOf, List.getElem?_toArray, List.getElem?_cons_zero, List.getElem?_cons_succ, Option.bind, Act.put, List.setIfInBounds_toArray, List.set_cons_zero, List.set_cons_succ]
                    refine till_take 3 60 true (v := ?v3bp) (by kernel_rfl) (by kernel_rfl) (by kernel_rfl) (by kernel_rfl) (by kernel_rfl) (fun _ _ _ h => h) ?hw3bp S0 ?hy3bp ?rest3bp
                    case hw3bp => (simp only [List.getElem?_toArray, List.getElem?_cons_zero, List.getElem?_cons_succ, Option.elim]; rfl)
                    case hy3bp => (simp only [List.getElem?_toArray, List.getElem?_cons_zero, List.getElem?_cons_succ, Option.elim]; intro wx hx; have x0 := (hx trivial).1; have x1 := (hx trivial).2; go_simp; with_reducible rfl)
                    simp only [dstOf, List.getElem?_toArray, List.getElem?_cons_zero, List.getElem?_cons_succ, Option.bind, Act.put, List.setIfInBounds_toArray, List.set_cons_zero, List.set_cons_succ]
                    refine till_split 0 4 (by kernel_rfl) ?_ ?_
                    · intro K hK
                      simp only [List.getElem?_toArray, List.getElem?_cons_zero, Option.elim]
                      rw [if_pos (by rfl)]
                      go_simp
                      refine hK.out _ _ (SS.out _ (HD.out.trans (((Below.refl we.drew.heap.size we.drew).alloc (Nat.le_refl _) (.cells #[] 40)).mono HD.out.size))) ?_
                      clear hK K
                      try simp only [Act.put, List.setIfInBounds_toArray, List.set_cons_zero, List.set_cons_succ]
                      have S0 := SS.out _ (HD.out.trans (((Below.refl we.drew.heap.size we.drew).alloc (Nat.le_refl _) (.cells #[] 40)).mono HD.out.size))
                      refine till_split 2 4 (by kernel_rfl) ?_ ?_
                      · intro K hK
                        simp only [List.getElem?_toArray, List.getElem?_cons_zero, List.getElem?_cons_succ, Option.elim]
                        rw [if_pos (by rfl)]
                        obtain ⟨ca, cc, w5, r5, o5, b5, n5⟩ := copyC_run (w := we.drew) (HV.out.keep HD.out) (by omega)
                        have R5 := Lib.hid r5
                        have O5 := Lib.hid o5
                        have N5 := Lib.hid n5
                        have B5 := Lib.hid b5
                        clear r5 o5 n5
                        refine Lib.wp_append_run _ (.tmp 106) (.tmp 107) 22 22 rfl _ _ rfl rfl _ _ R5.out ?_
                        refine hK.out _ _ (SS.out _ (HD.out.trans (b5.mono HD.out.size))) ?_
                        clear hK K
                        try simp only [Act.put, List.setIfInBounds_toArray, List.set_cons_zero, List.set_cons_succ]
                        clear R5
                        refine till_before 4 (by kernel_rfl) (fun K hK => ?_)
                        simp only [List.getElem?_toArray, List.getElem?_cons_zero, List.getElem?_cons_succ, Option.elim]
                        rw [if_pos (by rfl)]
                        go_simp
                        refine hK.out _ _ (SS.out _ (HD.out.trans ((b5.trans (((Below.refl w5.heap.size w5).alloc (Nat.le_refl _) (.cells #[.int .i64 c.1, .int .i64 c.2] 40)).mono b5.size)).mono HD.out.size))) ?_
                        clear hK K
                        try simp only [Act.put, List.setIfInBounds_toArray, List.set_cons_zero, List.set_cons_succ]
                        refine till_step 5 (by kernel_rfl) (by kernel_rfl) (fun K hK => ?_)
                        simp only [List.getElem?_toArray, List.getElem?_cons_zero, List.getElem?_cons_succ, Option.elim]
                        rw [if_pos (by rfl)]
                        obtain ⟨ea, ec, w6, r6, o6, b6, n6⟩ := snocC_run B5.out O5.out N5.out c (by omega)
                        have R6 := Lib.hid r6
                        clear r6
                        refine Lib.wp_append_run _ (.tmp 108) (.tmp 110) 22 22 rfl _ _ rfl rfl _ _ R6.out ?_
                        refine hK.out _ _ ?_
                        clear hK K
                        try simp only [Act.put, List.setIfInBounds_toArray, List.set_cons_zero, List.set_cons_succ]
                        refine till_step 6 (by kernel_rfl) (by kernel_rfl) (fun K hK => ?_)
                        simp only [List.getElem?_toArray, List.getElem?_cons_zero, List.getElem?_cons_succ, Option.elim]
                        rw [if_pos (by rfl)]
                        go_simp
                        refine hK.out _ _ ?_
                        clear hK K
                        try simp only [Act.put, List.setIfInBounds_toArray, List.set_cons_zero, List.set_cons_succ]
                        refine till_end (by kernel_rfl) ?_ _
                        go_wp2
                        go_meet
                        exact ⟨_, _, rfl, Lib.hid (ClAt.of_own o6), Lib.hid (HD.out.trans (b6.mono HD.out.size))⟩
                      · intro K hK
                        simp only [List.getElem?_toArray, List.getElem?_cons_zero, List.getElem?_cons_succ, Option.elim]
                        rw [if_pos (by rfl)]
                        have hal := ((Below.refl we.drew.heap.size we.drew).alloc (Nat.le_refl _) (.cells #[] 40)).trans (((Below.refl (we.drew.alloc (.cells #[] 40)).heap.size (we.drew.alloc (.cells #[] 40))).alloc (Nat.le_refl _) (.cells #[.int .i64 c.1, .int .i64 c.2] 40)).mono (by simp))
                        go_simp
                        refine hK.out _ _ (SS.out _ (HD.out.trans (hal.mono HD.out.size))) ?_
                        clear hK K
                        try simp only [Act.put, List.setIfInBounds_toArray, List.set_cons_zero, List.set_cons_succ]
                        obtain ⟨a, cp, w5, ea, ec, w6, r5, r6, h6, b5, b6⟩ := app_between (w := we.drew) c (HV.out.keep HD.out) (by omega)
                        have R5 := Lib.hid r5
                        have R6 := Lib.hid r6
                        have H6 := Lib.hid h6
                        have B5 := Lib.hid b5
                        have B6 := Lib.hid b6
                        clear r5 r6 h6 b5 b6
                        refine till_before 2 (by kernel_rfl) (fun K hK => ?_)
                        simp only [List.getElem?_toArray, List.getElem?_cons_zero, List.getElem?_cons_succ, Option.elim]
                        rw [if_pos (by rfl)]
                        refine Lib.wp_append_run _ (.tmp 106) (.tmp 107) 22 22 rfl _ _ rfl rfl _ _ R5.out ?_
                        refine hK.out _ _ (SS.out _ (HD.out.trans (B5.out.mono HD.out.size))) ?_
                        clear hK K
                        try simp only [Act.put, List.setIfInBounds_toArray, List.set_cons_zero, List.set_cons_succ]
                        refine till_step 5 (by kernel_rfl) (by kernel_rfl) (fun K hK => ?_)
                        simp only [List.getElem?_toArray, List.getElem?_cons_zero, List.getElem?_cons_succ, Option.elim]
                        rw [if_pos (by rfl)]
                        refine Lib.wp_append_run _ (.tmp 108) (.tmp 110) 22 22 rfl _ _ rfl rfl _ _ R6.out ?_
                        refine hK.out _ _ ?_
                        clear hK K
                        try simp only [Act.put, List.setIfInBounds_toArray, List.set_cons_zero, List.set_cons_succ]
                        refine till_step 6 (by kernel_rfl) (by kernel_rfl) (fun K hK => ?_)
                        simp only [List.getElem?_toArray, List.getElem?_cons_zero, List.getElem?_cons_succ, Option.elim]
                        rw [if_pos (by rfl)]
                        go_simp
                        refine hK.out _ _ ?_
                        clear hK K
                        try simp only [Act.put, List.setIfInBounds_toArray, List.set_cons_zero, List.set_cons_succ]
                        refine till_end (by kernel_rfl) ?_ _
                        go_wp2
                        go_meet
                        exact ⟨_, _, rfl, H6, Lib.hid (HD.out.trans (B6.out.mono HD.out.size))⟩
                    · intro K hK
                      simp only [List.getElem?_toArray, List.getElem?_cons_zero, List.getElem?_cons_succ, Option.elim]
                      rw [if_pos (by rfl)]
                      go_simp
                      refine hK.out _ _ (SS.out _ (HD.out.trans (((Below.refl we.drew.heap.size we.drew).alloc (Nat.le_refl _) (.cells #[.int .i64 c.1, .int .i64 c.2] 40)).mono HD.out.size))) ?_
                      clear hK K
                      try simp only [Act.put, List.setIfInBounds_toArray, List.set_cons_zero, List.set_cons_succ]
                      obtain ⟨a, cp, w5, ea, ec, w6, r5, r6, h6, b5, b6⟩ := app_before (w := we.drew) c (HV.out.keep HD.out) (by omega)
                      have R5 := Lib.hid r5
                      have R6 := Lib.hid r6
                      have H6 := Lib.hid h6
                      have B5 := Lib.hid b5
                      have B6 := Lib.hid b6
                      clear r5 r6 h6 b5 b6
                      refine till_before 0 (by kernel_rfl) (fun K hK => ?_)
                      simp only [List.getElem?_toArray, List.getElem?_cons_zero, Option.elim]
                      rw [if_pos (by rfl)]
                      go_simp
                      refine hK.out _ _ (SS.out _ (HD.out.trans ((((Below.refl we.drew.heap.size we.drew).alloc (Nat.le_refl _) (.cells #[.int .i64 c.1, .int .i64 c.2] 40)).trans (((Below.refl (we.drew.alloc (.cells #[.int .i64 c.1, .int .i64 c.2] 40)).heap.size (we.drew.alloc (.cells #[.int .i64 c.1, .int .i64 c.2] 40))).alloc (Nat.le_refl _) (.cells #[] 40)).mono (by simp))).mono HD.out.size))) ?_
                      clear hK K
                      try simp only [Act.put, List.setIfInBounds_toArray, List.set_cons_zero, List.set_cons_succ]
                      refine till_before 2 (by kernel_rfl) (fun K hK => ?_)
                      simp only [List.getElem?_toArray, List.getElem?_cons_zero, List.getElem?_cons_succ, Option.elim]
                      rw [if_pos (by rfl)]
                      refine Lib.wp_append_run _ (.tmp 106) (.tmp 107) 22 22 rfl _ _ rfl rfl _ _ R5.out ?_
                      refine hK.out _ _ (SS.out _ (HD.out.trans (B5.out.mono HD.out.size))) ?_
                      clear hK K
                      try simp only [Act.put, List.setIfInBounds_toArray, List.set_cons_zero, List.set_cons_succ]
                      refine till_step 5 (by kernel_rfl) (by kernel_rfl) (fun K hK => ?_)
                      simp only [List.getElem?_toArray, List.getElem?_cons_zero, List.getElem?_cons_succ, Option.elim]
                      rw [if_pos (by rfl)]
                      refine Lib.wp_append_run _ (.tmp 108) (.tmp 110) 22 22 rfl _ _ rfl rfl _ _ R6.out ?_
                      refine hK.out _ _ ?_
                      clear hK K
                      try simp only [Act.put, List.setIfInBounds_toArray, List.set_cons_zero, List.set_cons_succ]
                      refine till_step 6 (by kernel_rfl) (by kernel_rfl) (fun K hK => ?_)
                      simp only [List.getElem?_toArray, List.getElem?_cons_zero, List.getElem?_cons_succ, Option.elim]
                      rw [if_pos (by rfl)]
                      go_simp
                      refine hK.out _ _ ?_
                      clear hK K
                      try simp only [Act.put, List.setIfInBounds_toArray, List.set_cons_zero, List.set_cons_succ]
                      refine till_end (by kernel_rfl) ?_ _
                      go_wp2
                      go_meet
                      exact ⟨_, _, rfl, H6, Lib.hid (HD.out.trans (B6.out.mono HD.out.size))⟩
                  case rest =>
                    obtain ⟨ea, ec, rfl, HM6, B6⟩ := hcut
                    clear HE
                    generalize wc = w6 at HM6 B6 ⊢
                    have S0 := And.intro (below_cell (below_cell D0.out B6.out) (below_drew w6)) (below_cell (below_cell D1.out B6.out) (below_drew w6))
                    have bal := (below_drew w6).trans ((Below.refl w6.drew.heap.size w6.drew).alloc (Nat.le_refl _) (.cells #[.int .i64 c.1, .int .i64 c.2] 3))
                    have BAL := Lib.hid bal
                    have H1 := A.follows_ (n := n) (HM6.out.keep bal) (by rw [List.length_append]; simp; omega) HN.out (nums_lit w6.drew [c.1, c.2] (by simp)) (by simp)
                    rw [follows_clause HRM.out] at H1
                    have H1 := Lib.hid H1
                    clear bal
                    go_wp2
                    refine region_till 8 (fun wx => wx.cell? ⟨w.heap.size, 0, none⟩ = some (.int .i64 c.1) ∧ wx.cell? ⟨w.heap.size, 1, none⟩ = some (.int .i64 c.2)) (by kernel_rfl) ?_
                    refine till_take 0 60 false (v := ?v0bs) (by kernel_rfl) (by kernel_rfl) (by kernel_rfl) (by kernel_rfl) (by kernel_rfl) (fun _ _ _ h => h) ?hw0bs S0 ?hy0bs ?rest0bs
                    case hw0bs => (simp only [List.getElem?_toArray, List.getElem?_cons_zero, Option.elim]; rfl)
                    case hy0bs => (simp only [List.getElem?_toArray, List.getElem?_cons_zero, Option.elim]; intro wx _; go_simp; with_reducible rfl)
                    simp only [dstOf, List.getElem?_toArray, List.getElem?_cons_zero, Option.bind, Act.put, List.setIfInBounds_toArray, List.set_cons_zero, List.set_cons_succ]
                    refine till_take 1 60 false (v := ?v1bs) (by kernel_rfl) (by kernel_rfl) (by kernel_rfl) (by kernel_rfl) (by kernel_rfl) (fun _ _ _ h => h) ?hw1bs S0 ?hy1bs ?rest1bs
                    case hw1bs => (simp only [List.getElem?_toArray, List.getElem?_cons_zero, List.getElem?_cons_succ, Option.elim]; rfl)
                    case hy1bs => (simp only [List.getElem?_toArray, List.getElem?_cons_zero, List.getElem?_cons_succ, Option.elim]; intro wx _; go_simp; with_reducible rfl)
                    simp only [dstOf, List.getElem?_toArray, List.getElem?_cons_zero, List.getElem?_cons_succ, Option.bind, Act.put, List.setIfInBounds_toArray, List.set_cons_zero, List.set_cons_succ]
                    refine till_take 2 60 false (v := ?v2bs) (by kernel_rfl) (by kernel_rfl) (by kernel_rfl) (by kernel_rfl) (by kernel_rfl) (fun _ _ _ h => h) ?hw2bs S0 ?hy2bs ?rest2bs
                    case hw2bs => (simp only [List.getElem?_toArray, List.getElem?_cons_zero, List.getElem?_cons_succ, Option.elim]; rfl)
                    case hy2bs => (simp only [List.getElem?_toArray, List.getElem?_cons_zero, List.getElem?_cons_succ, Option.elim]; intro wx _; go_simp; with_reducible rfl)
                    simp only [dstOf, List.getElem?_toArray, List.getElem?_cons_zero, List.getElem?_cons_succ, Option.bind, Act.put, List.setIfInBounds_toArray, List.set_cons_zero, List.set_cons_succ]
                    refine till_take 3 60 false (v := ?v3bs) (by kernel_rfl) (by kernel_rfl) (by kernel_rfl) (by kernel_rfl) (by kernel_rfl) (fun _ _ _ h => h) ?hw3bs S0 ?hy3bs ?rest3bs
                    case hw3bs => (simp only [List.getElem?_toArray, List.getElem?_cons_zero, List.getElem?_cons_succ, Option.elim]; rfl)
                    case hy3bs => (simp only [List.getElem?_toArray, List.getElem?_cons_zero, List.getElem?_cons_succ, Option.elim]; intro wx _; go_simp; with_reducible rfl)
                    simp only [dstOf, List.getElem?_toArray, List.getElem?_cons_zero, List.getElem?_cons_succ, Option.bind, Act.put, List.setIfInBounds_toArray, List.set_cons_zero, List.set_cons_succ]
                    refine till_take 4 60 false (v := ?v4bs) (by kernel_rfl) (by kernel_rfl) (by kernel_rfl) (by kernel_rfl) (by kernel_rfl) (fun _ _ _ h => h) ?hw4bs S0 ?hy4bs ?rest4bs
                    case hw4bs => (simp only [List.getElem?_toArray, List.getElem?_cons_zero, List.getElem?_cons_succ, Option.elim]; rfl)
                    case hy4bs => (simp only [List.getElem?_toArray, List.getElem?_cons_zero, List.getElem?_cons_succ, Option.elim]; intro wx _; go_simp; with_reducible rfl)
                    simp only [dstOf, List.getElem?_toArray, List.getElem?_cons_zero, List.getElem?_cons_succ, Option.bind, Act.put, List.setIfInBounds_toArray, List.set_cons_zero, List.set_cons_succ]
                    refine till_take 5 60 true (v := ?v5bs) (by kernel_rfl) (by kernel_rfl) (by kernel_rfl) (by kernel_rfl) (by kernel_rfl) (fun _ _ _ h => h) ?hw5bs S0 ?hy5bs ?rest5bs
                    case hw5bs => (simp only [List.getElem?_toArray, List.getElem?_cons_zero, List.getElem?_cons_succ, Option.elim]; rfl)
                    case hy5bs => (simp only [List.getElem?_toArray, List.getElem?_cons_zero, List.getElem?_cons_succ, Option.elim]; intro wx hx; have x0 := (hx trivial).1; have x1 := (hx trivial).2; go_simp; with_reducible rfl)
                    simp only [dstOf, List.getElem?_toArray, List.getElem?_cons_zero, List.getElem?_cons_succ, Option.bind, Act.put, List.setIfInBounds_toArray, List.set_cons_zero, List.set_cons_succ]
                    refine till_take 6 60 false (v := ?v6bs) (by kernel_rfl) (by kernel_rfl) (by kernel_rfl) (by kernel_rfl) (by kernel_rfl) (fun _ _ _ h => h) ?hw6bs S0 ?hy6bs ?rest6bs
                    case hw6bs => (simp only [List.getElem?_toArray, List.getElem?_cons_zero, List.getElem?_cons_succ, Option.elim]; rfl)
                    case hy6bs => (simp only [List.getElem?_toArray, List.getElem?_cons_zero, List.getElem?_cons_succ, Option.elim]; intro wx _; go_simp; with_reducible rfl)
                    simp only [dstOf, List.getElem?_toArray, List.getElem?_cons_zero, List.getElem?_cons_succ, Option.bind, Act.put, List.setIfInBounds_toArray, List.set_cons_zero, List.set_cons_succ]
                    refine till_take 7 60 true (v := ?v7bs) (by kernel_rfl) (by kernel_rfl) (by kernel_rfl) (by kernel_rfl) (by kernel_rfl) (fun _ _ _ h => h) ?hw7bs S0 ?hy7bs ?rest7bs
                    case hw7bs => (simp only [List.getElem?_toArray, List.getElem?_cons_zero, List.getElem?_cons_succ, Option.elim]; rfl)
                    case hy7bs => (simp only [List.getElem?_toArray, List.getElem?_cons_zero, List.getElem?_cons_succ, Option.elim]; intro wx hx; have x0 := (hx trivial).1; have x1 := (hx trivial).2; go_simp; with_reducible rfl)
                    simp only [dstOf, List.getElem?_toArray, List.getElem?_cons_zero, List.getElem?_cons_succ, Option.bind, Act.put, List.setIfInBounds_toArray, List.set_cons_zero, List.set_cons_succ]
                    refine till_step 8 (by kernel_rfl) (by kernel_rfl) (fun K hK => ?_)
                    simp only [List.getElem?_toArray, List.getElem?_cons_zero, List.getElem?_cons_succ, Option.elim]
                    rw [if_pos (by rfl)]
                    go_simp
                    refine hK.out _ _ ?_
                    clear hK K
                    try simp only [Act.put, List.setIfInBounds_toArray, List.set_cons_zero, List.set_cons_succ]
                    refine till_step 9 (by kernel_rfl) (by kernel_rfl) (fun K hK => ?_)
                    simp only [List.getElem?_toArray, List.getElem?_cons_zero, List.getElem?_cons_succ, Option.elim]
                    rw [if_pos (by rfl)]
                    go_simp
                    go_at_call 15
                    refine (H1.out).mono ?_
                    rintro e w7 ⟨rfl, b7⟩
                    refine hK.out _ _ ?_
                    clear hK K
                    try simp only [Act.put, List.setIfInBounds_toArray, List.set_cons_zero, List.set_cons_succ]
                    have B7 := Lib.hid (B6.out.trans ((BAL.out.trans (b7.mono BAL.out.size)).mono B6.out.size))
                    clear b7 H1 S0
                    refine till_late 10 (v := ?v10bs) (by kernel_rfl) (by kernel_rfl) (by kernel_rfl) (by kernel_rfl) (fun _ _ _ h => h) (by kernel_rfl) ?hw10bs ?hy10bs ?rest10bs
                    case hw10bs => (simp only [List.getElem?_toArray, List.getElem?_cons_zero, List.getElem?_cons_succ, Option.elim]; rfl)
                    case hy10bs => (simp only [List.getElem?_toArray, List.getElem?_cons_zero, List.getElem?_cons_succ, Option.elim]; intro wx; go_simp; with_reducible rfl)
                    simp only [dstOf, List.getElem?_toArray, List.getElem?_cons_zero, List.getElem?_cons_succ, Option.bind, Act.put, List.setIfInBounds_toArray, List.set_cons_zero, List.set_cons_succ]
                    refine till_late 11 (v := ?v11bs) (by kernel_rfl) (by kernel_rfl) (by kernel_rfl) (by kernel_rfl) (fun _ _ _ h => h) (by kernel_rfl) ?hw11bs ?hy11bs ?rest11bs
                    case hw11bs => (simp only [List.getElem?_toArray, List.getElem?_cons_zero, List.getElem?_cons_succ, Option.elim]; rfl)
                    case hy11bs => (simp only [List.getElem?_toArray, List.getElem?_cons_zero, List.getElem?_cons_succ, Option.elim]; intro wx; go_simp; with_reducible rfl)
                    simp only [dstOf, List.getElem?_toArray, List.getElem?_cons_zero, List.getElem?_cons_succ, Option.bind, Act.put, List.setIfInBounds_toArray, List.set_cons_zero, List.set_cons_succ]
                    refine till_late 12 (v := ?v12bs) (by kernel_rfl) (by kernel_rfl) (by kernel_rfl) (by kernel_rfl) (fun _ _ _ h => h) (by kernel_rfl) ?hw12bs ?hy12bs ?rest12bs
                    case hw12bs => (simp only [List.getElem?_toArray, List.getElem?_cons_zero, List.getElem?_cons_succ, Option.elim]; rfl)
                    case hy12bs => (simp only [List.getElem?_toArray, List.getElem?_cons_zero, List.getElem?_cons_succ, Option.elim]; intro wx; go_simp; with_reducible rfl)
                    simp only [dstOf, List.getElem?_toArray, List.getElem?_cons_zero, List.getElem?_cons_succ, Option.bind, Act.put, List.setIfInBounds_toArray, List.set_cons_zero, List.set_cons_succ]
                    refine till_late 13 (v := ?v13bs) (by kernel_rfl) (by kernel_rfl) (by kernel_rfl) (by kernel_rfl) (fun _ _ _ h => h) (by kernel_rfl) ?hw13bs ?hy13bs ?rest13bs
                    case hw13bs => (simp only [List.getElem?_toArray, List.getElem?_cons_zero, List.getElem?_cons_succ, Option.elim]; rfl)
                    case hy13bs => (simp only [List.getElem?_toArray, List.getElem?_cons_zero, List.getElem?_cons_succ, Option.elim]; intro wx; go_simp; with_reducible rfl)
                    simp only [dstOf, List.getElem?_toArray, List.getElem?_cons_zero, List.getElem?_cons_succ, Option.bind, Act.put, List.setIfInBounds_toArray, List.set_cons_zero, List.set_cons_succ]
                    refine till_late 14 (v := ?v14bs) (by kernel_rfl) (by kernel_rfl) (by kernel_rfl) (by kernel_rfl) (fun _ _ _ h => h) (by kernel_rfl) ?hw14bs ?hy14bs ?rest14bs
                    case hw14bs => (simp only [List.getElem?_toArray, List.getElem?_cons_zero, List.getElem?_cons_succ, Option.elim]; rfl)
                    case hy14bs => (simp only [List.getElem?_toArray, List.getElem?_cons_zero, List.getElem?_cons_succ, Option.elim]; intro wx; go_simp; with_reducible rfl)
                    simp only [dstOf, List.getElem?_toArray, List.getElem?_cons_zero, List.getElem?_cons_succ, Option.bind, Act.put, List.setIfInBounds_toArray, List.set_cons_zero, List.set_cons_succ]
                    refine till_skip 15 (by kernel_rfl) (by kernel_rfl) (by kernel_rfl) (by kernel_rfl) (fun _ _ _ h => h) ?hw15bs (fun hh => Bool.noConfusion (hh.symm.trans (by kernel_rfl : _ = true))) ?rest15bs
                    case hw15bs => (simp only [List.getElem?_toArray, List.getElem?_cons_zero, List.getElem?_cons_succ, Option.elim]; rfl)
                    simp only [dstOf, List.getElem?_toArray, List.getElem?_cons_zero, List.getElem?_cons_succ, Option.bind, Act.put, List.setIfInBounds_toArray, List.set_cons_zero, List.set_cons_succ]
                    refine till_skip 16 (by kernel_rfl) (by kernel_rfl) (by kernel_rfl) (by kernel_rfl) (fun _ _ _ h => h) ?hw16bs (fun hh => Bool.noConfusion (hh.symm.trans (by kernel_rfl : _ = true))) ?rest16bs
                    case hw16bs => (simp only [List.getElem?_toArray, List.getElem?_cons_zero, List.getElem?_cons_succ, Option.elim]; rfl)
                    simp only [dstOf, List.getElem?_toArray, List.getElem?_cons_zero, List.getElem?_cons_succ, Option.bind, Act.put, List.setIfInBounds_toArray, List.set_cons_zero, List.set_cons_succ]
                    refine till_skip 17 (by kernel_rfl) (by kernel_rfl) (by kernel_rfl) (by kernel_rfl) (fun _ _ _ h => h) ?hw17bs (fun hh => Bool.noConfusion (hh.symm.trans (by kernel_rfl : _ = true))) ?rest17bs
                    case hw17bs => (simp only [List.getElem?_toArray, List.getElem?_cons_zero, List.getElem?_cons_succ, Option.elim]; rfl)
                    simp only [dstOf, List.getElem?_toArray, List.getElem?_cons_zero, List.getElem?_cons_succ, Option.bind, Act.put, List.setIfInBounds_toArray, List.set_cons_zero, List.set_cons_succ]
                    refine till_skip 18 (by kernel_rfl) (by kernel_rfl) (by kernel_rfl) (by kernel_rfl) (fun _ _ _ h => h) ?hw18bs (fun hh => Bool.noConfusion (hh.symm.trans (by kernel_rfl : _ = true))) ?rest18bs
                    case hw18bs => (simp only [List.getElem?_toArray, List.getElem?_cons_zero, List.getElem?_cons_succ, Option.elim]; rfl)
                    simp only [dstOf, List.getElem?_toArray, List.getElem?_cons_zero, List.getElem?_cons_succ, Option.bind, Act.put, List.setIfInBounds_toArray, List.set_cons_zero, List.set_cons_succ]
                    refine till_skip 19 (by kernel_rfl) (by kernel_rfl) (by kernel_rfl) (by kernel_rfl) (fun _ _ _ h => h) ?hw19bs (fun hh => Bool.noConfusion (hh.symm.trans (by kernel_rfl : _ = true))) ?rest19bs
                    case hw19bs => (simp only [List.getElem?_toArray, List.getElem?_cons_zero, List.getElem?_cons_succ, Option.elim]; rfl)
                    simp only [dstOf, List.getElem?_toArray, List.getElem?_cons_zero, List.getElem?_cons_succ, Option.bind, Act.put, List.setIfInBounds_toArray, List.set_cons_zero, List.set_cons_succ]
                    refine till_skip 20 (by kernel_rfl) (by kernel_rfl) (by kernel_rfl) (by kernel_rfl) (fun _ _ _ h => h) ?hw20bs (fun hh => Bool.noConfusion (hh.symm.trans (by kernel_rfl : _ = true))) ?rest20bs
                    case hw20bs => (simp only [List.getElem?_toArray, List.getElem?_cons_zero, List.getElem?_cons_succ, Option.elim]; rfl)
                    simp only [dstOf, List.getElem?_toArray, List.getElem?_cons_zero, List.getElem?_cons_succ, Option.bind, Act.put, List.setIfInBounds_toArray, List.set_cons_zero, List.set_cons_succ]
                    refine till_skip 21 (by kernel_rfl) (by kernel_rfl) (by kernel_rfl) (by kernel_rfl) (fun _ _ _ h => h) ?hw21bs (fun hh => Bool.noConfusion (hh.symm.trans (by kernel_rfl : _ = true))) ?rest21bs
                    case hw21bs => (simp only [List.getElem?_toArray, List.getElem?_cons_zero, List.getElem?_cons_succ, Option.elim]; rfl)
                    simp only [dstOf, List.getElem?_toArray, List.getElem?_cons_zero, List.getElem?_cons_succ, Option.bind, Act.put, List.setIfInBounds_toArray, List.set_cons_zero, List.set_cons_succ]
                    refine till_skip 22 (by kernel_rfl) (by kernel_rfl) (by kernel_rfl) (by kernel_rfl) (fun _ _ _ h => h) ?hw22bs (fun hh => Bool.noConfusion (hh.symm.trans (by kernel_rfl : _ = true))) ?rest22bs
                    case hw22bs => (simp only [List.getElem?_toArray, List.getElem?_cons_zero, List.getElem?_cons_succ, Option.elim]; rfl)
                    simp only [dstOf, List.getElem?_toArray, List.getElem?_cons_zero, List.getElem?_cons_succ, Option.bind, Act.put, List.setIfInBounds_toArray, List.set_cons_zero, List.set_cons_succ]
                    refine till_skip 23 (by kernel_rfl) (by kernel_rfl) (by kernel_rfl) (by kernel_rfl) (fun _ _ _ h => h) ?hw23bs (fun hh => Bool.noConfusion (hh.symm.trans (by kernel_rfl : _ = true))) ?rest23bs
                    case hw23bs => (simp only [List.getElem?_toArray, List.getElem?_cons_zero, List.getElem?_cons_succ, Option.elim]; rfl)
                    simp only [dstOf, List.getElem?_toArray, List.getElem?_cons_zero, List.getElem?_cons_succ, Option.bind, Act.put, List.setIfInBounds_toArray, List.set_cons_zero, List.set_cons_succ]
                    refine till_skip 24 (by kernel_rfl) (by kernel_rfl) (by kernel_rfl) (by kernel_rfl) (fun _ _ _ h => h) ?hw24bs (fun hh => Bool.noConfusion (hh.symm.trans (by kernel_rfl : _ = true))) ?rest24bs
                    case hw24bs => (simp only [List.getElem?_toArray, List.getElem?_cons_zero, List.getElem?_cons_succ, Option.elim]; rfl)
                    simp only [dstOf, List.getElem?_toArray, List.getElem?_cons_zero, List.getElem?_cons_succ, Option.bind, Act.put, List.setIfInBounds_toArray, List.set_cons_zero, List.set_cons_succ]
                    refine till_skip 25 (by kernel_rfl) (by kernel_rfl) (by kernel_rfl) (by kernel_rfl) (fun _ _ _ h => h) ?hw25bs (fun hh => Bool.noConfusion (hh.symm.trans (by kernel_rfl : _ = true))) ?rest25bs
                    case hw25bs => (simp only [List.getElem?_toArray, List.getElem?_cons_zero, List.getElem?_cons_succ, Option.elim]; rfl)
                    simp only [dstOf, List.getElem?_toArray, List.getElem?_cons_zero, List.getElem?_cons_succ, Option.bind, Act.put, List.setIfInBounds_toArray, List.set_cons_zero, List.set_cons_succ]
                    refine till_skip 26 (by kernel_rfl) (by kernel_rfl) (by kernel_rfl) (by kernel_rfl) (fun _ _ _ h => h) ?hw26bs (fun hh => Bool.noConfusion (hh.symm.trans (by kernel_rfl : _ = true))) ?rest26bs
                    case hw26bs => (simp only [List.getElem?_toArray, List.getElem?_cons_zero, List.getElem?_cons_succ, Option.elim]; rfl)
                    simp only [dstOf, List.getElem?_toArray, List.getElem?_cons_zero, List.getElem?_cons_succ, Option.bind, Act.put, List.setIfInBounds_toArray, List.set_cons_zero, List.set_cons_succ]
                    refine till_skip 27 (by kernel_rfl) (by kernel_rfl) (by kernel_rfl) (by kernel_rfl) (fun _ _ _ h => h) ?hw27bs (fun hh => Bool.noConfusion (hh.symm.trans (by kernel_rfl : _ = true))) ?rest27bs
                    case hw27bs => (simp only [List.getElem?_toArray, List.getElem?_cons_zero, List.getElem?_cons_succ, Option.elim]; rfl)
                    simp only [dstOf, List.getElem?_toArray, List.getElem?_cons_zero, List.getElem?_cons_succ, Option.bind, Act.put, List.setIfInBounds_toArray, List.set_cons_zero, List.set_cons_succ]
                    refine till_skip 28 (by kernel_rfl) (by kernel_rfl) (by kernel_rfl) (by kernel_rfl) (fun _ _ _ h => h) ?hw28bs (fun hh => Bool.noConfusion (hh.symm.trans (by kernel_rfl : _ = true))) ?rest28bs
                    case hw28bs => (simp only [List.getElem?_toArray, List.getElem?_cons_zero, List.getElem?_cons_succ, Option.elim]; rfl)
                    simp only [dstOf, List.getElem?_toArray, List.getElem?_cons_zero, List.getElem?_cons_succ, Option.bind, Act.put, List.setIfInBounds_toArray, List.set_cons_zero, List.set_cons_succ]
                    refine till_skip 29 (by kernel_rfl) (by kernel_rfl) (by kernel_rfl) (by kernel_rfl) (fun _ _ _ h => h) ?hw29bs (fun hh => Bool.noConfusion (hh.symm.trans (by kernel_rfl : _ = true))) ?rest29bs
                    case hw29bs => (simp only [List.getElem?_toArray, List.getElem?_cons_zero, List.getElem?_cons_succ, Option.elim]; rfl)
                    simp only [dstOf, List.getElem?_toArray, List.getElem?_cons_zero, List.getElem?_cons_succ, Option.bind, Act.put, List.setIfInBounds_toArray, List.set_cons_zero, List.set_cons_succ]
                    refine till_skip 30 (by kernel_rfl) (by kernel_rfl) (by kernel_rfl) (by kernel_rfl) (fun _ _ _ h => h) ?hw30bs (fun hh => Bool.noConfusion (hh.symm.trans (by kernel_rfl : _ = true))) ?rest30bs
                    case hw30bs => (simp only [List.getElem?_toArray, List.getElem?_cons_zero, List.getElem?_cons_succ, Option.elim]; rfl)
                    simp only [dstOf, List.getElem?_toArray, List.getElem?_cons_zero, List.getElem?_cons_succ, Option.bind, Act.put, List.setIfInBounds_toArray, List.set_cons_zero, List.set_cons_succ]
                    refine till_late 31 (v := ?v31bs) (by kernel_rfl) (by kernel_rfl) (by kernel_rfl) (by kernel_rfl) (fun _ _ _ h => h) (by kernel_rfl) ?hw31bs ?hy31bs ?rest31bs
                    case hw31bs => (simp only [List.getElem?_toArray, List.getElem?_cons_zero, List.getElem?_cons_succ, Option.elim]; rfl)
                    case hy31bs => (simp only [List.getElem?_toArray, List.getElem?_cons_zero, List.getElem?_cons_succ, Option.elim]; intro wx; go_simp; with_reducible rfl)
                    simp only [dstOf, List.getElem?_toArray, List.getElem?_cons_zero, List.getElem?_cons_succ, Option.bind, Act.put, List.setIfInBounds_toArray, List.set_cons_zero, List.set_cons_succ]
                    refine till_late 32 (v := ?v32bs) (by kernel_rfl) (by kernel_rfl) (by kernel_rfl) (by kernel_rfl) (fun _ _ _ h => h) (by kernel_rfl) ?hw32bs ?hy32bs ?rest32bs
                    case hw32bs => (simp only [List.getElem?_toArray, List.getElem?_cons_zero, List.getElem?_cons_succ, Option.elim]; rfl)
                    case hy32bs => (simp only [List.getElem?_toArray, List.getElem?_cons_zero, List.getElem?_cons_succ, Option.elim]; intro wx; go_simp; with_reducible rfl)
                    simp only [dstOf, List.getElem?_toArray, List.getElem?_cons_zero, List.getElem?_cons_succ, Option.bind, Act.put, List.setIfInBounds_toArray, List.set_cons_zero, List.set_cons_succ]
                    refine till_late 33 (v := ?v33bs) (by kernel_rfl) (by kernel_rfl) (by kernel_rfl) (by kernel_rfl) (fun _ _ _ h => h) (by kernel_rfl) ?hw33bs ?hy33bs ?rest33bs
                    case hw33bs => (simp only [List.getElem?_toArray, List.getElem?_cons_zero, List.getElem?_cons_succ, Option.elim]; rfl)
                    case hy33bs => (simp only [List.getElem?_toArray, List.getElem?_cons_zero, List.getElem?_cons_succ, Option.elim]; intro wx; go_simp; with_reducible rfl)
                    simp only [dstOf, List.getElem?_toArray, List.getElem?_cons_zero, List.getElem?_cons_succ, Option.bind, Act.put, List.setIfInBounds_toArray, List.set_cons_zero, List.set_cons_succ]
                    refine till_end (by kernel_rfl) ?_ _
                    go_wp2
                    go_ret
                    exact ⟨rfl, B1.out.trans (B7.out.mono B1.out.size)⟩
end Go.Proofs.Ytapgcahbccchfaa
