/- The walk of VaultCopies. -/
import Derived.Test.YtkicdfoncopklaaVSmall
import Derived.Test.YtkicdfoncopklaaVPlain
import Derived.Test.YtkicdfoncopklaaOrd4
namespace Go.Proofs.Ytkicdfoncopklaa
open Go.RowKit Go.Maps Go.ChangeMaps Go.MapKept
open Vp
attribute [local go_sem ↓] Go.wp_at_zero Go.wp_at_succ

def doneVs : List VDone → List Value
  | [] => []
  | d :: l => .int .i64 d.n :: .string d.text :: .int .i64 d.err :: doneVs l
theorem doneVs_app (l m : List VDone) : doneVs (l ++ m) = doneVs l ++ doneVs m := by
  induction l with
  | nil => rfl
  | cons a l ih => simp [doneVs, ih]
theorem done_at {l : List VDone} {k : Nat} {d : VDone} (h : l[k]? = some d) : (doneVs l)[k * 3]? = some (.int .i64 d.n) ∧ (doneVs l)[k * 3 + 1]? = some (.string d.text) ∧ (doneVs l)[k * 3 + 2]? = some (.int .i64 d.err) := by
  induction l generalizing k with
  | nil => simp at h
  | cons a l ih =>
    cases k with
    | zero => simp at h; subst h; exact ⟨rfl, rfl, rfl⟩
    | succ k =>
      have := ih (k := k) (by simpa using h)
      rw [show (k + 1) * 3 = k * 3 + 1 + 1 + 1 by omega]
      simpa [doneVs] using this
theorem done_info : (Try.prog.info? 31).map (fun i => (i.zero, i.size, i.bytes)) = some (some (.agg #[.int .i64 0, .string ⟨#[]⟩, .int .i64 0]), 3, 32) := by kernel_rfl
theorem run_push_done (w : World) (v : Value) (n : Nat) (xs : List Value) (d : VDone) (q : Nat) (hown : w.ownsRow 0 31 3 v n xs) (h0 : w.cell? ⟨q, 0, none⟩ = some (.int .i64 d.n)) (h1 : w.cell? ⟨q, 1, none⟩ = some (.string d.text)) (h2 : w.cell? ⟨q, 2, none⟩ = some (.int .i64 d.err)) (hn : n ≤ 100000) :
    ∃ v' w', (Builtin.append_ #[46, 46] 46 #[v, .slice (some ⟨q, 0, none⟩) 1 1]).run Try.prog w = .ok v' w' ∧ w'.ownsRow 0 31 3 v' (n + 1) (xs ++ doneVs [d]) ∧ w.grownBy w' v.ownBlock ∧ (v'.ownBlock = v.ownBlock ∨ v'.ownBlock = some w.heap.size) ∧ ∃ a c, v' = .slice a (n + 1) c := by
  obtain ⟨i0, hi, hz0, hz1, hz2⟩ := info_parts done_info
  obtain ⟨v', w', r1, r2, r3, _, r5⟩ := run_append_own_at (P := Try.prog) w 0 46 46 31 i0 (.agg #[.int .i64 0, .string ⟨#[]⟩, .int .i64 0]) 3 32 Try.underlying46 hi hz0 hz1 hz2 rfl (by decide) v n _ hown ⟨q, 0, none⟩ 1 1 [.int .i64 d.n, .string d.text, .int .i64 d.err] rfl (fun j u hj => by
    match j, hj with
    | 0, hj => simp at hj; subst hj; rw [Lib.add_plain]; exact h0
    | 1, hj => simp at hj; subst hj; rw [Lib.add_plain]; exact h1
    | 2, hj => simp at hj; subst hj; rw [Lib.add_plain]; exact h2) (fun u hu => by simp at hu; rcases hu with rfl | rfl | rfl <;> rfl) (by unfold maxLen; omega) (by omega) (Nat.zero_le _)
  obtain ⟨a, c, hv⟩ := own_form r2
  exact ⟨v', w', r1, r2, r3, r5, a, c, hv⟩
set_option maxHeartbeats 8000000 in
set_option maxRecDepth 100000 in
theorem copies_walk {w : World} {v u : Value} {l x : List VOp} (hv : OpsAt w v l) (hu : OpsAt w u x) : Calls Try.prog 6 #[v, u] w fun e w' => e = .returned (.bool true) ∧ Below w.heap.size w w' := by
  have HL := Lib.hid hv
  have HU := Lib.hid hu
  obtain ⟨a, cap, rfl, -⟩ := hv
  obtain ⟨a', cap', rfl, -⟩ := hu
  go_enter Try.func6, Try.ntmps6
  go_wp2_with (go_at_call 7; refine (small_any _).mono ?_; rintro e w1 ⟨rfl, hb1⟩; refine Hid.out ?_)
  refine Lib.hid ?_
  have M1 := Lib.hid ((OMem.start w).fresh hb1)
  clear hb1
  have HF1 := few_any _ l 40 (HL.out.keep M1.out.below) (by decide)
  have HF2 := few_any _ x 20 (HU.out.keep M1.out.below) (by decide)
  by_cases hf : few l 40 = true
  case neg =>
    have hff : few l 40 = false := by simpa using hf
    rw [hff] at HF1
    have HF1 := Lib.hid HF1
    clear hf hff HF2
    go_wp2_with (go_at_call 8; refine (HF1.out).mono ?_; rintro e w3 ⟨rfl, rfl⟩; refine Hid.out ?_)
    refine Lib.hid ?_
    clear HF1
    go_wp2
    go_ret
    exact ⟨rfl, M1.out.below⟩
  have hfw := of_decide_eq_true hf
  rw [hf] at HF1
  have HF1 := Lib.hid HF1
  have hll : l.length ≤ 40 := hfw.1
  have HT := Lib.hid hfw.2
  clear hf hfw
  by_cases hg : few x 20 = true
  case neg =>
    have hgg : few x 20 = false := by simpa using hg
    rw [hgg] at HF2
    have HF2 := Lib.hid HF2
    clear hg hgg
    go_wp2_with (go_at_call 8; refine (HF1.out).mono ?_; rintro e w3 ⟨rfl, rfl⟩; refine Hid.out ?_)
    refine Lib.hid ?_
    clear HF1
    go_wp2_with (go_at_call 8; refine (HF2.out).mono ?_; rintro e w3 ⟨rfl, rfl⟩; refine Hid.out ?_)
    refine Lib.hid ?_
    clear HF2
    go_wp2
    go_ret
    exact ⟨rfl, M1.out.below⟩
  have hgw := of_decide_eq_true hg
  rw [hg] at HF2
  have HF2 := Lib.hid HF2
  have hxl : x.length ≤ 20 := hgw.1
  have HTX := Lib.hid hgw.2
  clear hg hgw
  go_wp2_with (go_at_call 8; refine (HF1.out).mono ?_; rintro e w3 ⟨rfl, rfl⟩; refine Hid.out ?_)
  refine Lib.hid ?_
  clear HF1
  go_wp2_with (go_at_call 8; refine (HF2.out).mono ?_; rintro e w3 ⟨rfl, rfl⟩; refine Hid.out ?_)
  refine Lib.hid ?_
  clear HF2
  go_wp2_with (go_at_call 9; refine (v_new M1.out).mono ?_; rintro e w2 ⟨ba, rfl, m2⟩; refine Hid.out ?_)
  refine Lib.hid ?_
  have M2 := Lib.hid (show OMem w w2 [.vault ba empty] from m2)
  clear m2 M1
  go_wp2
  go_loopw [7] (fun i wr => ∃ k : Nat, k ≤ l.length ∧ i = .int .i64 k ∧ OMem w wr [.vault ba (acts empty (l.take k))]) (fun i _ => l.length - (intOf i).toNat)
  case atStart => exact ⟨0, Nat.zero_le _, rfl, M2.out⟩
  case round =>
    obtain ⟨k, hk, rfl, hm⟩ := hrel
    have M := Lib.hid hm
    clear hm M2
    by_cases hlt : k < l.length
    · have HFN := Lib.hid ((fine_acts (fine_empty 0) (l := l.take k) (fun o ho => by have := HT.out o (List.mem_of_mem_take ho); omega)).mono (m := 100000) (by rw [List.length_take]; omega))
      obtain ⟨d, hd⟩ : ∃ d, act (acts empty (l.take k)) l[k] = (d, acts empty (l.take (k + 1))) := ⟨_, Prod.ext rfl (acts_take _ _ k hlt).symm⟩
      have hsz : l[k].text.size ≤ 281474976710656 := by have := HT.out _ (List.getElem_mem hlt); omega
      obtain ⟨_, _, h1, hac⟩ := HL.out.keep M.out.below
      simp only [Value.slice.injEq] at h1
      obtain ⟨h1, -, -⟩ := h1
      subst h1
      obtain ⟨lb, lo, h1, o0, o1, o2, o3⟩ := hac k _ (List.getElem?_eq_getElem hlt)
      subst h1
      have HO := v_do_eq M.out (i := 0) rfl hd HFN.out hsz
      clear hac hd hsz
      generalize l[k] = o at HO o0 o1 o2 o3
      obtain ⟨od, ok, ob, ot⟩ := o
      simp only at HO o0 o1 o2 o3
      have HO := Lib.hid HO
      go_wp2_with (go_at_call 11; refine (HO.out).mono ?_; rintro e w4 ⟨rfl, m4⟩; refine Hid.out ?_)
      refine Lib.hid ?_
      have M4 := Lib.hid (show OMem w w4 [.vault ba (acts empty (l.take (k + 1)))] from m4)
      clear m4 HO M
      go_wp2
      go_roundw
      case rel => exact ⟨k + 1, by omega, by go_num, M4.out⟩
      case measure => simp [intOf]; omega
    · obtain rfl : k = l.length := by omega
      have hm := M.out
      rw [List.take_length] at hm
      have HFX := Lib.hid (fine_acts (fine_empty 0) (l := l) (fun o ho => by have := HT.out o ho; omega))
      generalize acts empty l = X at hm HFX
      have MA := Lib.hid hm
      clear hm M
      have hgx := HFX.out.good
      have hbx := HFX.out.boxes
      go_wp2_with (go_at_call 16; refine (v_copy MA.out (i := 0) rfl (by omega) (by omega)).mono ?_; rintro e w3 ⟨bc, rfl, m3⟩; refine Hid.out ?_)
      refine Lib.hid ?_
      have M3 := Lib.hid (show OMem w w3 [.vault ba X, .vault bc X] from m3)
      clear m3 MA
      go_wp2_with (go_at_call 13; refine (v_keys M3.out (i := 0) rfl).mono ?_; rintro e w4 ⟨rfl, rfl⟩; refine Hid.out ?_)
      refine Lib.hid ?_
      go_wp2_with (go_at_call 14; refine (v_boxes M3.out (i := 0) rfl).mono ?_; rintro e w4 ⟨rfl, rfl⟩; refine Hid.out ?_)
      refine Lib.hid ?_
      have M4 := Lib.hid (M3.out.rowNil 31 3)
      clear M3
      go_wp2
      go_loopw [11, 12] (fun s i wr => ∃ (k : Nat) (wa : Option Addr) (wc : Nat), k ≤ x.length ∧ i = .int .i64 k ∧ s = .slice wa k wc ∧ OMem w wr [.vault ba X, .vault bc (acts X (x.take k)), .row 31 3 (.slice wa k wc) k (doneVs (outs X (x.take k)))]) (fun _ i _ => x.length - (intOf i).toNat)
      case atStart => exact ⟨0, none, 0, Nat.zero_le _, rfl, rfl, M4.out⟩
      case round =>
        obtain ⟨k, wa, wc, hk, rfl, rfl, hm⟩ := hrel
        have M := Lib.hid hm
        clear hm M4
        by_cases hlt : k < x.length
        · have HFN := Lib.hid ((fine_acts HFX.out (l := x.take k) (fun o ho => by have := HTX.out o (List.mem_of_mem_take ho); omega)).mono (m := 100000) (by rw [List.length_take]; omega))
          obtain ⟨d, hd⟩ : ∃ d, act (acts X (x.take k)) x[k] = (d, acts X (x.take (k + 1))) := ⟨_, Prod.ext rfl (acts_take _ _ k hlt).symm⟩
          have HOUT := Lib.hid (show outs X (x.take (k + 1)) = outs X (x.take k) ++ [d] by rw [outs_take _ _ _ hlt, hd])
          have hsz : x[k].text.size ≤ 281474976710656 := by have := HTX.out _ (List.getElem_mem hlt); omega
          obtain ⟨_, _, h1, hac⟩ := HU.out.keep M.out.below
          simp only [Value.slice.injEq] at h1
          obtain ⟨h1, -, -⟩ := h1
          subst h1
          obtain ⟨lb, lo, h1, o0, o1, o2, o3⟩ := hac k _ (List.getElem?_eq_getElem hlt)
          subst h1
          have HO := v_do_eq M.out (i := 1) rfl hd HFN.out hsz
          clear hac hd hsz
          generalize x[k] = o at HO o0 o1 o2 o3
          obtain ⟨od, ok, ob, ot⟩ := o
          simp only at HO o0 o1 o2 o3
          have HO := Lib.hid HO
          go_wp2_with (go_at_call 11; refine (HO.out).mono ?_; rintro e w4 ⟨rfl, m4⟩; refine Hid.out ?_)
          refine Lib.hid ?_
          have m4 := (show OMem w w4 [.vault ba X, .vault bc (acts X (x.take (k + 1))), .row 31 3 (.slice wa k wc) k (doneVs (outs X (x.take k)))] from m4)
          have hba : Below w4.heap.size w4 (w4.alloc (.cells #[.int .i64 d.n, .string d.text, .int .i64 d.err] 31)) := (Below.refl _ _).alloc (Nat.le_refl _) _
          have hq := (MapKept.heap_alloc w4 (.cells #[.int .i64 d.n, .string d.text, .int .i64 d.err] 31)).1
          have m5 := m4.fresh hba
          obtain ⟨v', w7, r1, r2, r3, r4, wa', wc', r5⟩ := run_push_done _ (.slice wa k wc) k _ d w4.heap.size (m5.rowAt (i := 2) rfl) (by rw [Lib.cell_of_heap hq]; rfl) (by rw [Lib.cell_of_heap hq]; rfl) (by rw [Lib.cell_of_heap hq]; rfl) (by omega)
          subst r5
          have m7 := m5.rowGrow (i := 2) rfl r3 r2 r4
          rw [← doneVs_app, ← HOUT.out] at m7
          have M7 := Lib.hid (show OMem w w7 [.vault ba X, .vault bc (acts X (x.take (k + 1))), .row 31 3 (.slice wa' (k + 1) wc') (k + 1) (doneVs (outs X (x.take (k + 1))))] from m7)
          have HP := Lib.hid r1
          clear m4 HO M hba hq m5 r1 r2 r3 r4 m7 HOUT
          go_wp2_with (at_builtin; refine Hid.out ?_)
          refine Lib.hid ?_
          refine Lib.wpList_append_run _ rfl _ _ _ _ rfl _ _ rfl rfl _ _ HP.out ?_
          go_wp2
          go_roundw
          case rel => exact ⟨k + 1, wa', wc', by omega, by go_num, by go_num, M7.out⟩
          case measure => simp [intOf]; omega
        · obtain rfl : k = x.length := by omega
          have hm := M.out
          rw [List.take_length] at hm
          have HOL := Lib.hid (fun k (hk : k < x.length) => outs_at X x k hk)
          generalize outs X x = D at hm HOL
          have MA := Lib.hid hm
          clear hm M
          go_wp2_with (go_at_call 13; refine (v_keys MA.out (i := 0) rfl).mono ?_; rintro e w4 ⟨rfl, rfl⟩; refine Hid.out ?_)
          refine Lib.hid ?_
          go_wp2_with (go_at_call 14; refine (v_boxes MA.out (i := 0) rfl).mono ?_; rintro e w4 ⟨rfl, rfl⟩; refine Hid.out ?_)
          refine Lib.hid ?_
          go_wp2
          go_loopw [13] (fun i wr => ∃ k : Nat, k ≤ x.length ∧ i = .int .i64 k ∧ OMem w wr [.vault ba (acts X (x.take k)), .vault bc (acts X x), .row 31 3 (.slice wa x.length wc) x.length (doneVs D)]) (fun i _ => x.length - (intOf i).toNat)
          case atStart => exact ⟨0, Nat.zero_le _, rfl, MA.out⟩
          case round =>
            obtain ⟨k, hk, rfl, hm⟩ := hrel
            have M := Lib.hid hm
            clear hm MA
            by_cases hlt : k < x.length
            · have HFN := Lib.hid ((fine_acts HFX.out (l := x.take k) (fun o ho => by have := HTX.out o (List.mem_of_mem_take ho); omega)).mono (m := 100000) (by rw [List.length_take]; omega))
              obtain ⟨d, hd⟩ : ∃ d, act (acts X (x.take k)) x[k] = (d, acts X (x.take (k + 1))) := ⟨_, Prod.ext rfl (acts_take _ _ k hlt).symm⟩
              have hdk := HOL.out k hlt
              rw [hd] at hdk
              have hsz : x[k].text.size ≤ 281474976710656 := by have := HTX.out _ (List.getElem_mem hlt); omega
              obtain ⟨_, _, h1, hac⟩ := HU.out.keep M.out.drew.below
              simp only [Value.slice.injEq] at h1
              obtain ⟨h1, -, -⟩ := h1
              subst h1
              obtain ⟨lb, lo, h1, o0, o1, o2, o3⟩ := hac k _ (List.getElem?_eq_getElem hlt)
              subst h1
              have HO := v_do_eq M.out.drew (i := 0) rfl hd HFN.out hsz
              obtain ⟨d0, d1, d2⟩ := done_at hdk
              obtain ⟨g, wc', hg⟩ := own_some (M.out.rowAt (i := 2) rfl) (by omega)
              simp only [Value.slice.injEq] at hg
              obtain ⟨hg, -, -⟩ := hg
              subst hg
              have SS := fun w5 (m5 : Below w.heap.size w w5) (r5 : w5.ownsRow 0 31 3 (.slice (some ⟨g, 0, none⟩) x.length wc) x.length (doneVs D)) => (by
                obtain ⟨_, _, h1, hac⟩ := HU.out.keep m5
                simp only [Value.slice.injEq] at h1
                obtain ⟨h1, -, -⟩ := h1
                subst h1
                obtain ⟨lb', lo', h1, o0, o1, o2, o3⟩ := hac k _ (List.getElem?_eq_getElem hlt)
                cases h1
                exact ⟨o0, o1, o2, o3, own_at r5 d0, own_at r5 d1, own_at r5 d2⟩ : w5.cell? ⟨lb, lo + k * 4, none⟩ = some (.int .i64 x[k].do_) ∧ w5.cell? ⟨lb, lo + k * 4 + 1, none⟩ = some (.int .i64 x[k].key) ∧ w5.cell? ⟨lb, lo + k * 4 + 2, none⟩ = some (.int .i64 x[k].box) ∧ w5.cell? ⟨lb, lo + k * 4 + 3, none⟩ = some (.string x[k].text) ∧
                  w5.cell? ⟨g, k * 3, none⟩ = some (.int .i64 d.n) ∧ w5.cell? ⟨g, k * 3 + 1, none⟩ = some (.string d.text) ∧ w5.cell? ⟨g, k * 3 + 2, none⟩ = some (.int .i64 d.err))
              have S0 := SS _ M.out.drew.below (M.out.drew.rowAt (i := 2) rfl)
              clear hac hd hsz o0 o1 o2 o3 hdk
              generalize x[k] = o at HO S0 SS
              obtain ⟨od, ok, ob, ot⟩ := o
              simp only at HO S0 SS
              have HO := Lib.hid HO
              have SS := Lib.hid SS
              go_wp2
              refine region_till 10 (fun w' => w'.cell? ⟨lb, lo + k * 4, none⟩ = some (.int .i64 od) ∧ w'.cell? ⟨lb, lo + k * 4 + 1, none⟩ = some (.int .i64 ok) ∧ w'.cell? ⟨lb, lo + k * 4 + 2, none⟩ = some (.int .i64 ob) ∧ w'.cell? ⟨lb, lo + k * 4 + 3, none⟩ = some (.string ot) ∧ w'.cell? ⟨g, k * 3, none⟩ = some (.int .i64 d.n) ∧ w'.cell? ⟨g, k * 3 + 1, none⟩ = some (.string d.text) ∧ w'.cell? ⟨g, k * 3 + 2, none⟩ = some (.int .i64 d.err)) (by kernel_rfl) ?_
              refine till_take 0 24 false (v := ?v0) (by kernel_rfl) (by kernel_rfl) (by kernel_rfl) (by kernel_rfl) (by kernel_rfl) (fun _ _ _ h => h) ?hw0 S0 ?hy0 ?rest0
              case hw0 => (simp only [List.getElem?_toArray, List.getElem?_cons_zero, Option.elim]; rfl)
              case hy0 => (simp only [List.getElem?_toArray, List.getElem?_cons_zero, Option.elim]; intro wx _; go_simp; with_reducible rfl)
              simp only [dstOf, List.getElem?_toArray, List.getElem?_cons_zero, Option.bind, Act.put, List.setIfInBounds_toArray, List.set_cons_zero, List.set_cons_succ]
              refine till_take 1 24 false (v := ?v1) (by kernel_rfl) (by kernel_rfl) (by kernel_rfl) (by kernel_rfl) (by kernel_rfl) (fun _ _ _ h => h) ?hw1 S0 ?hy1 ?rest1
              case hw1 => (simp only [List.getElem?_toArray, List.getElem?_cons_zero, List.getElem?_cons_succ, Option.elim]; rfl)
              case hy1 => (simp only [List.getElem?_toArray, List.getElem?_cons_zero, List.getElem?_cons_succ, Option.elim]; intro wx _; go_simp; with_reducible rfl)
              simp only [dstOf, List.getElem?_toArray, List.getElem?_cons_zero, List.getElem?_cons_succ, Option.bind, Act.put, List.setIfInBounds_toArray, List.set_cons_zero, List.set_cons_succ]
              refine till_take 2 24 false (v := ?v2) (by kernel_rfl) (by kernel_rfl) (by kernel_rfl) (by kernel_rfl) (by kernel_rfl) (fun _ _ _ h => h) ?hw2 S0 ?hy2 ?rest2
              case hw2 => (simp only [List.getElem?_toArray, List.getElem?_cons_zero, List.getElem?_cons_succ, Option.elim]; rfl)
              case hy2 => (simp only [List.getElem?_toArray, List.getElem?_cons_zero, List.getElem?_cons_succ, Option.elim]; intro wx _; go_simp; with_reducible rfl)
              simp only [dstOf, List.getElem?_toArray, List.getElem?_cons_zero, List.getElem?_cons_succ, Option.bind, Act.put, List.setIfInBounds_toArray, List.set_cons_zero, List.set_cons_succ]
              refine till_take 3 24 false (v := ?v3) (by kernel_rfl) (by kernel_rfl) (by kernel_rfl) (by kernel_rfl) (by kernel_rfl) (fun _ _ _ h => h) ?hw3 S0 ?hy3 ?rest3
              case hw3 => (simp only [List.getElem?_toArray, List.getElem?_cons_zero, List.getElem?_cons_succ, Option.elim]; rfl)
              case hy3 => (simp only [List.getElem?_toArray, List.getElem?_cons_zero, List.getElem?_cons_succ, Option.elim]; intro wx _; go_simp; with_reducible rfl)
              simp only [dstOf, List.getElem?_toArray, List.getElem?_cons_zero, List.getElem?_cons_succ, Option.bind, Act.put, List.setIfInBounds_toArray, List.set_cons_zero, List.set_cons_succ]
              refine till_take 4 24 true (v := ?v4) (by kernel_rfl) (by kernel_rfl) (by kernel_rfl) (by kernel_rfl) (by kernel_rfl) (fun _ _ _ h => h) ?hw4 S0 ?hy4 ?rest4
              case hw4 => (simp only [List.getElem?_toArray, List.getElem?_cons_zero, List.getElem?_cons_succ, Option.elim]; rfl)
              case hy4 => (simp only [List.getElem?_toArray, List.getElem?_cons_zero, List.getElem?_cons_succ, Option.elim]; intro wx hx; have x0 := (hx trivial).1; have x1 := (hx trivial).2.1; have x2 := (hx trivial).2.2.1; have x3 := (hx trivial).2.2.2.1; have x4 := (hx trivial).2.2.2.2.1; have x5 := (hx trivial).2.2.2.2.2.1; have x6 := (hx trivial).2.2.2.2.2.2; go_simp; with_reducible rfl)
              simp only [dstOf, List.getElem?_toArray, List.getElem?_cons_zero, List.getElem?_cons_succ, Option.bind, Act.put, List.setIfInBounds_toArray, List.set_cons_zero, List.set_cons_succ]
              refine till_take 6 24 false (v := ?v6) (by kernel_rfl) (by kernel_rfl) (by kernel_rfl) (by kernel_rfl) (by kernel_rfl) (fun _ _ _ h => h) ?hw6 S0 ?hy6 ?rest6
              case hw6 => (simp only [List.getElem?_toArray, List.getElem?_cons_zero, List.getElem?_cons_succ, Option.elim]; rfl)
              case hy6 => (simp only [List.getElem?_toArray, List.getElem?_cons_zero, List.getElem?_cons_succ, Option.elim]; intro wx _; go_simp; with_reducible rfl)
              simp only [dstOf, List.getElem?_toArray, List.getElem?_cons_zero, List.getElem?_cons_succ, Option.bind, Act.put, List.setIfInBounds_toArray, List.set_cons_zero, List.set_cons_succ]
              refine till_take 7 24 false (v := ?v7) (by kernel_rfl) (by kernel_rfl) (by kernel_rfl) (by kernel_rfl) (by kernel_rfl) (fun _ _ _ h => h) ?hw7 S0 ?hy7 ?rest7
              case hw7 => (simp only [List.getElem?_toArray, List.getElem?_cons_zero, List.getElem?_cons_succ, Option.elim]; rfl)
              case hy7 => (simp only [List.getElem?_toArray, List.getElem?_cons_zero, List.getElem?_cons_succ, Option.elim]; intro wx _; go_simp; with_reducible rfl)
              simp only [dstOf, List.getElem?_toArray, List.getElem?_cons_zero, List.getElem?_cons_succ, Option.bind, Act.put, List.setIfInBounds_toArray, List.set_cons_zero, List.set_cons_succ]
              refine till_take 8 24 false (v := ?v8) (by kernel_rfl) (by kernel_rfl) (by kernel_rfl) (by kernel_rfl) (by kernel_rfl) (fun _ _ _ h => h) ?hw8 S0 ?hy8 ?rest8
              case hw8 => (simp only [List.getElem?_toArray, List.getElem?_cons_zero, List.getElem?_cons_succ, Option.elim]; rfl)
              case hy8 => (simp only [List.getElem?_toArray, List.getElem?_cons_zero, List.getElem?_cons_succ, Option.elim]; intro wx _; go_simp; with_reducible rfl)
              simp only [dstOf, List.getElem?_toArray, List.getElem?_cons_zero, List.getElem?_cons_succ, Option.bind, Act.put, List.setIfInBounds_toArray, List.set_cons_zero, List.set_cons_succ]
              refine till_take 9 24 true (v := ?v9) (by kernel_rfl) (by kernel_rfl) (by kernel_rfl) (by kernel_rfl) (by kernel_rfl) (fun _ _ _ h => h) ?hw9 S0 ?hy9 ?rest9
              case hw9 => (simp only [List.getElem?_toArray, List.getElem?_cons_zero, List.getElem?_cons_succ, Option.elim]; rfl)
              case hy9 => (simp only [List.getElem?_toArray, List.getElem?_cons_zero, List.getElem?_cons_succ, Option.elim]; intro wx hx; have x0 := (hx trivial).1; have x1 := (hx trivial).2.1; have x2 := (hx trivial).2.2.1; have x3 := (hx trivial).2.2.2.1; have x4 := (hx trivial).2.2.2.2.1; have x5 := (hx trivial).2.2.2.2.2.1; have x6 := (hx trivial).2.2.2.2.2.2; go_simp; with_reducible rfl)
              simp only [dstOf, List.getElem?_toArray, List.getElem?_cons_zero, List.getElem?_cons_succ, Option.bind, Act.put, List.setIfInBounds_toArray, List.set_cons_zero, List.set_cons_succ]
              refine till_before 5 (by kernel_rfl) (fun K hK => ?_)
              simp only [List.getElem?_toArray, List.getElem?_cons_zero, List.getElem?_cons_succ, Option.elim]
              rw [if_pos (by rfl)]
              go_simp
              go_at_call 11
              refine (HO.out).mono ?_
              rintro e w16 ⟨rfl, m16⟩
              refine hK.out _ _ (SS.out _ m16.below (m16.rowAt (i := 2) rfl)) ?_
              clear hK K
              try simp only [Act.put, List.setIfInBounds_toArray, List.set_cons_zero, List.set_cons_succ]
              have M16 := Lib.hid (show OMem w w16 [.vault ba (acts X (x.take (k + 1))), .vault bc (acts X x), .row 31 3 (.slice (some ⟨g, 0, none⟩) x.length wc) x.length (doneVs D)] from m16)
              clear m16 HO S0
              refine till_step 10 (by kernel_rfl) (by kernel_rfl) (fun K hK => ?_)
              simp only [List.getElem?_toArray, List.getElem?_cons_zero, List.getElem?_cons_succ, Option.elim]
              rw [if_pos (by rfl)]
              go_simp
              refine hK.out _ _ ?_
              clear hK K
              try simp only [Act.put, List.setIfInBounds_toArray, List.set_cons_zero, List.set_cons_succ]
              refine till_end (by kernel_rfl) ?_ _
              go_wp2
              go_roundw
              case rel => exact ⟨k + 1, by omega, by go_num, M16.out⟩
              case measure => simp [intOf]; omega
            · obtain rfl : k = x.length := by omega
              have hm := M.out
              rw [List.take_length] at hm
              have MB := Lib.hid hm
              clear hm M
              go_wp2_with (go_at_call 13; refine (v_keys MB.out (i := 0) rfl).mono ?_; rintro e w4 ⟨rfl, rfl⟩; refine Hid.out ?_)
              refine Lib.hid ?_
              go_wp2_with (go_at_call 13; refine (v_keys MB.out (i := 1) rfl).mono ?_; rintro e w4 ⟨rfl, rfl⟩; refine Hid.out ?_)
              refine Lib.hid ?_
              go_wp2_with (go_at_call 14; refine (v_boxes MB.out (i := 0) rfl).mono ?_; rintro e w4 ⟨rfl, rfl⟩; refine Hid.out ?_)
              refine Lib.hid ?_
              go_wp2_with (go_at_call 14; refine (v_boxes MB.out (i := 1) rfl).mono ?_; rintro e w4 ⟨rfl, rfl⟩; refine Hid.out ?_)
              refine Lib.hid ?_
              go_wp2
              go_ret
              exact ⟨rfl, MB.out.below⟩
end Go.Proofs.Ytkicdfoncopklaa
