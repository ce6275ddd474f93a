/- The reference of layer 5: its calls. -/
import Derived.Test.YtkicdfoncopklaaRHeap5
namespace Go.Proofs.Ytkicdfoncopklaa
open Go.RowKit Go.Maps Go.ChangeMaps Go.MapKept
open Vp
attribute [local go_sem ↓] Go.wp_at_zero Go.wp_at_succ

section
variable {w0 w : World} {os : List Ob} {i b : Nat} {V : Vt}
set_option maxRecDepth 100000 in
theorem r_new (h : OMem w0 w os) : Calls Try.prog 10 #[] w fun e w' => ∃ b, e = .returned (.pointer (some ⟨b, 0, none⟩)) ∧ OMem w0 w' (os ++ [.ref b empty]) := by
  go_enter Try.func10, Try.ntmps10
  go_wp2
  go_ret
  refine ⟨_, rfl, h.refNew (g := .slice none 0 0) (o := .slice none 0 0) (t := .slice none 0 0) ((Below.refl _ _).alloc (Nat.le_refl _) _) ⟨(MapKept.heap_alloc w _).1, World.ownsRow_nil _ _ _ _, World.ownsRow_nil _ _ _ _, World.ownsRow_nil _ _ _ _, fun e => (by cases e), fun e => (by cases e), fun e => (by cases e), fun _ e => (by cases e), fun _ e => (by cases e), fun _ e => (by cases e)⟩ fun x hx => ?_⟩
  rcases hx with rfl | hx | hx | hx
  · exact Nat.le_refl _
  · cases hx
  · cases hx
  · cases hx
set_option maxHeartbeats 1000000 in
set_option maxRecDepth 100000 in
theorem r_key (h : OMem w0 w os) (hi : os[i]? = some (.ref b V)) (hn : V.good.length ≤ 100000) :
    Calls Try.prog 20 #[.pointer (some ⟨b, 0, none⟩)] w fun e w' => e = .returned (.int .i64 (V.good.length : Int)) ∧ OMem w0 w' (os.set i (.ref b (key V))) := by
  obtain ⟨g, o, t, hc, hch⟩ := h.ref hi
  have hba : Below w.heap.size w (w.alloc (.cells #[.bool true] 4)) := (Below.refl _ _).alloc (Nat.le_refl _) _
  have hq := (MapKept.heap_alloc w (.cells #[.bool true] 4)).1
  obtain ⟨g', w3, r1, ho, hg, hat, a', c', hg'⟩ := run_push_bool g V.good true _ w.heap.size (hc.fresh hba).grow (by rw [Lib.cell_of_heap hq]; rfl) hn
  obtain ⟨hm1, hmv, e1, f1⟩ := hc.push_g hba hg ho hat
  obtain ⟨c0, -, -⟩ := hc.cell
  have e2 := hm1.cell.1
  obtain ⟨ga, gc, hgf⟩ := own_form hc.grow
  subst hgf hg'
  have HD := Lib.hid (hch _ (key V) _ _ _ hmv hm1)
  have HP := Lib.hid r1
  clear hc hch hba hq r1 ho hg hat hm1 hmv h
  go_enter Try.func20, Try.ntmps20
  go_wp2_with (at_builtin; refine Hid.out ?_)
  refine Lib.hid ?_
  refine Lib.wpList_append_run _ rfl _ _ _ _ rfl _ _ rfl rfl _ _ HP.out ?_
  go_wp2
  go_ret
  exact ⟨rfl, HD.out⟩
set_option maxHeartbeats 1000000 in
set_option maxRecDepth 100000 in
theorem r_state (h : OMem w0 w os) (hi : os[i]? = some (.ref b V)) (k : Int) :
    Calls Try.prog 29 #[.pointer (some ⟨b, 0, none⟩), .int .i64 k] w fun e w' => e = .returned (.int .i64 (st V k)) ∧ w = w' := by
  obtain ⟨g, o, t, hc, _⟩ := h.ref hi
  obtain ⟨c0, -, -⟩ := hc.cell
  by_cases h0 : 0 ≤ k ∧ k < (V.good.length : Int)
  case neg =>
    rw [key_no h0]
    obtain ⟨ga, gc, hgf⟩ := own_form hc.grow
    subst hgf
    clear hc h
    by_cases h1 : k < 0
    · clear h0
      go_enter Try.func29, Try.ntmps29
      go_wp2
      go_ret
      exact ⟨rfl, rfl⟩
    · have h2 : ¬ k < (V.good.length : Int) := by omega
      clear h0
      go_enter Try.func29, Try.ntmps29
      go_wp2
      go_ret
      exact ⟨rfl, rfl⟩
  obtain ⟨k, rfl⟩ : ∃ m : Nat, k = (m : Int) := ⟨k.toNat, by omega⟩
  have hk : k < V.good.length := by omega
  obtain ⟨x, gc, rfl⟩ := own_some hc.grow (by omega)
  rw [st_some hk]
  have c1 := own_at hc.grow (j := k) (y := .bool V.good[k]) (by unfold boolVs; rw [List.getElem?_map, List.getElem?_eq_getElem hk]; rfl)
  clear hc h h0
  cases hg : V.good[k] with
  | true =>
    rw [hg] at c1
    clear hg
    go_enter Try.func29, Try.ntmps29
    go_wp2
    go_ret
    exact ⟨rfl, rfl⟩
  | false =>
    rw [hg] at c1
    clear hg
    go_enter Try.func29, Try.ntmps29
    go_wp2
    go_ret
    exact ⟨rfl, rfl⟩
set_option maxHeartbeats 1000000 in
set_option maxRecDepth 100000 in
theorem r_destroy (h : OMem w0 w os) (hi : os[i]? = some (.ref b V)) (k : Int) :
    Calls Try.prog 23 #[.pointer (some ⟨b, 0, none⟩), .int .i64 k] w fun e w' => e = .returned (.int .i64 (destroy V k).1) ∧ OMem w0 w' (os.set i (.ref b (destroy V k).2)) := by
  have HS := r_state h hi k
  rcases st_cases V k with h0 | h0 | h0
  · have hd : destroy V k = (4, V) := by unfold destroy; rw [h0]; rfl
    rw [h0] at HS
    have HS := Lib.hid HS
    rw [hd, set_noop hi]
    clear hd h0
    go_enter Try.func23, Try.ntmps23
    go_wp2_with (go_at_call 29; refine (HS.out).mono ?_; rintro e w1 ⟨rfl, rfl⟩; refine Hid.out ?_)
    refine Lib.hid ?_
    go_wp2
    go_ret
    exact ⟨rfl, h⟩
  · have hlt := st_lt (V := V) (k := k) (by rw [h0]; decide)
    obtain ⟨k, rfl⟩ : ∃ m : Nat, k = (m : Int) := ⟨k.toNat, by omega⟩
    have hk : k < V.good.length := by omega
    have hd : destroy V k = (0, { V with good := V.good.set k false }) := by unfold destroy; rw [h0]; rfl
    rw [h0] at HS
    have HS := Lib.hid HS
    obtain ⟨g, o, t, hc, hch⟩ := h.ref hi
    obtain ⟨c0, -, -⟩ := hc.cell
    obtain ⟨x, gc, rfl⟩ := own_some hc.grow (by omega)
    have c1 := own_at hc.grow (j := k) (y := .bool V.good[k]) (by unfold boolVs; rw [List.getElem?_map, List.getElem?_eq_getElem hk]; rfl)
    have f1 := own_fz hc.grow k
    obtain ⟨hm, hmv⟩ := hc.wipe (k := k)
    rw [List.length_set] at hm
    have HD := Lib.hid (hch _ { V with good := V.good.set k false } _ _ _ hmv hm)
    rw [hd]
    clear hd h0 hlt hc hch hm hmv h
    go_enter Try.func23, Try.ntmps23
    go_wp2_with (go_at_call 29; refine (HS.out).mono ?_; rintro e w1 ⟨rfl, rfl⟩; refine Hid.out ?_)
    refine Lib.hid ?_
    go_wp2
    go_ret
    exact ⟨rfl, HD.out⟩
  · have hd : destroy V k = (5, V) := by unfold destroy; rw [h0]; rfl
    rw [h0] at HS
    have HS := Lib.hid HS
    rw [hd, set_noop hi]
    clear hd h0
    go_enter Try.func23, Try.ntmps23
    go_wp2_with (go_at_call 29; refine (HS.out).mono ?_; rintro e w1 ⟨rfl, rfl⟩; refine Hid.out ?_)
    refine Lib.hid ?_
    go_wp2
    go_ret
    exact ⟨rfl, h⟩
set_option maxHeartbeats 2000000 in
set_option maxRecDepth 100000 in
theorem r_lock (h : OMem w0 w os) (hi : os[i]? = some (.ref b V)) (k : Int) (s : ByteArray) (hn : V.boxes.length ≤ 100000) :
    Calls Try.prog 21 #[.pointer (some ⟨b, 0, none⟩), .int .i64 k, .string s] w fun e w' => e = .returned (.tuple #[.int .i64 (lock V k s).1.1, .int .i64 (lock V k s).1.2]) ∧ OMem w0 w' (os.set i (.ref b (lock V k s).2)) := by
  have HS := r_state h hi k
  rcases st_cases V k with h0 | h0 | h0
  · have hd : lock V k s = ((0, 4), V) := by unfold lock; rw [h0]; rfl
    rw [h0] at HS
    have HS := Lib.hid HS
    rw [hd, set_noop hi]
    clear hd h0
    go_enter Try.func21, Try.ntmps21
    go_wp2_with (go_at_call 29; refine (HS.out).mono ?_; rintro e w1 ⟨rfl, rfl⟩; refine Hid.out ?_)
    refine Lib.hid ?_
    go_wp2
    go_ret2
    exact ⟨rfl, h⟩
  · have hlt := st_lt (V := V) (k := k) (by rw [h0]; decide)
    have hd : lock V k s = (((V.boxes.length : Int), 0), { V with boxes := V.boxes ++ [(k.toNat, s)] }) := by unfold lock; rw [h0]; rfl
    rw [h0] at HS
    have HS := Lib.hid HS
    obtain ⟨g, o, t, hc, hch⟩ := h.ref hi
    obtain ⟨_, c1, _⟩ := hc.cell
    have hba : Below w.heap.size w (w.alloc (.cells #[.int .i64 k] 3)) := (Below.refl _ _).alloc (Nat.le_refl _) _
    have hq := (MapKept.heap_alloc w (.cells #[.int .i64 k] 3)).1
    obtain ⟨o', w3, r1, ho1, hg1, hat1, oa', oc', ho'⟩ := run_push_int o (keysOf V) k _ w.heap.size (hc.fresh hba).orow (by rw [Lib.cell_of_heap hq]; rfl) (by rw [keysOf_length]; exact hn)
    obtain ⟨hm1, hmv1, e1, f1⟩ := hc.push_o hba hg1 ho1 hat1
    obtain ⟨oa, oc, hof⟩ := own_form hc.orow
    rw [keysOf_length] at hof ho'
    subst hof ho'
    generalize hw4 : w3.setCell ⟨b, 1, none⟩ (.slice oa' (V.boxes.length + 1) oc') = w4 at hm1 hmv1
    have hbb : Below w4.heap.size w4 (w4.alloc (.cells #[.string s] 9)) := (Below.refl _ _).alloc (Nat.le_refl _) _
    have hq2 := (MapKept.heap_alloc w4 (.cells #[.string s] 9)).1
    obtain ⟨t', w5, r2, ho2, hg2, hat2, ta', tc', ht'⟩ := run_push_str t (textsOf V) s _ w4.heap.size (hm1.fresh hbb).trow (by rw [Lib.cell_of_heap hq2]; rfl) (by rw [textsOf_length]; exact hn)
    obtain ⟨hm2, hmv2, e2, f2⟩ := hm1.push_t hbb hg2 ho2 hat2
    have c2 := hm1.cell.2.2
    have c3 := hm2.cell.2.1
    obtain ⟨ta, tc, htf⟩ := own_form hc.trow
    rw [textsOf_length] at htf ht'
    subst htf ht'
    have HD := Lib.hid (hch _ { V with boxes := V.boxes ++ [(k.toNat, s)] } _ _ _ (hmv1.trans hmv2) (by
      have hkk : ((k.toNat : Nat) : Int) = k := by omega
      simp only [keysOf, textsOf, List.map_append, List.map_cons, List.map_nil, hkk]
      exact hm2))
    have HP := Lib.hid r1
    have HP2 := Lib.hid r2
    rw [hd]
    clear hd h0 hlt hc hch hba hq ho1 hg1 hat1 hm1 hmv1 hbb hq2 ho2 hg2 hat2 hm2 hmv2 h r1 r2
    go_enter Try.func21, Try.ntmps21
    go_wp2_with (go_at_call 29; refine (HS.out).mono ?_; rintro e w1 ⟨rfl, rfl⟩; refine Hid.out ?_)
    refine Lib.hid ?_
    go_wp2_with (at_builtin; refine Hid.out ?_)
    refine Lib.hid ?_
    refine Lib.wpList_append_run _ rfl _ _ _ _ rfl _ _ rfl rfl _ _ HP.out ?_
    go_wp2_with (at_builtin; refine Hid.out ?_)
    refine Lib.hid ?_
    refine Lib.wpList_append_run _ rfl _ _ _ _ rfl _ _ rfl rfl _ _ HP2.out ?_
    go_wp2
    go_ret2
    exact ⟨rfl, HD.out⟩
  · have hd : lock V k s = ((0, 13), V) := by unfold lock; rw [h0]; rfl
    rw [h0] at HS
    have HS := Lib.hid HS
    rw [hd, set_noop hi]
    clear hd h0
    go_enter Try.func21, Try.ntmps21
    go_wp2_with (go_at_call 29; refine (HS.out).mono ?_; rintro e w1 ⟨rfl, rfl⟩; refine Hid.out ?_)
    refine Lib.hid ?_
    go_wp2
    go_ret2
    exact ⟨rfl, h⟩
set_option maxHeartbeats 2000000 in
set_option maxRecDepth 100000 in
theorem r_open (h : OMem w0 w os) (hi : os[i]? = some (.ref b V)) (k j : Int) :
    Calls Try.prog 22 #[.pointer (some ⟨b, 0, none⟩), .int .i64 k, .int .i64 j] w (OpenPost w (opens V k j).1 (opens V k j).2) := by
  have HS := r_state h hi k
  obtain ⟨g, o, t, hc, _⟩ := h.ref hi
  obtain ⟨-, c1, c2⟩ := hc.cell
  by_cases h0 : j < 0 ∨ (V.boxes.length : Int) ≤ j
  · rw [opens_none h0]
    obtain ⟨oa, oc, hof⟩ := own_form hc.orow
    rw [keysOf_length] at hof
    subst hof
    clear hc h HS
    by_cases h1 : j < 0
    · clear h0
      go_enter Try.func22, Try.ntmps22
      go_wp2
      go_ret2
      exact ⟨rfl, Below.refl _ _⟩
    · have h2 : (V.boxes.length : Int) ≤ j := by omega
      clear h0
      go_enter Try.func22, Try.ntmps22
      go_wp2
      go_ret2
      exact ⟨rfl, Below.refl _ _⟩
  obtain ⟨j, rfl⟩ : ∃ m : Nat, j = (m : Int) := ⟨j.toNat, by omega⟩
  have hj : j < V.boxes.length := by omega
  have hbx : V.boxes[j]? = some (V.boxes[j].1, V.boxes[j].2) := List.getElem?_eq_getElem hj
  have ho := opens_some (k := k) hbx
  generalize V.boxes[j].1 = q at hbx ho
  generalize V.boxes[j].2 = s at hbx ho
  obtain ⟨x, oc, hof⟩ := own_some hc.orow (by rw [keysOf_length]; omega)
  obtain ⟨y, tc, htf⟩ := own_some hc.trow (by rw [textsOf_length]; omega)
  have hor := hc.orow
  have htr := hc.trow
  rw [keysOf_length] at hof hor
  rw [textsOf_length] at htf htr
  subst hof htf
  have d1 := own_at hor (j := j) (y := .int .i64 (q : Int)) (by unfold intVs keysOf; rw [List.getElem?_map, List.getElem?_map, hbx]; rfl)
  have d2 := own_at htr (j := j) (y := .string s) (by unfold strVs textsOf; rw [List.getElem?_map, List.getElem?_map, hbx]; rfl)
  clear hc h h0 hor htr hbx
  by_cases h2 : (q : Int) = k
  case neg =>
    rw [ho, if_neg (fun z => h2 z.1)]
    clear ho HS
    go_enter Try.func22, Try.ntmps22
    go_wp2
    go_ret2
    exact ⟨rfl, Below.refl _ _⟩
  subst h2
  rcases st_cases V q with h0 | h0 | h0
  · rw [h0] at HS
    have HS := Lib.hid HS
    rw [ho, if_neg (fun z => absurd (h0.symm.trans z.2) (by decide))]
    clear ho h0
    go_enter Try.func22, Try.ntmps22
    go_wp2_with (go_at_call 29; refine (HS.out).mono ?_; rintro e w1 ⟨rfl, rfl⟩; refine Hid.out ?_)
    refine Lib.hid ?_
    go_wp2
    go_ret2
    exact ⟨rfl, Below.refl _ _⟩
  · rw [h0] at HS
    have HS := Lib.hid HS
    rw [ho, if_pos ⟨rfl, h0⟩]
    clear ho h0
    go_enter Try.func22, Try.ntmps22
    go_wp2_with (go_at_call 29; refine (HS.out).mono ?_; rintro e w1 ⟨rfl, rfl⟩; refine Hid.out ?_)
    refine Lib.hid ?_
    go_wp2
    go_ret2
    exact ⟨rfl, Below.refl _ _⟩
  · rw [h0] at HS
    have HS := Lib.hid HS
    rw [ho, if_neg (fun z => absurd (h0.symm.trans z.2) (by decide))]
    clear ho h0
    go_enter Try.func22, Try.ntmps22
    go_wp2_with (go_at_call 29; refine (HS.out).mono ?_; rintro e w1 ⟨rfl, rfl⟩; refine Hid.out ?_)
    refine Lib.hid ?_
    go_wp2
    go_ret2
    exact ⟨rfl, Below.refl _ _⟩
set_option maxHeartbeats 4000000 in
set_option maxRecDepth 100000 in
theorem r_do (h : OMem w0 w os) (hi : os[i]? = some (.ref b V)) (o : VOp) (hf : Fine V 100000) (hs : o.text.size ≤ 281474976710656) :
    Calls Try.prog 12 #[.pointer (some ⟨b, 0, none⟩), opV o] w fun e w' => e = .returned (doneV (act V o).1) ∧ OMem w0 w' (os.set i (.ref b (act V o).2)) := by
  have M1 := Lib.hid (h.two (.cells #[.int .i64 o.do_, .int .i64 o.key, .int .i64 o.box, .string o.text] 34) (.cells #[.int .i64 0, .string ⟨#[]⟩, .int .i64 0] 31))
  clear h
  obtain ⟨d, k, j, s⟩ := o
  unfold opV
  have hF := Lib.hid hf
  have hS := Lib.hid hs
  clear hf hs
  by_cases h0 : d = 0
  · subst h0
    have ha : act V ⟨0, k, j, s⟩ = (⟨V.good.length, xE, 0⟩, key V) := rfl
    rw [ha]
    clear ha
    go_enter Try.func12, Try.ntmps12
    go_wp2_with (go_at_call 20; refine (r_key M1.out (get_two hi) hF.out.good).mono ?_; rintro e w2 ⟨rfl, m2⟩; refine Hid.out ?_)
    refine Lib.hid ?_
    rw [set_two hi] at m2
    have r2 := m2.raw_at (i := (os.set i (.ref b (key V))).length + 1) get_last
    have g0 : (w2).cell? ⟨w.heap.size + 1, 0, none⟩ = some (.int .i64 0) := by rw [Lib.cell_of_heap r2]; rfl
    have g1 : (w2).cell? ⟨w.heap.size + 1, 1, none⟩ = some (.string ⟨#[]⟩) := by rw [Lib.cell_of_heap r2]; rfl
    have g2 : (w2).cell? ⟨w.heap.size + 1, 2, none⟩ = some (.int .i64 0) := by rw [Lib.cell_of_heap r2]; rfl
    have z0 : (w2).frozen? ⟨w.heap.size + 1, 0, none⟩ = false := Lib.frozen_of_heap r2 0
    have z1 : (w2).frozen? ⟨w.heap.size + 1, 1, none⟩ = false := Lib.frozen_of_heap r2 1
    have z2 : (w2).frozen? ⟨w.heap.size + 1, 2, none⟩ = false := Lib.frozen_of_heap r2 2
    have M2 := Lib.hid m2
    clear m2 r2
    go_wp2
    have m3 := done_out (x' := .int .i64 (V.good.length)) (y' := .string xE) (z' := .int .i64 (0)) M2.out
    have r3 := m3.raw_at (i := (os.set i (.ref b (key V))).length + 1) get_last
    refine bodyPost_ret (results_cell_row (d := _) rfl _ _ (w.heap.size + 1) 31 #[.int .i64 (V.good.length), .string xE, .int .i64 (0)] (0, 0) rfl r3 Try.underlying31 rfl (by kernel_rfl)) rfl ⟨rfl, m3.drop_two⟩
  by_cases h1 : d = 1
  · subst h1
    have ha : act V ⟨1, k, j, s⟩ = (⟨(lock V k s).1.1, xE, (lock V k s).1.2⟩, (lock V k s).2) := rfl
    have HL := r_lock M1.out (get_two hi) k s hF.out.boxes
    rw [ha]
    generalize lock V k s = r at HL
    obtain ⟨⟨n, er⟩, V2⟩ := r
    have HL := Lib.hid HL
    clear ha h0
    go_enter Try.func12, Try.ntmps12
    go_wp2_with (go_at_call 21; refine (HL.out).mono ?_; rintro e w2 ⟨rfl, m2⟩; refine Hid.out ?_)
    refine Lib.hid ?_
    rw [set_two hi] at m2
    have r2 := m2.raw_at (i := (os.set i (.ref b V2)).length + 1) get_last
    have g0 : (w2).cell? ⟨w.heap.size + 1, 0, none⟩ = some (.int .i64 0) := by rw [Lib.cell_of_heap r2]; rfl
    have g1 : (w2).cell? ⟨w.heap.size + 1, 1, none⟩ = some (.string ⟨#[]⟩) := by rw [Lib.cell_of_heap r2]; rfl
    have g2 : (w2).cell? ⟨w.heap.size + 1, 2, none⟩ = some (.int .i64 0) := by rw [Lib.cell_of_heap r2]; rfl
    have z0 : (w2).frozen? ⟨w.heap.size + 1, 0, none⟩ = false := Lib.frozen_of_heap r2 0
    have z1 : (w2).frozen? ⟨w.heap.size + 1, 1, none⟩ = false := Lib.frozen_of_heap r2 1
    have z2 : (w2).frozen? ⟨w.heap.size + 1, 2, none⟩ = false := Lib.frozen_of_heap r2 2
    have M2 := Lib.hid m2
    clear m2 r2
    go_wp2
    have m3 := done_out (x' := .int .i64 (n)) (y' := .string xE) (z' := .int .i64 (er)) M2.out
    have r3 := m3.raw_at (i := (os.set i (.ref b V2)).length + 1) get_last
    refine bodyPost_ret (results_cell_row (d := _) rfl _ _ (w.heap.size + 1) 31 #[.int .i64 (n), .string xE, .int .i64 (er)] (0, 0) rfl r3 Try.underlying31 rfl (by kernel_rfl)) rfl ⟨rfl, m3.drop_two⟩
  by_cases h2 : d = 2
  · subst h2
    have ha : act V ⟨2, k, j, s⟩ = (⟨0, (opens V k j).1, (opens V k j).2⟩, V) := rfl
    have HL := r_open M1.out (get_two hi) k j 
    rw [ha, set_noop hi]
    generalize opens V k j = r at HL
    obtain ⟨t, er⟩ := r
    have HL := Lib.hid HL
    clear ha h0 h1
    go_enter Try.func12, Try.ntmps12
    go_wp2_with (go_at_call 22; refine (HL.out).mono ?_; rintro e w2 ⟨rfl, hb2⟩; refine Hid.out ?_)
    refine Lib.hid ?_
    have m2 := M1.out.fresh hb2
    clear hb2
    have r2 := m2.raw_at (i := (os).length + 1) get_last
    have g0 : (w2).cell? ⟨w.heap.size + 1, 0, none⟩ = some (.int .i64 0) := by rw [Lib.cell_of_heap r2]; rfl
    have g1 : (w2).cell? ⟨w.heap.size + 1, 1, none⟩ = some (.string ⟨#[]⟩) := by rw [Lib.cell_of_heap r2]; rfl
    have g2 : (w2).cell? ⟨w.heap.size + 1, 2, none⟩ = some (.int .i64 0) := by rw [Lib.cell_of_heap r2]; rfl
    have z0 : (w2).frozen? ⟨w.heap.size + 1, 0, none⟩ = false := Lib.frozen_of_heap r2 0
    have z1 : (w2).frozen? ⟨w.heap.size + 1, 1, none⟩ = false := Lib.frozen_of_heap r2 1
    have z2 : (w2).frozen? ⟨w.heap.size + 1, 2, none⟩ = false := Lib.frozen_of_heap r2 2
    have M2 := Lib.hid m2
    clear m2 r2
    go_wp2
    have m3 := done_out (x' := .int .i64 (0)) (y' := .string t) (z' := .int .i64 (er)) M2.out
    have r3 := m3.raw_at (i := (os).length + 1) get_last
    refine bodyPost_ret (results_cell_row (d := _) rfl _ _ (w.heap.size + 1) 31 #[.int .i64 (0), .string t, .int .i64 (er)] (0, 0) rfl r3 Try.underlying31 rfl (by kernel_rfl)) rfl ⟨rfl, m3.drop_two⟩
  by_cases h3 : d = 3
  · subst h3
    have ha : act V ⟨3, k, j, s⟩ = (⟨0, xE, (destroy V k).1⟩, (destroy V k).2) := rfl
    have HL := r_destroy M1.out (get_two hi) k
    rw [ha]
    generalize destroy V k = r at HL
    obtain ⟨er, V2⟩ := r
    have HL := Lib.hid HL
    clear ha h0 h1 h2
    go_enter Try.func12, Try.ntmps12
    go_wp2_with (go_at_call 23; refine (HL.out).mono ?_; rintro e w2 ⟨rfl, m2⟩; refine Hid.out ?_)
    refine Lib.hid ?_
    rw [set_two hi] at m2
    have r2 := m2.raw_at (i := (os.set i (.ref b V2)).length + 1) get_last
    have g0 : (w2).cell? ⟨w.heap.size + 1, 0, none⟩ = some (.int .i64 0) := by rw [Lib.cell_of_heap r2]; rfl
    have g1 : (w2).cell? ⟨w.heap.size + 1, 1, none⟩ = some (.string ⟨#[]⟩) := by rw [Lib.cell_of_heap r2]; rfl
    have g2 : (w2).cell? ⟨w.heap.size + 1, 2, none⟩ = some (.int .i64 0) := by rw [Lib.cell_of_heap r2]; rfl
    have z0 : (w2).frozen? ⟨w.heap.size + 1, 0, none⟩ = false := Lib.frozen_of_heap r2 0
    have z1 : (w2).frozen? ⟨w.heap.size + 1, 1, none⟩ = false := Lib.frozen_of_heap r2 1
    have z2 : (w2).frozen? ⟨w.heap.size + 1, 2, none⟩ = false := Lib.frozen_of_heap r2 2
    have M2 := Lib.hid m2
    clear m2 r2
    go_wp2
    have m3 := done_out (x' := .int .i64 (0)) (y' := .string xE) (z' := .int .i64 (er)) M2.out
    have r3 := m3.raw_at (i := (os.set i (.ref b V2)).length + 1) get_last
    refine bodyPost_ret (results_cell_row (d := _) rfl _ _ (w.heap.size + 1) 31 #[.int .i64 (0), .string xE, .int .i64 (er)] (0, 0) rfl r3 Try.underlying31 rfl (by kernel_rfl)) rfl ⟨rfl, m3.drop_two⟩
  have ha : act V ⟨d, k, j, s⟩ = (⟨0, xE, 0⟩, V) := by unfold act; rw [if_neg h0, if_neg h1, if_neg h2, if_neg h3]
  rw [ha, set_noop hi]
  clear ha
  have d0 : (d == 0) = false := by simpa using h0
  have d1 : (d == 1) = false := by simpa using h1
  have d2 : (d == 2) = false := by simpa using h2
  have d3 : (d == 3) = false := by simpa using h3
  clear h0 h1 h2 h3
  go_enter Try.func12, Try.ntmps12
  go_wp2
  have r3 := M1.out.raw_at (i := os.length + 1) get_last
  refine bodyPost_ret (results_cell_row (d := _) rfl _ _ (w.heap.size + 1) 31 #[.int .i64 0, .string ⟨#[]⟩, .int .i64 0] (0, 0) rfl r3 Try.underlying31 rfl (by kernel_rfl)) rfl ⟨rfl, M1.out.drop_two⟩
end
end Go.Proofs.Ytkicdfoncopklaa
