/- part: a graph of some of the nodes. -/
import Derived.Test.YtihnnffhpgbgjaaPordin
import Derived.RangeFuncBox
import Derived.Deep.QuietTactic
namespace Go.Proofs.Ytihnnffhpgbgjaa
open Go.RowKit Go.Maps Go.ChangeMaps Go.MapKept Go.Shelf
open Gp
attribute [local go_sem] Oper.semAt_some

section
variable {w : World} {b mb c : Nat} {G : List Nd} {pv : Int → Value} {S : Nat → Prop}
theorem new_in (w : World) : Calls Try.prog 7 #[] w fun e w' => e = .returned (.pointer (some ⟨w.heap.size + 1, 0, none⟩)) ∧ w' = (w.alloc (.map #[] 0)).alloc (.cells #[.map (some w.heap.size)] 54) := by
  have hmm := @run_makeMap Try.prog
  go_enter Try.func7, Try.ntmps7
  go_wp2
  go_ret
  exact ⟨rfl, rfl⟩
open Classical in
/-- A store at whatever key. -/
theorem IMap.put {m : Int → Option Value} {t e : TypeId} (h : IMap w b c m) (ht : Try.prog.underlying t = some (.map 3 e)) (hn : c < maxLen) {x : Int} (hw : (Lit.int .i64 x).wf = true) (v : Value) :
    ∃ w' c', (Instr.mapUpdate t (.map (some b)) (.int .i64 x) v).run Try.prog w = .ok () w' ∧ IMap w' b c' (fun y => if y = x then some v else m y) ∧ c' ≤ c + 1 ∧ w.grownBy w' (some b) := by
  obtain ⟨D, h1, hc, ha, hh⟩ := h.is
  obtain ⟨w', hr, h', hg⟩ := h1.update kI ht hn (keyOf_int_mk Try.underlying3 hw) (val := v) (d := .held v) (ps := []) rfl
  refine ⟨w', Maps.size (D.put (.int .i64 x) (.held v)), hr, ⟨⟨D.put (.int .i64 x) (.held v), owns_tight h' rfl, rfl, fun kl z => ?_, fun kl => ?_⟩, fun y hy => ?_⟩, ?_, hg⟩
  · by_cases e : kl = .int .i64 x
    · subst e; rw [Maps.atKey_put_same h1.isMap (kI.key (keyOf_int_mk Try.underlying3 hw))]; simp [onInt]
    · rw [Maps.atKey_put_other e, ha]
      unfold onInt
      split
      · rename_i y
        show _ = DataW.held ((if y = x then some v else m y).getD z)
        rw [if_neg fun q => e (by rw [q])]
      · rfl
  · by_cases e : kl = .int .i64 x
    · subst e; rw [Maps.has_put_same h1.isMap (kI.key (keyOf_int_mk Try.underlying3 hw))]; simp [onInt]
    · rw [Maps.has_put_other e, hh]
      unfold onInt
      split
      · rename_i y
        show _ = (if y = x then some v else m y).isSome
        rw [if_neg fun q => e (by rw [q])]
      · rfl
  · by_cases e : y = x
    · subst e; exact hw
    · rw [if_neg e] at hy; exact h.wf y hy
  · rw [Maps.size_put (h1.tidy kI)]
    split <;> omega
theorem IMap.count {m : Int → Option Value} (h : IMap w b c m) {T : List Int} (hn : T.Nodup) (hT : ∀ x, x ∈ T ↔ (m x).isSome = true) : c = T.length := by
  obtain ⟨D, hown, hsz, hp, _⟩ := h.keys hn hT
  obtain ⟨es, rfl, _⟩ := hown.entries kI
  rw [hp.length_eq, ← hsz]
  simp [intKeys, Maps.size]
theorem own_cells {w : World} {v : Value} {n size : Nat} {e : TypeId} {xs : List Value} (h : w.ownsRow 0 e size v n xs) (y : Nat) (hy : v.ownBlock = some y) : ∃ cs e f, w.heap[y]? = some (.cells cs e f) := by
  rcases h.2 with ⟨rfl, _⟩ | ⟨g, cap, cur, rfl, _, hg, _⟩
  · cases hy
  · cases hy; exact ⟨_, _, _, hg⟩
/-- A part under way: what is there behind some rounds. -/
structure PartI (w : World) (b : Nat) (G : List Nd) (pre : List Int) (W : World) : Prop where
  below : Below w.heap.size w W
  box : W.cell? ⟨w.heap.size, 0, none⟩ = some (.pointer (some ⟨b, 0, none⟩))
  st : W.heap[w.heap.size + 2]? = some (.cells #[.map (some (w.heap.size + 1))] 54 (0, 0))
  pb : W.cell? ⟨w.heap.size + 3, 0, none⟩ = some (.pointer (some ⟨w.heap.size + 2, 0, none⟩))
  map : ∃ (cc : Nat) (pv' : Int → Value), cc ≤ pre.length ∧ IMap W (w.heap.size + 1) cc (fun x => if x ∈ pre then some (.agg #[pv' x, .int .i64 (lev G x)]) else none) ∧
    ∀ x ∈ pre, NumsAt W (pv' x) (par G x) ∧ ∀ y, (pv' x).ownBlock = some y → w.heap.size + 4 ≤ y ∧ ∃ cs e f, W.heap[y]? = some (.cells cs e f)
theorem cells_kept {W W' : World} {row : Option Nat} {y : Nat} {cs : Array Value} {e : TypeId} {f : Nat × Nat} (h : W.heap[y]? = some (.cells cs e f)) (hg : W.grownBy W' row) (hr : ∀ r, row = some r → ∃ o : Obj, W.heap[r]? = some o ∧ o.isCells = false) : W'.heap[y]? = some (.cells cs e f) :=
  (hg.block y (lt_heap h) (fun q => by
    obtain ⟨o, ho, hc⟩ := hr y q.symm
    rw [h] at ho
    cases ho
    cases hc)).trans h
theorem NumsAt.grown {W W' : World} {row : Option Nat} {v : Value} {l : List Int} (h : NumsAt W v l) (hg : W.grownBy W' row) (hr : ∀ r, row = some r → ∃ o : Obj, W.heap[r]? = some o ∧ o.isCells = false) : NumsAt W' v l := by
  obtain ⟨a, cap, rfl, hl, hc⟩ := h
  refine ⟨a, cap, rfl, hl, fun k z hk => ?_⟩
  obtain ⟨x, off, rfl, c0⟩ := hc k z hk
  exact ⟨x, off, rfl, cell_kept c0 hg hr⟩
theorem PartI.own (A : Int → Prop) {B : Nat} (hB : B = w.heap.size + 4) : OwnFrom B (fun (pre : List (KeyT A)) W => PartI w b G (pre.map (·.1)) W) := fun pre W W' row h hg hr => by
  have hr2 := fun r e => (hr r e).2
  obtain ⟨cc, pv', h1, h2, h3⟩ := h.map
  have hb := h.below
  refine ⟨?_, cell_kept h.box hg hr2, cells_kept h.st hg hr2, cell_kept h.pb hg hr2, cc, pv', h1, h2.block (hg.block _ h2.lt (fun q => by have := (hr _ q.symm).1; omega)), fun x hx => ⟨(h3 x hx).1.grown hg hr2, fun y hy => ?_⟩⟩
  · exact below_grown hb hg (fun x e => by have := (hr x e).1; omega)
  · obtain ⟨q1, cs, e, f, q2⟩ := (h3 x hx).2 y hy
    exact ⟨q1, cs, e, f, cells_kept q2 hg hr2⟩
theorem part_start (w : World) (b : Nat) (G : List Nd) {W : World} (hW : ((((w.alloc (.cells #[.pointer (some ⟨b, 0, none⟩)] 26)).alloc (.map #[] 0)).alloc (.cells #[.map (some (w.heap.size + 1))] 54)).alloc (.cells #[.pointer (some ⟨w.heap.size + 1 + 1, 0, none⟩)] 26)) = W) :
    PartI w b G [] W ∧ W.heap.size = w.heap.size + 4 := by
  subst hW
  generalize h1 : w.alloc (.cells #[.pointer (some ⟨b, 0, none⟩)] 26) = w1
  have s1 : w1.heap.size = w.heap.size + 1 := by rw [← h1]; simp
  have k1 : w1.cell? ⟨w.heap.size, 0, none⟩ = some (.pointer (some ⟨b, 0, none⟩)) := by rw [← h1]; exact cells_new w _ _ 0 _ rfl
  have b1 : Below w.heap.size w w1 := by rw [← h1]; exact (Below.refl _ _).alloc (Nat.le_refl _) _
  generalize h2 : w1.alloc (.map #[] 0) = w2
  have s2 : w2.heap.size = w.heap.size + 2 := by rw [← h2]; simp [s1]
  have b2 : Below w1.heap.size w1 w2 := by rw [← h2]; exact (Below.refl _ _).alloc (Nat.le_refl _) _
  have m2 : IMap w2 w1.heap.size 0 (fun _ => none) := by rw [← h2]; exact iMap_made w1
  rw [s1] at m2
  generalize h3 : w2.alloc (.cells #[.map (some (w.heap.size + 1))] 54) = w3
  have s3 : w3.heap.size = w.heap.size + 3 := by rw [← h3]; simp [s2]
  have b3 : Below w2.heap.size w2 w3 := by rw [← h3]; exact (Below.refl _ _).alloc (Nat.le_refl _) _
  have k3 : w3.heap[w2.heap.size]? = some (.cells #[.map (some (w.heap.size + 1))] 54 (0, 0)) := by rw [← h3]; exact (MapKept.heap_alloc w2 _).1
  rw [s2] at k3
  generalize h4 : w3.alloc (.cells #[.pointer (some ⟨w.heap.size + 1 + 1, 0, none⟩)] 26) = w4
  have s4 : w4.heap.size = w.heap.size + 4 := by rw [← h4]; simp [s3]
  have b4 : Below w3.heap.size w3 w4 := by rw [← h4]; exact (Below.refl _ _).alloc (Nat.le_refl _) _
  have k4 : w4.cell? ⟨w3.heap.size, 0, none⟩ = some (.pointer (some ⟨w.heap.size + 2, 0, none⟩)) := by rw [← h4]; exact cells_new w3 _ _ 0 _ rfl
  rw [s3] at k4
  have b24 := b3.trans (b4.mono (by omega))
  have b14 := b2.trans (b24.mono (by omega))
  refine ⟨⟨b1.trans (b14.mono (by omega)), below_cell k1 b14, (b4.block _ (by omega)).trans k3, k4, 0, fun _ => .slice none 0 0, Nat.le_refl _, ?_, fun x hx => by cases hx⟩, s4⟩
  exact (m2.block (b24.block _ (by omega))).congr (fun x => by simp) rfl
set_option maxRecDepth 100000 in
set_option maxHeartbeats 4000000 in
theorem part_in (h : GIn w b mb G pv S) (hG : G.length ≤ 100) {mk gf : Nat} {lb : Array Value} (hmk : mk < w.heap.size) (eg : ∀ args w, (callFunc gf args).run Try.prog w = .ok (.enter gf args) w) {G' : List Nd} (ok' : Ok G') {N : Nat} (hN : N ≤ 100)
    (hseq : SeqStopsK Fence.wide 7 Try.prog gf lb (fun x : KeyT (· ∈ ids G) => #[.int .i64 x.1]) (KpM mk) (fun ss => (ss.map (·.1)).Nodup ∧ ∀ x, x ∈ ss.map (·.1) ↔ x ∈ ids G') (fun _ => True) N w)
    (hG' : ∀ x ∈ ids G', par G' x = par G x ∧ lev G' x = lev G x) :
    Calls Try.prog 46 #[.pointer (some ⟨b, 0, none⟩), .func (.func gf) #[] lb] w fun e w' => ∃ b' mb' pv' S', e = .returned (.pointer (some ⟨b', 0, none⟩)) ∧ GIn w' b' mb' G' pv' S' ∧ Below w.heap.size w w' ∧ (w.heap.size ≤ b' ∧ w.heap.size ≤ mb') ∧ ∀ x, S' x → w.heap.size ≤ x := by
  refine (callsIn_wide (n := 8)).1 ?_
  have cN := fun W => callsIn_wide (n := 7).2 (new_in W)
  have hfN : Fence.wide.fn 7 := trivial
  refine callsIn_of_wp_marks Try.func46 rfl trivial ?_ rfl
  simp only [Try.ntmps46, List.size_toArray, List.length_cons, List.length_nil, Nat.reduceAdd, Nat.reduceSub, Array.replicate_succ, Array.replicate_zero, List.push_toArray, List.append_toArray, List.nil_append, List.cons_append]
  gi_wp2_with (gi_at_call 7; refine (cN _).mono ?_; rintro e w' ⟨rfl, rfl⟩)
  obtain ⟨W0, hW0⟩ : ∃ W0, ((((w.alloc (.cells #[.pointer (some ⟨b, 0, none⟩)] 26)).alloc (.map #[] 0)).alloc (.cells #[.map (some (w.heap.size + 1))] 54)).alloc (.cells #[.pointer (some ⟨w.heap.size + 1 + 1, 0, none⟩)] 26)) = W0 := ⟨_, rfl⟩
  rw [hW0]
  obtain ⟨P0, s0⟩ := part_start w b G hW0
  clear hW0 cN
  have HG := Lib.hid h
  have HE := Lib.hid hG'
  have HOK := Lib.hid ok'
  clear h hG' ok'
  refine wpIn_rangeFunc_ownG rfl (by omega) (gf := gf) (lb := lb) rfl trivial eg hseq kpM_t (kpM_b (by omega)) P0.below (fun _ => rfl)
    (fun pre W => PartI w b G (pre.map (·.1)) W) (fun _ _ _ => False) (PartI.own _ s0) (fun _ _ _ _ _ hs _ _ => hs) P0
    (fun x => { tmps := #[.pointer (some ⟨b, 0, none⟩), .func (.func gf) #[] lb, .pointer (some ⟨w.heap.size, 0, none⟩), undef, .pointer none, .pointer (some ⟨w.heap.size + 1 + 1 + 1, 0, none⟩), .int .i64 x.1, undef, .pointer (some ⟨w.heap.size + 1 + 1, 0, none⟩), .func (.func gf) #[] lb, .int .i64 x.1, undef, undef, undef, undef, undef, undef, undef, undef, undef, undef, undef, undef, undef, undef, undef, undef, undef, undef], defers := [] }) ?assign ?body ?done ?stop
  case assign =>
    intro l x W K hK
    gi_wp2
    exact hK
  case body =>
    rintro l pre x W hI hlt
    have HI := Lib.hid hI
    have k1 := hI.box
    have hgW := HG.out.keep hI.below
    have c0 := hgW.c0
    obtain ⟨oa, oc, ol, hlook, hnums, hlev, _⟩ := hgW.look_all x.1
    have hlk := (hlook W hgW).2
    obtain rfl := hlev x.2
    have hNU := Lib.hid hnums
    clear hI hlook hnums hlev
    have hbA := (Below.refl W.heap.size W).alloc (Nat.le_refl _) (.cells #[.slice oa (par G x.1).length oc, .int .i64 (lev G x.1)] 57)
    have hbA2 := hbA.drew
    have st := HI.out.st
    have p0 : W.cell? ⟨w.heap.size + 2, 0, none⟩ = some (.map (some (w.heap.size + 1))) := by simp [World.cell?, st]
    have d0 := cells_new W #[.slice oa (par G x.1).length oc, .int .i64 (lev G x.1)] 57 0 _ rfl
    have d1 := cells_new W #[.slice oa (par G x.1).length oc, .int .i64 (lev G x.1)] 57 1 _ rfl
    have S0 := And.intro (below_cell HI.out.pb hbA2) (And.intro (below_cell p0 hbA2) (And.intro (below_cell d0 (below_drew _)) (below_cell d1 (below_drew _))))
    simp only [List.getElem_toArray, List.getElem_cons_zero, List.getElem_cons_succ] at S0
    have HB4 := Lib.hid hbA2
    have hpl := par_few HG.out.ok x.1
    have HC := Lib.hid (clone_any (hNU.out.keep hbA2) (by omega))
    clear hbA hbA2 st p0 d0 d1 hgW
    gi_wp2
    clear k1 c0 hlk
    generalize hw4 : W.alloc (.cells #[.slice oa (par G x.1).length oc, .int .i64 (lev G x.1)] 57) = w4 at S0 HB4 HC ⊢
    clear hw4
    refine region_till_in 11 (fun w' => w'.cell? ⟨w.heap.size + 3, 0, none⟩ = some (.pointer (some ⟨w.heap.size + 2, 0, none⟩)) ∧ w'.cell? ⟨w.heap.size + 2, 0, none⟩ = some (.map (some (w.heap.size + 1))) ∧ w'.cell? ⟨W.heap.size, 0, none⟩ = some (.slice oa (par G x.1).length oc) ∧ w'.cell? ⟨W.heap.size, 1, none⟩ = some (.int .i64 (lev G x.1))) (by kernel_rfl) (by kernel_rfl) ?hq ?_
    case hq => exact fun ⟨_, _, q⟩ => q
    refine till_take 0 16 true (v := ?v0) (by kernel_rfl) (by kernel_rfl) (by kernel_rfl) (by kernel_rfl) (by kernel_rfl) (fun _ _ _ h => h) ?hw0 S0 ?hy0 ?rest0
    case hw0 => (simp only [List.getElem?_toArray, List.getElem?_cons_zero, Option.elim]; rfl)
    case hy0 => (simp only [List.getElem?_toArray, List.getElem?_cons_zero, Option.elim]; intro wx hx; have x0 := (hx trivial).1; have x1 := (hx trivial).2.1; have x2 := (hx trivial).2.2.1; have x3 := (hx trivial).2.2.2; go_simp; with_reducible rfl)
    simp only [dstOf, List.getElem?_toArray, List.getElem?_cons_zero, Option.bind, Act.put, List.setIfInBounds_toArray, List.set_cons_zero, List.set_cons_succ]
    refine till_take 1 16 false (v := ?v1) (by kernel_rfl) (by kernel_rfl) (by kernel_rfl) (by kernel_rfl) (by kernel_rfl) (fun _ _ _ h => h) ?hw1 S0 ?hy1 ?rest1
    case hw1 => (simp only [List.getElem?_toArray, List.getElem?_cons_zero, List.getElem?_cons_succ, Option.elim]; rfl)
    case hy1 => (simp only [List.getElem?_toArray, List.getElem?_cons_zero, List.getElem?_cons_succ, Option.elim]; intro wx _; go_simp; with_reducible rfl)
    simp only [dstOf, List.getElem?_toArray, List.getElem?_cons_zero, List.getElem?_cons_succ, Option.bind, Act.put, List.setIfInBounds_toArray, List.set_cons_zero, List.set_cons_succ]
    refine till_take 2 16 false (v := ?v2) (by kernel_rfl) (by kernel_rfl) (by kernel_rfl) (by kernel_rfl) (by kernel_rfl) (fun _ _ _ h => h) ?hw2 S0 ?hy2 ?rest2
    case hw2 => (simp only [List.getElem?_toArray, List.getElem?_cons_zero, List.getElem?_cons_succ, Option.elim]; rfl)
    case hy2 => (simp only [List.getElem?_toArray, List.getElem?_cons_zero, List.getElem?_cons_succ, Option.elim]; intro wx _; go_simp; with_reducible rfl)
    simp only [dstOf, List.getElem?_toArray, List.getElem?_cons_zero, List.getElem?_cons_succ, Option.bind, Act.put, List.setIfInBounds_toArray, List.set_cons_zero, List.set_cons_succ]
    refine till_take 3 16 true (v := ?v3) (by kernel_rfl) (by kernel_rfl) (by kernel_rfl) (by kernel_rfl) (by kernel_rfl) (fun _ _ _ h => h) ?hw3 S0 ?hy3 ?rest3
    case hw3 => (simp only [List.getElem?_toArray, List.getElem?_cons_zero, List.getElem?_cons_succ, Option.elim]; rfl)
    case hy3 => (simp only [List.getElem?_toArray, List.getElem?_cons_zero, List.getElem?_cons_succ, Option.elim]; intro wx hx; have x0 := (hx trivial).1; have x1 := (hx trivial).2.1; have x2 := (hx trivial).2.2.1; have x3 := (hx trivial).2.2.2; go_simp; with_reducible rfl)
    simp only [dstOf, List.getElem?_toArray, List.getElem?_cons_zero, List.getElem?_cons_succ, Option.bind, Act.put, List.setIfInBounds_toArray, List.set_cons_zero, List.set_cons_succ]
    refine till_take 4 16 false (v := ?v4) (by kernel_rfl) (by kernel_rfl) (by kernel_rfl) (by kernel_rfl) (by kernel_rfl) (fun _ _ _ h => h) ?hw4 S0 ?hy4 ?rest4
    case hw4 => (simp only [List.getElem?_toArray, List.getElem?_cons_zero, List.getElem?_cons_succ, Option.elim]; rfl)
    case hy4 => (simp only [List.getElem?_toArray, List.getElem?_cons_zero, List.getElem?_cons_succ, Option.elim]; intro wx _; go_simp; with_reducible rfl)
    simp only [dstOf, List.getElem?_toArray, List.getElem?_cons_zero, List.getElem?_cons_succ, Option.bind, Act.put, List.setIfInBounds_toArray, List.set_cons_zero, List.set_cons_succ]
    refine till_take 5 16 false (v := ?v5) (by kernel_rfl) (by kernel_rfl) (by kernel_rfl) (by kernel_rfl) (by kernel_rfl) (fun _ _ _ h => h) ?hw5 S0 ?hy5 ?rest5
    case hw5 => (simp only [List.getElem?_toArray, List.getElem?_cons_zero, List.getElem?_cons_succ, Option.elim]; rfl)
    case hy5 => (simp only [List.getElem?_toArray, List.getElem?_cons_zero, List.getElem?_cons_succ, Option.elim]; intro wx _; go_simp; with_reducible rfl)
    simp only [dstOf, List.getElem?_toArray, List.getElem?_cons_zero, List.getElem?_cons_succ, Option.bind, Act.put, List.setIfInBounds_toArray, List.set_cons_zero, List.set_cons_succ]
    refine till_take 6 16 true (v := ?v6) (by kernel_rfl) (by kernel_rfl) (by kernel_rfl) (by kernel_rfl) (by kernel_rfl) (fun _ _ _ h => h) ?hw6 S0 ?hy6 ?rest6
    case hw6 => (simp only [List.getElem?_toArray, List.getElem?_cons_zero, List.getElem?_cons_succ, Option.elim]; rfl)
    case hy6 => (simp only [List.getElem?_toArray, List.getElem?_cons_zero, List.getElem?_cons_succ, Option.elim]; intro wx hx; have x0 := (hx trivial).1; have x1 := (hx trivial).2.1; have x2 := (hx trivial).2.2.1; have x3 := (hx trivial).2.2.2; go_simp; with_reducible rfl)
    simp only [dstOf, List.getElem?_toArray, List.getElem?_cons_zero, List.getElem?_cons_succ, Option.bind, Act.put, List.setIfInBounds_toArray, List.set_cons_zero, List.set_cons_succ]
    refine till_take 8 16 false (v := ?v8) (by kernel_rfl) (by kernel_rfl) (by kernel_rfl) (by kernel_rfl) (by kernel_rfl) (fun _ _ _ h => h) ?hw8 S0 ?hy8 ?rest8
    case hw8 => (simp only [List.getElem?_toArray, List.getElem?_cons_zero, List.getElem?_cons_succ, Option.elim]; rfl)
    case hy8 => (simp only [List.getElem?_toArray, List.getElem?_cons_zero, List.getElem?_cons_succ, Option.elim]; intro wx _; go_simp; with_reducible rfl)
    simp only [dstOf, List.getElem?_toArray, List.getElem?_cons_zero, List.getElem?_cons_succ, Option.bind, Act.put, List.setIfInBounds_toArray, List.set_cons_zero, List.set_cons_succ]
    refine till_take 9 16 true (v := ?v9) (by kernel_rfl) (by kernel_rfl) (by kernel_rfl) (by kernel_rfl) (by kernel_rfl) (fun _ _ _ h => h) ?hw9 S0 ?hy9 ?rest9
    case hw9 => (simp only [List.getElem?_toArray, List.getElem?_cons_zero, List.getElem?_cons_succ, Option.elim]; rfl)
    case hy9 => (simp only [List.getElem?_toArray, List.getElem?_cons_zero, List.getElem?_cons_succ, Option.elim]; intro wx hx; have x0 := (hx trivial).1; have x1 := (hx trivial).2.1; have x2 := (hx trivial).2.2.1; have x3 := (hx trivial).2.2.2; go_simp; with_reducible rfl)
    simp only [dstOf, List.getElem?_toArray, List.getElem?_cons_zero, List.getElem?_cons_succ, Option.bind, Act.put, List.setIfInBounds_toArray, List.set_cons_zero, List.set_cons_succ]
    refine till_before 7 (by kernel_rfl) (fun K hK => ?_)
    simp only [List.getElem?_toArray, List.getElem?_cons_zero, List.getElem?_cons_succ, Option.elim]
    rw [if_pos (by rfl)]
    go_simp
    go_at_call 39
    refine (HC.out).mono ?_
    rintro e w5 ⟨v5, rfl, o5, n5, b5⟩
    refine hK.out _ _ (⟨below_cell S0.1 b5, below_cell S0.2.1 b5, below_cell S0.2.2.1 b5, below_cell S0.2.2.2 b5⟩) ?_
    clear hK K
    try simp only [Act.put, List.setIfInBounds_toArray, List.set_cons_zero, List.set_cons_succ]
    obtain ⟨a5, cp5, hv5⟩ := own_form o5
    subst hv5
    have S1 := And.intro (below_cell S0.1 b5) (And.intro (below_cell S0.2.1 b5) (And.intro (below_cell S0.2.2.1 b5) (below_cell S0.2.2.2 b5)))
    clear S0
    have S0 := S1
    clear S1
    refine till_take 10 16 false (v := ?v10) (by kernel_rfl) (by kernel_rfl) (by kernel_rfl) (by kernel_rfl) (by kernel_rfl) (fun _ _ _ h => h) ?hw10 S0 ?hy10 ?rest10
    case hw10 => (simp only [List.getElem?_toArray, List.getElem?_cons_zero, List.getElem?_cons_succ, Option.elim]; rfl)
    case hy10 => (simp only [List.getElem?_toArray, List.getElem?_cons_zero, List.getElem?_cons_succ, Option.elim]; intro wx _; go_simp; with_reducible rfl)
    simp only [dstOf, List.getElem?_toArray, List.getElem?_cons_zero, List.getElem?_cons_succ, Option.bind, Act.put, List.setIfInBounds_toArray, List.set_cons_zero, List.set_cons_succ]
    have hB5 := Lib.hid (HB4.out.trans (b5.mono HB4.out.size))
    have hWW := HI.out.below.size
    obtain ⟨cc, pv', hcc, hm, hrows⟩ := HI.out.map
    have hmlt := hm.lt
    have hxr := HG.out.ok.range x.2
    have hlt2 : pre.length < N := hlt
    have hcc2 : cc ≤ pre.length := by rwa [List.length_map] at hcc
    obtain ⟨w6, c6, hup, m6, hc6, g6⟩ := (hm.block (hB5.out.block _ hmlt)).put (t := 52) (e := 57) Try.underlying52 (by unfold maxLen; omega) (wf_of hxr.1 hxr.2) (.agg #[.slice a5 (par G x.1).length cp5, .int .i64 (lev G x.1)])
    have H5 := Lib.hid (show W.heap.size ≤ w4.drew.heap.size from HB4.out.size)
    have HM6 := Lib.hid m6
    have HG6 := Lib.hid g6
    have HR := Lib.hid hrows
    have HM := Lib.hid hm
    have HO5 := Lib.hid o5
    have HN5 := Lib.hid n5
    clear o5 n5 b5 hm hrows m6 g6 hcc hxr
    refine till_step 11 (by kernel_rfl) (by kernel_rfl) (fun K hK => ?_)
    simp only [List.getElem?_toArray, List.getElem?_cons_zero, List.getElem?_cons_succ, Option.elim]
    rw [if_pos (by rfl)]
    go_simp
    refine hK.out _ _ ?_
    clear hK K
    try simp only [Act.put, List.setIfInBounds_toArray, List.set_cons_zero, List.set_cons_succ]
    refine till_end (by kernel_rfl) ?_ _
    gi_wp2
    show KeepsFrom (w.heap.size + 4) W w6 ∧ KpM mk W w6 ∧ PartI w b G ((pre ++ [x]).map (·.1)) w6
    have hsz5 := hB5.out.size
    have g6 := HG6.out
    have hsz6 := g6.size
    have k5 : KeepsFrom (w.heap.size + 4) W w5 := KeepsFrom.of_grownBy (row := none) (below_grown2 hB5.out) (fun j e => by cases e)
    refine ⟨k5.trans (KeepsFrom.of_grownBy g6 (fun j e => by have := Option.some.inj e; omega)), ?_, ?_, ?_, ?_, ?_, c6, fun y => if y = x.1 then .slice a5 (par G x.1).length cp5 else pv' y, ?_, ?_, ?_⟩
    · refine kpM_t (kpM_below (by omega) hB5.out) (kpM_grown (by omega) (by omega) (fun o ho => ?_) g6)
      obtain ⟨es, clock, hes⟩ := HM.out.entries
      rw [hB5.out.block _ hmlt, hes] at ho
      cases ho
      rfl
    · exact below_grown (HI.out.below.trans (hB5.out.mono HI.out.below.size)) g6 (fun j e => by have := Option.some.inj e; omega)
    · exact g6.cell (below_cell HI.out.box hB5.out) (fun e => by have e : w.heap.size = w.heap.size + 1 := Option.some.inj e; omega)
    · have h2 := lt_heap HI.out.st
      exact (g6.block _ (by omega) (fun e => by have := Option.some.inj e; omega)).trans ((hB5.out.block _ h2).trans HI.out.st)
    · exact g6.cell (below_cell HI.out.pb hB5.out) (fun e => by have e : w.heap.size + 3 = w.heap.size + 1 := Option.some.inj e; omega)
    · rw [List.length_map, List.length_append, List.length_singleton]; omega
    · refine HM6.out.congr (fun y => ?_) rfl
      rw [List.map_append]
      by_cases e : y = x.1
      · simp [e]
      · simp only [if_neg e]
        by_cases hy : y ∈ pre.map (·.1)
        · rw [if_pos hy, if_pos (List.mem_append.2 (.inl hy))]
        · rw [if_neg hy, if_neg (fun q => by
            rcases List.mem_append.1 q with q | q
            · exact hy q
            · simp at q; exact e q)]
    · intro y hy
      by_cases e : y = x.1
      · subst e
        simp only [↓reduceIte]
        have hfresh : ∀ q, (Value.slice a5 (par G x.1).length cp5).ownBlock = some q → w4.drew.heap.size ≤ q ∧ q < w5.heap.size := fun q hq => ⟨HN5.out q hq, (HO5.out.lt q hq).2⟩
        have h4 := H5.out
        have hblk : ∀ q, (Value.slice a5 (par G x.1).length cp5).ownBlock = some q → w6.heap[q]? = w5.heap[q]? := fun q hq => by
          have := hfresh q hq
          exact g6.block q this.2 (fun r => by have := Option.some.inj r; omega)
        refine ⟨(NumsAt.of_own HO5.out).block hblk, fun q hq => ⟨by have := hfresh q hq; have h8 : w.heap.size + 3 < W.heap.size := Lib.lt_of_cell HI.out.pb; omega, ?_⟩⟩
        obtain ⟨cs, e, f, hc⟩ := own_cells HO5.out q hq
        exact ⟨cs, e, f, (hblk q hq).trans hc⟩
      · simp only [if_neg e]
        have hy2 : y ∈ pre.map (·.1) := by
          rw [List.map_append] at hy
          rcases List.mem_append.1 hy with q | q
          · exact q
          · simp at q; exact absurd q e
        obtain ⟨hn1, hn2⟩ := HR.out y hy2
        have hblk : ∀ q, (pv' y).ownBlock = some q → w6.heap[q]? = W.heap[q]? := fun q hq => by
          obtain ⟨q1, cs, e, f, q2⟩ := hn2 q hq
          have := lt_heap q2
          exact (g6.block q (by omega) (fun r => by have := Option.some.inj r; omega)).trans (hB5.out.block q this)
        refine ⟨hn1.block hblk, fun q hq => ?_⟩
        obtain ⟨q1, cs, e, f, q2⟩ := hn2 q hq
        exact ⟨q1, cs, e, f, (hblk q hq).trans q2⟩
  case done =>
    rintro D ys W hD ⟨hnd, hmem⟩ hI hK
    have pb := hI.pb
    have HI := Lib.hid hI
    clear hI
    gi_wp2
    refine ⟨by simp, .inl ⟨_, _, rfl, run_takeDeferred hK, ?_⟩⟩
    have hg := grownBy_putObj' W D (.deferred none)
    have hr : ∀ r, some D = some r → ∃ o : Obj, W.heap[r]? = some o ∧ o.isCells = false := fun r e => by cases e; exact ⟨_, hK, rfl⟩
    obtain ⟨cc, pv', _, hm, hrows⟩ := HI.out.map
    rw [s0] at hD
    have hcc : cc = G'.length := by
      have := hm.count (T := ids G') HOK.out.nodup (fun y => by
        rw [← hmem y]
        by_cases q : y ∈ ys.map (·.1)
        · rw [if_pos q]; exact ⟨fun _ => rfl, fun _ => q⟩
        · rw [if_neg q]; exact ⟨fun r => absurd r q, fun r => by cases r⟩)
      rw [this]; simp [ids]
    have hb := HI.out.below
    have hin : ∀ {n : Nd}, n ∈ G' → n.1 ∈ ys.map (·.1) := fun {n} hn => (hmem n.1).2 (ids_of hn)
    refine ⟨_, results_tmp rfl _ _ _, w.heap.size + 2, rfl, w.heap.size + 1, pv', fun q => ∃ n ∈ G', (pv' n.1).ownBlock = some q, ⟨HOK.out, cells_kept HI.out.st hg hr, ?_, fun n hn => ⟨?_, fun q hq => ⟨n, hn, hq⟩⟩, by omega, fun q hq => ?_⟩, ?_, ⟨by omega, by omega⟩, fun q hq => ?_⟩
    · refine (hm.block (hg.block _ hm.lt (fun e => by have := Option.some.inj e; omega))).congr (fun y => ?_) hcc.symm
      unfold gm
      by_cases q : y ∈ ids G'
      · rw [if_pos q, if_pos ((hmem y).2 q), (HE.out y q).2]
      · rw [if_neg q, if_neg (fun r => q ((hmem y).1 r))]
    · have := (hrows n.1 (hin hn)).1
      rw [← (HE.out n.1 (ids_of hn)).1, par_of HOK.out.asc hn] at this
      exact this.grown hg hr
    · obtain ⟨n, hn, hq⟩ := hq
      obtain ⟨q1, cs, e, f, q2⟩ := (hrows n.1 (hin hn)).2 q hq
      exact ⟨lt_heap (cells_kept q2 hg hr), by omega, by omega⟩
    · exact below_grown hb hg (fun x e => by have := Option.some.inj e; omega)
    · obtain ⟨n, hn, hq⟩ := hq
      obtain ⟨q1, _⟩ := (hrows n.1 (hin hn)).2 q hq
      omega
  case stop =>
    rintro D c pre W _ _ h _
    exact h.elim
end
end Go.Proofs.Ytihnnffhpgbgjaa
