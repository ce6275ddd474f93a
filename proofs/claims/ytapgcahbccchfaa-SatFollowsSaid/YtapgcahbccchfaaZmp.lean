/- Maps over numbers whose values are slices of numbers; what each literal implies. -/
import Derived.Test.YtapgcahbccchfaaMaps
import Derived.Test.YtapgcahbccchfaaZsm
import Derived.Lib.SlKeysI
import Derived.BigQuiet
import Derived.Deep.QuietTactic
namespace Go.Proofs.Ytapgcahbccchfaa
open Go.RowKit Go.Maps Go.ChangeMaps Go.MapKept
open St
attribute [local go_sem ↓] Go.wp_at_zero Go.wp_at_succ

open Classical in
/-- A store at whatever key. -/
theorem MapIs.storeAny {P : Program} {w : World} {k : TypeId} {b c : Nat} {m : Lit → Option Value} {t e : TypeId} (h : MapIs P w k b c m) (K : Keyed P k) (ht : P.underlying t = some (.map k e)) (hn : c < maxLen) {key val : Value} {kl : Lit}
    (hkey : keyOf P k key = some kl) :
    ∃ w' c', (Instr.mapUpdate t (.map (some b)) key val).run P w = .ok () w' ∧ MapIs P w' k b c' (fun x => if x = kl then some val else m x) ∧ c' ≤ c + 1 ∧ w.grownBy w' (some b) := by
  obtain ⟨D, h, hc, ha, hh⟩ := h
  obtain ⟨w', hr, h', hg⟩ := h.update K ht hn hkey (val := val) (d := .held val) (ps := []) rfl
  have hsz := Maps.size_put (k := kl) (h.tidy K) (.held val)
  refine ⟨w', Maps.size (D.put kl (.held val)), hr, ⟨D.put kl (.held val), owns_tight h' rfl, rfl, fun x z => ?_, fun x => ?_⟩, by rw [hsz]; split <;> omega, hg⟩
  · by_cases hx : x = kl
    · subst hx; rw [Maps.atKey_put_same h.isMap (K.key hkey)]; simp
    · rw [Maps.atKey_put_other hx, ha]; simp [hx]
  · by_cases hx : x = kl
    · subst hx; rw [Maps.has_put_same h.isMap (K.key hkey)]; simp
    · rw [Maps.has_put_other hx, hh]; simp [hx]
/-- What lies at each key, as a function on numbers. -/
def onInt (m : Int → Option Value) : Lit → Option Value
  | .int .i64 x => m x
  | _ => none
/-- Block b is a map of c entries over numbers. -/
structure IMap (w : World) (b c : Nat) (m : Int → Option Value) : Prop where
  is : MapIs Try.prog w 3 b c (onInt m)
  wf : ∀ x, (m x).isSome = true → (Lit.int .i64 x).wf = true
theorem kI : Keyed Try.prog 3 := int_keyed Try.underlying3
theorem wf_of {x : Int} (h0 : 0 ≤ x) (h1 : x < 100000) : (Lit.int .i64 x).wf = true := by
  simp [Lit.wf, IntKind.min, IntKind.max, IntKind.bits, IntKind.signed] <;> omega
section
variable {w : World} {b c : Nat} {m : Int → Option Value}
theorem IMap.lt (h : IMap w b c m) : b < w.heap.size := h.is.lt
theorem IMap.block {w' : World} (h : IMap w b c m) (hb : w'.heap[b]? = w.heap[b]?) : IMap w' b c m := ⟨h.is.block hb, h.wf⟩
theorem iMap_made (w : World) : IMap (w.alloc (.map #[] 0)) w.heap.size 0 (fun _ => none) :=
  ⟨(mapIs_made (P := Try.prog) (k := 3) w).congr (fun kl => by unfold onInt; split <;> rfl) rfl, fun _ h => by cases h⟩
/-- A look-up of whatever number. -/
theorem IMap.look {t e : TypeId} (h : IMap w b c m) (ht : Try.prog.underlying t = some (.map 3 e)) {z : Value} (hz : (zeroValue e).run Try.prog w = .ok z w) (x : Int) :
    (Instr.lookup t (.map (some b)) (.int .i64 x) false).run Try.prog w = .ok ((m x).getD z) w := by
  by_cases hw : (Lit.int .i64 x).wf = true
  · exact h.is.look kI ht hz (keyOf_int_mk Try.underlying3 hw)
  · have hn : m x = none := by
      cases hm : m x with
      | none => rfl
      | some v => exact absurd (h.wf x (by rw [hm]; rfl)) hw
    obtain ⟨D, ⟨es, clock, hb, F, _, _⟩, _⟩ := h.is
    have ik : IsKey (.int .i64) (.int .i64 x) := rfl
    have hks : ∀ y ∈ es.toList, IsKey (.int .i64) y.key := fun y hy => by
      obtain ⟨l, hl⟩ := F.keys y hy
      obtain ⟨z, hz, _⟩ := Maps.keyOf_i64 Try.underlying3 hl
      rw [hz]; rfl
    rcases findNow_spec ik es.toList 0 hks with ⟨h1, h2⟩ | ⟨j, e0, h1, h2, h3⟩
    · rw [hn]
      simp [Instr.lookup, run_underlying ht, MapKept.run_getObj_map hb, run_checkKey Try.underlying3 ik, run_findKey Try.underlying3 h1, hz, Result.andThen]
    · exfalso
      obtain ⟨l, hl⟩ := F.keys e0 (List.mem_of_getElem? h2)
      obtain ⟨z, hz, _, hwf⟩ := Maps.keyOf_i64 Try.underlying3 hl
      rw [h3] at hz
      cases hz
      exact hw hwf
open Classical in
theorem IMap.store {t e : TypeId} (h : IMap w b c m) (ht : Try.prog.underlying t = some (.map 3 e)) (hn : c < maxLen) {x : Int} (hw : (Lit.int .i64 x).wf = true) (v : Value) :
    ∃ w' c', (Instr.mapUpdate t (.map (some b)) (.int .i64 x) v).run Try.prog w = .ok () w' ∧ IMap w' b c' (fun y => if y = x then some v else m y) ∧ c' ≤ c + 1 ∧ w.grownBy w' (some b) := by
  obtain ⟨w', c', hr, h', hc, hg⟩ := h.is.storeAny kI ht hn (val := v) (keyOf_int_mk Try.underlying3 hw)
  refine ⟨w', c', hr, ⟨h'.congr (fun kl => ?_) rfl, fun y hy => ?_⟩, hc, hg⟩
  · unfold onInt
    split
    · rename_i y
      by_cases e : y = x
      · subst e; simp
      · show (if y = x then some v else m y) = _
        rw [if_neg e, if_neg fun q => e (by cases q; rfl)]
    · rename_i hno
      rw [if_neg]
      intro q; exact hno _ q
  · by_cases e : y = x
    · subst e; exact hw
    · rw [if_neg e] at hy; exact h.wf y hy
end
/-! ### A map of rows -/
/-- A map of rows that is read: whatever is asked for. -/
def ImpAt (w : World) (b : Nat) (F : Int → List Int) : Prop := ∃ c m, IMap w b c m ∧ ∀ x, NumsAt w ((m x).getD (.slice none 0 0)) (F x)
theorem ImpAt.lt {w : World} {b : Nat} {F : Int → List Int} (h : ImpAt w b F) : b < w.heap.size := by obtain ⟨c, m, h, _⟩ := h; exact h.lt
theorem ImpAt.keep {w w' : World} {b : Nat} {F : Int → List Int} (h : ImpAt w b F) (hb : Below w.heap.size w w') : ImpAt w' b F := by
  obtain ⟨c, m, h1, h2⟩ := h
  exact ⟨c, m, h1.block (hb.block b h1.lt), fun x => (h2 x).keep hb⟩
theorem ImpAt.look {w : World} {b : Nat} {F : Int → List Int} (h : ImpAt w b F) (x : Int) : ∃ v, (Instr.lookup 45 (.map (some b)) (.int .i64 x) false).run Try.prog w = .ok v w ∧ NumsAt w v (F x) := by
  obtain ⟨c, m, h1, h2⟩ := h
  exact ⟨_, h1.look (t := 45) (e := 24) Try.underlying45 (Try.zeroValue24 w) x, h2 x⟩
/-- While it is made: each row is its own. -/
structure Imp (w0 w : World) (b c : Nat) (m : Int → Option Value) (F : Int → List Int) : Prop where
  map : IMap w b c m
  nb : w0.heap.size ≤ b
  row : ∀ x, w.ownsRow 0 3 1 ((m x).getD (.slice none 0 0)) (F x).length (intVs (F x))
  own : ∀ x k, ((m x).getD (.slice none 0 0)).ownBlock = some k → w0.heap.size ≤ k ∧ k ≠ b
  apart : ∀ x y k, ((m x).getD (.slice none 0 0)).ownBlock = some k → ((m y).getD (.slice none 0 0)).ownBlock = some k → x = y
  below : Below w0.heap.size w0 w
theorem Imp.start (w : World) : Imp w (w.alloc (.map #[] 0)) w.heap.size 0 (fun _ => none) (fun _ => []) :=
  ⟨iMap_made w, Nat.le_refl _, fun x => World.ownsRow_nil _ _ _ _, (fun x k h => by cases h), (fun x y k h => by cases h), (Below.refl _ _).alloc (Nat.le_refl _) _⟩
theorem Imp.done {w0 w : World} {b c : Nat} {m : Int → Option Value} {F : Int → List Int} (h : Imp w0 w b c m F) : ImpAt w b F := ⟨c, m, h.map, fun x => NumsAt.of_own (h.row x)⟩
theorem Imp.congr {w0 w : World} {b c : Nat} {m : Int → Option Value} {F G : Int → List Int} (h : Imp w0 w b c m F) (hg : ∀ x, G x = F x) : Imp w0 w b c m G := by
  have : G = F := funext hg
  rw [this]; exact h
/-- New blocks do not matter. -/
theorem Imp.fresh {w0 w w' : World} {b c : Nat} {m : Int → Option Value} {F : Int → List Int} (h : Imp w0 w b c m F) (hb : Below w.heap.size w w') : Imp w0 w' b c m F :=
  ⟨h.map.block (hb.block b h.map.lt), h.nb, fun x => ownsRow_block (h.row x) fun k hk => hb.block k ((h.row x).lt k hk).2, h.own, h.apart, h.below.trans (hb.mono h.below.size)⟩
open Classical in
/-- One literal more at the end of a row, which is stored again. -/
theorem Imp.add {w0 w : World} {b c : Nat} {m : Int → Option Value} {F : Int → List Int} (h : Imp w0 w b c m F) {x : Int} (hx : 0 ≤ x ∧ x < 100000) (z : Int) (hc : c ≤ 10000) (hl : (F x).length ≤ 10000) :
    ∃ v a cc w2 w3 c' m', (Instr.lookup 45 (.map (some b)) (.int .i64 x) false).run Try.prog w = .ok v w ∧
      (Builtin.append_ #[24, 24] 24 #[v, .slice (some ⟨w.heap.size, 0, none⟩) 1 1]).run Try.prog (w.alloc (.cells #[.int .i64 z] 3)) = .ok (.slice a ((F x).length + 1) cc) w2 ∧
      (Instr.mapUpdate 45 (.map (some b)) (.int .i64 x) (.slice a ((F x).length + 1) cc)).run Try.prog w2 = .ok () w3 ∧
      Imp w0 w3 b c' m' (fun y => if y = x then F x ++ [z] else F y) ∧ c' ≤ c + 1 ∧ ∀ g, g < w.heap.size → g ≠ b → (∀ y k, ((m y).getD (.slice none 0 0)).ownBlock = some k → k ≠ g) → w3.heap[g]? = w.heap[g]? := by
  have hb1 := (Below.refl w.heap.size w).alloc (Nat.le_refl _) (.cells #[.int .i64 z] 3)
  have h1 := h.fresh hb1
  have hs1 : (w.alloc (.cells #[.int .i64 z] 3)).heap.size = w.heap.size + 1 := by simp
  have hlook := h.map.look (t := 45) (e := 24) Try.underlying45 (Try.zeroValue24 w) x
  obtain ⟨a, cc, w2, r1, o2, g2, hloc⟩ := run_pushN (w.alloc (.cells #[.int .i64 z] 3)) _ _ (F x) [z] (h1.row x) (nums_one w z) (by simp; omega)
  have e1 : (F x).length + [z].length = (F x).length + 1 := by simp
  rw [e1] at r1 o2 hloc
  -- behind the append
  have hxb : some b ≠ ((m x).getD (.slice none 0 0)).ownBlock := fun q => (h1.own x b q.symm).2 rfl
  have m2 := h1.map.block (g2.block b h1.map.lt hxb)
  obtain ⟨w3, c', r3, m3, hc', g3⟩ := m2.store (t := 45) (e := 24) Try.underlying45 (by unfold maxLen; omega) (wf_of hx.1 hx.2) (.slice a ((F x).length + 1) cc)
  have hnb := h.nb
  have hs0 := h.below.size
  have hnewb : ∀ k, (Value.slice a ((F x).length + 1) cc).ownBlock = some k → (w0.heap.size ≤ k ∧ k ≠ b) ∧ ∀ y, y ≠ x → ((m y).getD (.slice none 0 0)).ownBlock ≠ some k := fun k hk => by
    rcases hloc with q | q
    · have hk2 := q.symm.trans hk
      exact ⟨h.own x k hk2, fun y hy e => hy (h.apart y x k e hk2)⟩
    · have hk2 := q.symm.trans hk
      have hk3 : w.heap.size + 1 = k := by rw [hs1] at hk2; exact Option.some.inj hk2
      have hlt := h.map.lt
      refine ⟨⟨by omega, by omega⟩, fun y hy e => ?_⟩
      have := (h.row y).lt k e
      omega
  refine ⟨_, a, cc, w2, w3, c', _, hlook, r1, r3, ⟨m3, h.nb, fun y => ?_, fun y k hk => ?_, fun y y2 k hk hk2 => ?_, ?_⟩, by omega, fun g h1 h2 h3 => ?_⟩
  · by_cases e : y = x
    · subst e
      simp only [if_true]
      have := ownsRow_block (w' := w3) o2 fun k hk => g3.block k (o2.lt k hk).2 (fun q => (hnewb k hk).1.2 (Option.some.inj q))
      simpa using this
    · simp only [if_neg e]
      refine ownsRow_block (h1.row y) fun k hk => ?_
      have hk1 := ((h1.row y).lt k hk).2
      have hk3 := g2.size
      rw [g3.block k (by omega) (fun q => (h1.own y k hk).2 (Option.some.inj q)), g2.block k hk1 (fun q => e (h1.apart y x k hk q.symm))]
  · by_cases e : y = x
    · subst e
      simp only [if_true] at hk
      exact (hnewb k hk).1
    · simp only [if_neg e] at hk
      exact h.own y k hk
  · by_cases e : y = x
    · by_cases e2 : y2 = x
      · rw [e, e2]
      · subst e
        simp only [if_true] at hk
        simp only [if_neg e2] at hk2
        exact ((hnewb k hk).2 y2 e2 hk2).elim
    · by_cases e2 : y2 = x
      · subst e2
        simp only [if_true] at hk2
        simp only [if_neg e] at hk
        exact ((hnewb k hk2).2 y e hk).elim
      · simp only [if_neg e] at hk
        simp only [if_neg e2] at hk2
        exact h.apart y y2 k hk hk2
  · have hbb := below_grown (h1.below) g2 fun k hk => (h1.own x k hk).1
    exact below_grown hbb g3 fun k hk => by cases hk; exact hnb
  · have := g2.size
    rw [g3.block g (by omega) (fun q => h2 (Option.some.inj q)), g2.block g (by omega) (fun q => h3 x g q.symm rfl), hb1.block g h1]
/-! ### implications -/
theorem fo_two (l : List Cl) (c : Cl) (y : Int) : fo (l ++ [c]) y = (if y = opp c.2 then (if opp c.2 = opp c.1 then fo l (opp c.1) ++ [c.2] else fo l (opp c.2)) ++ [c.1] else if y = opp c.1 then fo l (opp c.1) ++ [c.2] else fo l y) := by
  rw [fo_snoc]
  unfold fo1
  by_cases e2 : y = opp c.2
  · by_cases e1 : opp c.2 = opp c.1
    · rw [if_pos e2, if_pos e1, if_pos (show opp c.1 = y from e1.symm.trans e2.symm), if_pos (show opp c.2 = y from e2.symm), e2, e1, List.append_assoc]
    · rw [if_pos e2, if_neg e1, if_neg (show ¬ opp c.1 = y from fun q => e1 (q.trans e2).symm), if_pos (show opp c.2 = y from e2.symm), e2, List.nil_append]
  · rw [if_neg e2, if_neg (show ¬ opp c.2 = y from fun q => e2 q.symm)]
    by_cases e1 : y = opp c.1
    · rw [if_pos e1, if_pos (show opp c.1 = y from e1.symm), e1, List.append_nil]
    · rw [if_neg e1, if_neg (show ¬ opp c.1 = y from fun q => e1 q.symm)]; simp
set_option maxHeartbeats 2000000 in
set_option maxRecDepth 100000 in
theorem p_impl {w : World} {v : Value} {l : List Cl} {n : Int} (hv : ClAt w v l) (hl : l.length ≤ 2000) (hn : n ≤ 400) (hr : ∀ c ∈ l, Inn n c) :
    Calls Try.prog 26 #[v] w fun e w' => ∃ b, e = .returned (.map (some b)) ∧ ImpAt w' b (fo l) ∧ Below w.heap.size w w' := by
  have HV := Lib.hid hv
  have HI := Lib.hid hr
  have M0 := Lib.hid (Imp.start w)
  have hmm := @run_makeMap Try.prog
  obtain ⟨a, cap, rfl, -⟩ := hv
  clear hr
  go_enter Try.func26, Try.ntmps26
  go_wp2
  generalize hB : w.heap.size = B at M0 ⊢
  have HBB := Lib.hid hB
  clear hB
  go_loopw [11] (fun i wr => ∃ (k c : Nat) (m : Int → Option Value), k ≤ l.length ∧ i = .int .i64 k ∧ Hid (Imp w wr B c m (fo (l.take k))) ∧ c ≤ 2 * k) (fun i _ => l.length - (RowKit.intOf i).toNat)
  case atStart => exact ⟨0, 0, _, Nat.zero_le _, rfl, M0, Nat.le_refl _⟩
  case round =>
    obtain ⟨k, c, m, hk, rfl, HM, hc⟩ := hrel
    by_cases hlt : k < l.length
    · obtain ⟨⟨x, y⟩, hck⟩ : ∃ c, l[k]? = some c := ⟨_, List.getElem?_eq_getElem hlt⟩
      have HC := Lib.hid hck
      obtain ⟨b, off, cap', h1, _, hcs⟩ := (HV.out.keep HM.out.below).form (by omega)
      cases h1
      obtain ⟨c0, c1⟩ := hcs k _ hck
      have c0 : wr.cell? ⟨b, off + k * 2, none⟩ = some (.int .i64 x) := c0
      have c1 : wr.cell? ⟨b, off + k * 2 + 1, none⟩ = some (.int .i64 y) := c1
      have hin := HI.out _ (List.mem_of_getElem? hck)
      have hx := hin.1
      have hy := hin.2
      simp only at hx hy
      have HX := Lib.hid (p_opp (x := x) (by omega))
      have HY := Lib.hid (p_opp (x := y) (by omega))
      clear hcs hck hin
      go_wp2
      have hba := (Below.refl wr.heap.size wr).alloc (Nat.le_refl _) (.cells #[.int .i64 x, .int .i64 y] 40)
      have s0 : (wr.alloc (.cells #[.int .i64 x, .int .i64 y] 40)).cell? ⟨wr.heap.size, 0, none⟩ = some (.int .i64 x) := by rw [Lib.cell_of_heap (MapKept.heap_alloc _ _).1]; rfl
      have s1 : (wr.alloc (.cells #[.int .i64 x, .int .i64 y] 40)).cell? ⟨wr.heap.size, 1, none⟩ = some (.int .i64 y) := by rw [Lib.cell_of_heap (MapKept.heap_alloc _ _).1]; rfl
      have hsz : wr.heap.size < (wr.alloc (.cells #[.int .i64 x, .int .i64 y] 40)).heap.size := by simp
      have M1 := Lib.hid (HM.out.fresh hba)
      have HX1 := Lib.hid (show ∀ y k, ((m y).getD (.slice none 0 0)).ownBlock = some k → k ≠ wr.heap.size from fun y k hk e => by have := ((HM.out.row y).lt k hk).2; omega)
      have HLT := Lib.hid (show B < wr.heap.size from HM.out.map.lt)
      clear hba c0 c1 HM
      generalize wr.alloc (.cells #[.int .i64 x, .int .i64 y] 40) = w1 at s0 s1 hsz M1 ⊢
      generalize wr.heap.size = B1 at s0 s1 hsz HX1 HLT ⊢
      go_quiet (first | (go_at_call 28; refine Calls.quiet_of_same (HX.out _)) | (go_at_call 28; refine Calls.quiet_of_same (HY.out _)))
      have hd := drewN_below w1 nq
      have M2 := Lib.hid (M1.out.fresh hd)
      have t0 := below_cell s0 hd
      have t1 := below_cell s1 hd
      have hsz2 : B1 < (w1.drewN nq).heap.size := by have := hd.size; omega
      clear hd M1 s0 s1 hsz
      generalize w1.drewN nq = w2 at M2 t0 t1 hsz2 ⊢
      have ho1 := opp_lit hx
      have ho2 := opp_lit hy
      have hfl := fo_len (l.take k)
      have hlk : (l.take k).length = k := by rw [List.length_take]; omega
      obtain ⟨v1, a1, e1, w3, w4, c1', m1, rl1, ra1, rm1, M4, hc1, hbl1⟩ := M2.out.add (x := opp x) (by omega) y (by omega) (by have := hfl (opp x); omega)
      have hb4 := hbl1 B1 hsz2 (by have := HLT.out; omega) HX1.out
      have t0' : w4.cell? ⟨B1, 0, none⟩ = some (.int .i64 x) := (World.cell?_of_block (a := ⟨B1, 0, none⟩) hb4).trans t0
      have RA1 := Lib.hid ra1
      have HM4 := Lib.hid M4
      have T0 := Lib.hid t0'
      clear t0 hbl1 ra1 M4 hb4
      have hl2 : (if opp y = opp x then fo (l.take k) (opp x) ++ [y] else fo (l.take k) (opp y)).length ≤ 10000 := by
        have h1 := hfl (opp x)
        have h2 := hfl (opp y)
        split
        · rw [List.length_append]; simp; omega
        · omega
      obtain ⟨v2, a2, e2, w5, w6, c2', m2, rl2, ra2, rm2, M6, hc2, -⟩ := HM4.out.add (x := opp y) (by omega) x (by omega) hl2
      have RA2 := Lib.hid ra2
      have HM6 := Lib.hid (M6.congr (G := fo (l.take (k + 1))) fun z => by rw [List.take_add_one, HC.out]; exact fo_two (l.take k) (x, y) z)
      clear ra2 M6 hl2 hfl
      have RL2 := Lib.hid rl2
      have RM2 := Lib.hid rm2
      clear rl2 rm2
      go_wp2_with (at_builtin; refine Hid.out ?_)
      refine Lib.hid ?_
      refine Lib.wpList_append_run _ rfl _ _ _ _ rfl _ _ rfl rfl _ _ RA1.out ?_
      have rl2 := RL2.out
      have rm2 := RM2.out
      go_wp2_with (at_builtin; refine Hid.out ?_)
      refine Lib.hid ?_
      refine Lib.wpList_append_run _ rfl _ _ _ _ rfl _ _ rfl rfl _ _ RA2.out ?_
      go_wp2
      go_roundw
      case rel => exact ⟨k + 1, c2', m2, by omega, by go_num, HM6, by omega⟩
      case measure => (simp [RowKit.intOf]; try omega)
    · obtain rfl : k = l.length := by omega
      have HD := Lib.hid (HM.out.done)
      have hb := HM.out.below
      rw [List.take_length] at HD
      have HE := Lib.hid hb
      clear hb
      go_wp2
      go_ret
      exact ⟨_, rfl, HD.out, HBB.out ▸ HE.out⟩
end Go.Proofs.Ytapgcahbccchfaa
