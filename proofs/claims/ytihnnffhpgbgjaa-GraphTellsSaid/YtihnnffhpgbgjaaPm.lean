/- Maps with numbers for keys: what lies at each number, whatever number is asked for. -/
import Derived.Test.YtihnnffhpgbgjaaMaps
import Derived.Test.YtihnnffhpgbgjaaGApi
import Derived.Lib.SlKeysI
namespace Go.Proofs.Ytihnnffhpgbgjaa
open Go.RowKit Go.Maps Go.ChangeMaps Go.MapKept

/-- What lies at each key, as a function on numbers. -/
def onInt (m : Int → Option Value) : Lit → Option Value
  | .int .i64 x => m x
  | _ => none
/-- Block b is a map of c entries over numbers. -/
structure IMap (w : World) (b c : Nat) (m : Int → Option Value) : Prop where
  is : MapIs Try.prog w 3 b c (onInt m)
  wf : ∀ x, (m x).isSome = true → (Lit.int .i64 x).wf = true
theorem kI : Keyed Try.prog 3 := int_keyed Try.underlying3
theorem wf_of {x : Int} (h0 : 0 ≤ x) (h1 : x < 100000) : (Lit.int .i64 x).wf = true := by
  simp [Lit.wf, IntKind.min, IntKind.max, IntKind.bits, IntKind.signed] <;> omega
section
variable {w : World} {b c : Nat} {m : Int → Option Value}
theorem IMap.lt (h : IMap w b c m) : b < w.heap.size := h.is.lt
theorem IMap.block {w' : World} (h : IMap w b c m) (hb : w'.heap[b]? = w.heap[b]?) : IMap w' b c m := ⟨h.is.block hb, h.wf⟩
theorem IMap.congr {m' : Int → Option Value} {c' : Nat} (h : IMap w b c m) (hm : ∀ x, m' x = m x) (hc : c' = c) : IMap w b c' m' := by
  have : m' = m := funext hm
  rw [this, hc]; exact h
theorem iMap_made (w : World) : IMap (w.alloc (.map #[] 0)) w.heap.size 0 (fun _ => none) :=
  ⟨(mapIs_made (P := Try.prog) (k := 3) w).congr (fun kl => by unfold onInt; split <;> rfl) rfl, fun _ h => by cases h⟩
/-- A look-up of whatever number. -/
theorem IMap.look_ok {t e : TypeId} (h : IMap w b c m) (ht : Try.prog.underlying t = some (.map 3 e)) {z : Value} (hz : (zeroValue e).run Try.prog w = .ok z w) (x : Int) :
    (Instr.lookup t (.map (some b)) (.int .i64 x) true).run Try.prog w = .ok (.tuple #[(m x).getD z, .bool (m x).isSome]) w ∧ (Instr.lookup t (.map (some b)) (.int .i64 x) false).run Try.prog w = .ok ((m x).getD z) w := by
  by_cases hw : (Lit.int .i64 x).wf = true
  · exact ⟨h.is.look_ok kI ht hz (keyOf_int_mk Try.underlying3 hw), h.is.look kI ht hz (keyOf_int_mk Try.underlying3 hw)⟩
  · have hn : m x = none := by
      cases hm : m x with
      | none => rfl
      | some v => exact absurd (h.wf x (by rw [hm]; rfl)) hw
    obtain ⟨D, ⟨es, clock, hb, F, _, _⟩, _⟩ := h.is
    have ik : IsKey (.int .i64) (.int .i64 x) := rfl
    have hks : ∀ y ∈ es.toList, IsKey (.int .i64) y.key := fun y hy => by
      obtain ⟨l, hl⟩ := F.keys y hy
      obtain ⟨z, hz, _⟩ := Maps.keyOf_i64 Try.underlying3 hl
      rw [hz]; rfl
    rcases findNow_spec ik es.toList 0 hks with ⟨h1, h2⟩ | ⟨j, e0, h1, h2, h3⟩
    · rw [hn]
      refine ⟨?_, ?_⟩ <;> simp [Instr.lookup, run_underlying ht, MapKept.run_getObj_map hb, run_checkKey Try.underlying3 ik, run_findKey Try.underlying3 h1, hz, Result.andThen]
    · exfalso
      obtain ⟨l, hl⟩ := F.keys e0 (List.mem_of_getElem? h2)
      obtain ⟨z, hz, _, hwf⟩ := Maps.keyOf_i64 Try.underlying3 hl
      rw [h3] at hz
      cases hz
      exact hw hwf
open Classical in
theorem IMap.store {t e : TypeId} (h : IMap w b c m) (ht : Try.prog.underlying t = some (.map 3 e)) (hn : c < maxLen) {x : Int} (hw : (Lit.int .i64 x).wf = true) (v : Value) (hnew : m x = none) :
    ∃ w', (Instr.mapUpdate t (.map (some b)) (.int .i64 x) v).run Try.prog w = .ok () w' ∧ IMap w' b (c + 1) (fun y => if y = x then some v else m y) ∧ w.grownBy w' (some b) := by
  obtain ⟨w', hr, h', hg⟩ := h.is.store kI ht hn (val := v) (keyOf_int_mk Try.underlying3 hw) hnew
  refine ⟨w', hr, ⟨h'.congr (fun kl => ?_) rfl, fun y hy => ?_⟩, hg⟩
  · unfold onInt
    split
    · rename_i y
      by_cases e : y = x
      · subst e; simp
      · show (if y = x then some v else m y) = _
        rw [if_neg e, if_neg fun q => e (by cases q; rfl)]
    · rename_i hno
      rw [if_neg]
      intro q; exact hno _ q
  · by_cases e : y = x
    · subst e; exact hw
    · rw [if_neg e] at hy; exact h.wf y hy
open Classical in
theorem IMap.drop {t e : TypeId} (h : IMap w b c m) (ht : Try.prog.underlying t = some (.map 3 e)) {x : Int} (hw : (Lit.int .i64 x).wf = true) (ty : TypeId) :
    ∃ w' c', (Builtin.delete_ #[t, 3] ty #[.map (some b), .int .i64 x]).run Try.prog w = .ok (.tuple #[]) w' ∧ IMap w' b c' (fun y => if y = x then none else m y) ∧ c' ≤ c ∧ w.grownBy w' (some b) := by
  obtain ⟨D, h1, hc, ha, hh⟩ := h.is
  obtain ⟨w', hr, h', ht'⟩ := h1.drop kI ht (keyOf_int_mk Try.underlying3 hw) ty
  refine ⟨w', Maps.size (D.del (.int .i64 x)), hr, ⟨⟨D.del (.int .i64 x), owns_tight h' rfl, rfl, fun kl z => ?_, fun kl => ?_⟩, fun y hy => ?_⟩, ?_, ht'.grown⟩
  · by_cases e : kl = .int .i64 x
    · subst e; rw [Maps.atKey_del_same]; simp [onInt]
    · rw [Maps.atKey_del_other e, ha]
      unfold onInt
      split
      · rename_i y
        show _ = DataW.held ((if y = x then none else m y).getD z)
        rw [if_neg fun q => e (by rw [q])]
      · rfl
  · by_cases e : kl = .int .i64 x
    · subst e; rw [Maps.has_del_same]; simp [onInt]
    · rw [Maps.has_del_other e, hh]
      unfold onInt
      split
      · rename_i y
        show _ = (if y = x then none else m y).isSome
        rw [if_neg fun q => e (by rw [q])]
      · rfl
  · by_cases e : y = x
    · subst e; exact hw
    · rw [if_neg e] at hy; exact h.wf y hy
  · have hsz := Maps.size_del (k := .int .i64 x) (h1.tidy kI)
    split at hsz <;> omega
theorem IMap.copy (h : IMap w b c m) {es : Array MapEntry} {clock : Nat} (hb : w.heap[b]? = some (.map es clock)) : IMap (w.alloc (.map es clock)) w.heap.size c m := ⟨h.is.copy hb, h.wf⟩
theorem IMap.entries (h : IMap w b c m) : ∃ es clock, w.heap[b]? = some (.map es clock) := by
  obtain ⟨D, ⟨es, clock, hb, _⟩, _⟩ := h.is; exact ⟨es, clock, hb⟩
theorem IMap.len {t e : TypeId} (h : IMap w b c m) (ht : Try.prog.underlying t = some (.map 3 e)) (ty : TypeId) : (Builtin.len_ #[t] ty #[.map (some b)]).run Try.prog w = .ok (.int .i64 c) w := by
  obtain ⟨D, h1, hc, _⟩ := h.is
  rw [← hc]; exact h1.len ht ty
/-- The keys, in whatever order. -/
theorem IMap.keys (h : IMap w b c m) {T : List Int} (hn : T.Nodup) (hT : ∀ x, x ∈ T ↔ (m x).isSome = true) :
    ∃ D : DataW Value, w.ownsMap Try.prog 3 rawE b c D ∧ Maps.size D = c ∧ T.Perm (intKeys D) ∧ ∀ x, Maps.has D (.int .i64 x) = (m x).isSome := by
  obtain ⟨D, h1, hc, ha, hh⟩ := h.is
  obtain ⟨es, rfl, hap, hkeys⟩ := h1.entries kI
  refine ⟨_, h1, hc, perm_intKeys hap (fun p hp => ?_) hn (fun x => ?_), fun x => hh _⟩
  · have h2 := hh p.1
    rw [show Maps.has (DataW.map es) p.1 = true from List.any_eq_true.2 ⟨p, hp, WideAt.sameKey_self (hkeys p hp)⟩] at h2
    unfold onInt at h2
    split at h2
    · exact ⟨_, by assumption⟩
    · cases h2
  · rw [hT, hh]; rfl
end
end Go.Proofs.Ytihnnffhpgbgjaa
