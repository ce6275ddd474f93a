/- A map in memory as a function from keys to values. -/
import Derived.Test.YtapgcahbccchfaaGen7
import Derived.Maps.OwnSet
import Derived.Maps.OwnOps
import Derived.Maps.RangeWalk
import Derived.Maps.Ext
import Derived.Lib.Hide
import Derived.WalkKit
namespace Go.Proofs.Ytapgcahbccchfaa
open Go.RowKit Go.Maps Go.ChangeMaps Go.MapKept

/-- Every value reads as itself. -/
def rawE (v : Value) : Option (DataW Value × List MemPlace) := some (.held v, [])

/-- Block b is a map of c entries: m says what lies at each key. -/
def MapIs (P : Program) (w : World) (k : TypeId) (b c : Nat) (m : Lit → Option Value) : Prop :=
  ∃ D : DataW Value, w.ownsMap P k rawE b c D ∧ Maps.size D = c ∧ (∀ kl z, D.atKey kl (.held z) = .held ((m kl).getD z)) ∧ ∀ kl, Maps.has D kl = (m kl).isSome

section
variable {P : Program} {w : World} {k : TypeId} {b c : Nat} {m : Lit → Option Value}

theorem owns_tight {R : Value → Option (DataW Value × List MemPlace)} {D : DataW Value} {n c : Nat} (h : w.ownsMap P k R b n D) (hc : Maps.size D = c) : w.ownsMap P k R b c D := by
  obtain ⟨es, clock, hb, F, _, rfl⟩ := h
  refine ⟨es, clock, hb, F, ?_, rfl⟩
  have : Maps.size (DataW.map ((es.toList.map (Go.WideElems.rg P k R)).foldr DataW.insert [])) = es.size := by simp [Maps.size, length_sorted]
  omega

theorem MapIs.lt (h : MapIs P w k b c m) : b < w.heap.size := by obtain ⟨D, h, _⟩ := h; exact h.lt
theorem MapIs.kept {w' : World} {row : Option Nat} (h : MapIs P w k b c m) (hg : w.grownBy w' row) (hne : some b ≠ row) : MapIs P w' k b c m := by
  obtain ⟨D, h, r⟩ := h; exact ⟨D, h.kept hg hne, r⟩
theorem MapIs.block {w' : World} (h : MapIs P w k b c m) (hb : w'.heap[b]? = w.heap[b]?) : MapIs P w' k b c m := by
  obtain ⟨D, ⟨es, clock, h1, h2⟩, r⟩ := h; exact ⟨D, ⟨es, clock, hb.trans h1, h2⟩, r⟩
theorem MapIs.congr {m' : Lit → Option Value} {c' : Nat} (h : MapIs P w k b c m) (hm : ∀ kl, m' kl = m kl) (hc : c' = c) : MapIs P w k b c' m' := by
  have : m' = m := funext hm
  rw [this, hc]; exact h
theorem mapIs_made (w : World) : MapIs P (w.alloc (.map #[] 0)) k w.heap.size 0 (fun _ => none) :=
  ⟨.map [], World.ownsMap_made w P k rawE, rfl, fun _ _ => by simp [DataW.atKey], fun _ => rfl⟩

theorem MapIs.look {t e : TypeId} (h : MapIs P w k b c m) (K : Keyed P k) (ht : P.underlying t = some (.map k e)) {z : Value} (hz : (zeroValue e).run P w = .ok z w)
    {key : Value} {kl : Lit} (hkey : keyOf P k key = some kl) : (Instr.lookup t (.map (some b)) key false).run P w = .ok ((m kl).getD z) w := by
  obtain ⟨D, h, _, ha, _⟩ := h
  obtain ⟨v, ps, hr, hv⟩ := h.lookup K ht hz (zd := .held z) (zp := []) rfl hkey
  rw [ha] at hv
  simp only [rawE, Option.some.injEq, Prod.mk.injEq, DataW.held.injEq] at hv
  rw [hr, hv.1]

theorem MapIs.look_ok {t e : TypeId} (h : MapIs P w k b c m) (K : Keyed P k) (ht : P.underlying t = some (.map k e)) {z : Value} (hz : (zeroValue e).run P w = .ok z w)
    {key : Value} {kl : Lit} (hkey : keyOf P k key = some kl) : (Instr.lookup t (.map (some b)) key true).run P w = .ok (.tuple #[(m kl).getD z, .bool (m kl).isSome]) w := by
  obtain ⟨D, h, _, ha, hh⟩ := h
  obtain ⟨v, ps, hr, hv⟩ := h.look_ok K ht hz (zd := .held z) (zp := []) rfl hkey
  rw [ha] at hv
  simp only [rawE, Option.some.injEq, Prod.mk.injEq, DataW.held.injEq] at hv
  rw [hr, hv.1, hh]

open Classical in
theorem MapIs.store {t e : TypeId} (h : MapIs P w k b c m) (K : Keyed P k) (ht : P.underlying t = some (.map k e)) (hn : c < maxLen) {key val : Value} {kl : Lit}
    (hkey : keyOf P k key = some kl) (hnew : m kl = none) :
    ∃ w', (Instr.mapUpdate t (.map (some b)) key val).run P w = .ok () w' ∧ MapIs P w' k b (c + 1) (fun x => if x = kl then some val else m x) ∧ w.grownBy w' (some b) := by
  obtain ⟨D, h, hc, ha, hh⟩ := h
  obtain ⟨w', hr, h', hg⟩ := h.update K ht hn hkey (val := val) (d := .held val) (ps := []) rfl
  refine ⟨w', hr, ⟨D.put kl (.held val), h', ?_, fun x z => ?_, fun x => ?_⟩, hg⟩
  · rw [Maps.size_put (h.tidy K), hh, hnew]; simpa using hc
  · by_cases hx : x = kl
    · subst hx; rw [Maps.atKey_put_same h.isMap (K.key hkey)]; simp
    · rw [Maps.atKey_put_other hx, ha]; simp [hx]
  · by_cases hx : x = kl
    · subst hx; rw [Maps.has_put_same h.isMap (K.key hkey)]; simp
    · rw [Maps.has_put_other hx, hh]; simp [hx]

open Classical in
theorem MapIs.drop {t e : TypeId} (h : MapIs P w k b c m) (K : Keyed P k) (ht : P.underlying t = some (.map k e)) {key v : Value} {kl : Lit} (hkey : keyOf P k key = some kl) (hold : m kl = some v) (ty : TypeId) :
    ∃ w', (Builtin.delete_ #[t, k] ty #[.map (some b), key]).run P w = .ok (.tuple #[]) w' ∧ MapIs P w' k b (c - 1) (fun x => if x = kl then none else m x) ∧ w.grownBy w' (some b) := by
  obtain ⟨D, h, hc, ha, hh⟩ := h
  obtain ⟨w', hr, h', ht'⟩ := h.drop K ht hkey ty
  have hsz := Maps.size_del (k := kl) (h.tidy K)
  rw [hh, hold, hc] at hsz
  simp only [Option.isSome_some, if_true] at hsz
  have hs1 : Maps.size (D.del kl) = c - 1 := by omega
  refine ⟨w', hr, ⟨D.del kl, owns_tight h' hs1, hs1, fun x z => ?_, fun x => ?_⟩, ht'.grown⟩
  · by_cases hx : x = kl
    · subst hx; rw [Maps.atKey_del_same]; simp
    · rw [Maps.atKey_del_other hx, ha]; simp [hx]
  · by_cases hx : x = kl
    · subst hx; rw [Maps.has_del_same]; simp
    · rw [Maps.has_del_other hx, hh]; simp [hx]

theorem MapIs.wipe {t e : TypeId} (h : MapIs P w k b c m) (ht : P.underlying t = some (.map k e)) :
    ∃ w', (∀ ty, (Builtin.clear_ #[t] ty #[.map (some b)]).run P w = .ok (.tuple #[]) w') ∧ MapIs P w' k b 0 (fun _ => none) ∧ w.grownBy w' (some b) := by
  obtain ⟨D, ⟨es, clock, hb, F, _, _⟩, _⟩ := h
  refine ⟨setBlock w b (.map #[] clock), fun ty => ?_, ⟨.map [], ⟨#[], clock, heap_setBlock_same hb _, ⟨by simp, stamped_empty clock, by simp⟩, Nat.le_refl _, rfl⟩, rfl, fun _ _ => by simp [DataW.atKey], fun _ => rfl⟩, ⟨rfl, rfl, rfl, by simp [setBlock], fun i _ hi => heap_setBlock_other hb _ (fun e => hi (by rw [e]))⟩⟩
  simp [Builtin.clear_, run_underlying ht, MapKept.run_getObj_map hb, MapKept.run_setObj_map _ hb, Result.andThen, go_sem, setBlock]

theorem MapIs.copy (h : MapIs P w k b c m) {es : Array MapEntry} {clock : Nat} (hb : w.heap[b]? = some (.map es clock)) : MapIs P (w.alloc (.map es clock)) k w.heap.size c m := by
  obtain ⟨D, ⟨es', clock', hb', F, hs, hD⟩, r⟩ := h
  obtain ⟨rfl, rfl⟩ : es' = es ∧ clock' = clock := by rw [hb] at hb'; cases hb'; exact ⟨rfl, rfl⟩
  exact ⟨D, ⟨es', clock', (MapKept.heap_alloc w _).1, F, hs, hD⟩, r⟩

/-- A range over the map under way. -/
def RangeIs (P : Program) (w : World) (k : TypeId) (b r c : Nat) (m : Lit → Option Value) (left : Lit → Bool) (cnt : Nat) : Prop :=
  ∃ D : DataW Value, w.ranges P k rawE b r c D left cnt ∧ Maps.size D = c ∧ (∀ kl z, D.atKey kl (.held z) = .held ((m kl).getD z)) ∧ ∀ kl, Maps.has D kl = (m kl).isSome

theorem RangeIs.map {r cnt : Nat} {left : Lit → Bool} (h : RangeIs P w k b r c m left cnt) : MapIs P w k b c m := by
  obtain ⟨D, h, r⟩ := h; exact ⟨D, h.owns, r⟩
theorem RangeIs.kept {r cnt : Nat} {left : Lit → Bool} {w' : World} (h : RangeIs P w k b r c m left cnt) (hb : w'.heap[b]? = w.heap[b]?) (hr : w'.heap[r]? = w.heap[r]?) : RangeIs P w' k b r c m left cnt := by
  obtain ⟨D, ⟨es, clock, since, seen, c0, h1, h2, h3, h4, h5, h6⟩, q⟩ := h
  exact ⟨D, ⟨es, clock, since, seen, c0, hb.trans h1, h2, h3, h4, hr.trans h5, h6⟩, q⟩
theorem RangeIs.left_eq {r cnt : Nat} {left : Lit → Bool} (h : RangeIs P w k b r c m left cnt) : w.rangeLeft b r = cnt := by
  obtain ⟨D, h, _⟩ := h; exact h.left_eq
theorem RangeIs.lt {r cnt : Nat} {left : Lit → Bool} (h : RangeIs P w k b r c m left cnt) : r < w.heap.size := by
  obtain ⟨D, h, _⟩ := h; exact h.lt

variable {ops : Array Oper} {rest : List Oper} {o : Oper} {a : Act} {Q : Exit → Act → World → Prop}

theorem wpList_look_is (hg : o.guard = none) (mo x : Operand) (t : TypeId) (hop : o.op = Op.lookup t mo x false) (e : TypeId) (K : Keyed P k) (ht : P.underlying t = some (.map k e)) (z : Value) (hz : (zeroValue e).run P w = .ok z w)
    (hm : a.eval mo = .map (some b)) (h : MapIs P w k b c m) (key : Value) (kl : Lit) (hx : a.eval x = key) (hkey : keyOf P k key = some kl)
    (hK : wpList P ops Q rest (a.put o.dst ((m kl).getD z)) w) : wpList P ops Q (o :: rest) a w := by
  refine wpList_plain hg fun K' hK' => ?_
  unfold Oper.wp
  simp [execOp, hop, hm, hx, h.look K ht hz hkey, Result.andThen]
  exact hK' _ _ hK

theorem wpList_range_is (hg : o.guard = none) (mo : Operand) (t : TypeId) (hop : o.op = Op.range t mo) (e : TypeId) (K : Keyed P k) (ht : P.underlying t = some (.map k e))
    (hm : a.eval mo = .map (some b)) (h : MapIs P w k b c m)
    (hK : ∀ w', RangeIs P w' k b w.heap.size c m (fun kl => (m kl).isSome) c → w.grownBy w' none → w'.heap.size = w.heap.size + 1 → wpList P ops Q rest (a.put o.dst (.pointer (some ⟨w.heap.size, 0, none⟩))) w') :
    wpList P ops Q (o :: rest) a w := by
  obtain ⟨D, h1, h2, h3, h4⟩ := h
  refine wpList_range_own w hg mo t hop k e K ht rawE b c D hm h1 fun w' hr hg' hs => hK w' ⟨D, ?_, h2, h3, h4⟩ hg' hs
  have e1 : Maps.has D = fun kl => (m kl).isSome := funext h4
  rw [← e1]
  rw [h2] at hr
  exact hr

theorem wpList_next_is {α β : Type} (hg : o.guard = none) (it : Operand) (hop : o.op = Op.next it false) (K : Keyed P k) (mkK : α → Value) (mkV : β → Value)
    (invK : ∀ key kl, keyOf P k key = some kl → ∃ x, key = mkK x) (r cnt : Nat) (left : Lit → Bool)
    (hit : a.eval it = .pointer (some ⟨r, 0, none⟩)) (h : RangeIs P w k b r c m left cnt) (invV : ∀ kl v, m kl = some v → left kl = true → ∃ y, v = mkV y) (hlm : ∀ kl, left kl = true → (m kl).isSome = true)
    (hDone : cnt = 0 → (∀ kl, left kl = false) → wpList P ops Q rest (a.put o.dst (.tuple #[.bool false])) w)
    (hMore : ∀ (x : α) (y : β) (kl : Lit) (w' : World) (cnt' : Nat), keyOf P k (mkK x) = some kl → left kl = true → m kl = some (mkV y) → RangeIs P w' k b r c m (fun z => left z && !z.sameKey kl) cnt' → cnt' < cnt →
      w.grownBy w' (some r) → w'.heap.size = w.heap.size → (Instr.entry (.pointer (some ⟨r, 0, none⟩))).run P w' = .ok (.tuple #[mkK x, mkV y]) w' → wpList P ops Q rest (a.put o.dst (.tuple #[.bool true, mkK x, mkV y])) w') :
    wpList P ops Q (o :: rest) a w := by
  obtain ⟨D, h, q1, q2, q3⟩ := h
  refine wpList_plain hg fun K' hK' => ?_
  unfold Oper.wp
  rcases h.next K o.type with ⟨h0, hl, hrun⟩ | ⟨key, v, kl, y, w', cnt', hkey, hlk, hv, hat, hrun, hrg, hlt, hgr, hsz, hen⟩
  · simp [execOp, hop, hit, hrun, Result.andThen]
    exact hK' _ _ (hDone h0 hl)
  · obtain ⟨x, rfl⟩ := invK key kl hkey
    have hmk : m kl = some v := by
      have h1 := hat (.held (.bool true))
      rw [q2] at h1
      have h2 := hlm kl hlk
      obtain ⟨u, hu⟩ := Option.isSome_iff_exists.1 h2
      rw [hu] at h1
      simp only [Option.getD_some] at h1
      simp only [rawE, Option.some.injEq] at hv
      rw [← hv] at h1
      simp only [DataW.held.injEq] at h1
      rw [hu, h1]
    obtain ⟨y, rfl⟩ := invV kl v hmk hlk
    simp [execOp, hop, hit, hrun, Result.andThen]
    exact hK' _ _ (hMore x y kl w' cnt' hkey hlk hmk ⟨D, hrg, q1, q2, q3⟩ hlt hgr hsz hen)
end
end Go.Proofs.Ytapgcahbccchfaa
