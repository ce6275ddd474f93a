/- maps.Keys as an iterator, for a loop whose body writes another map. -/
import Derived.Test.YtihnnffhpgbgjaaPsort
import Derived.RangeFuncWrites
import Derived.RangeFuncLeaves
import Derived.RangeFuncCalls
import Derived.Maps.OwnIn
namespace Go.Proofs.Ytihnnffhpgbgjaa
open Go.RowKit Go.Maps Go.ChangeMaps Go.MapKept Go.Shelf
open Gp
def isIter : Obj → Bool
  | .mapIter .. => true
  | _ => false
/-- What a round keeps: the map that is gone through, and what goes through maps. -/
structure KpM (mb : Nat) (A B : World) : Prop where
  map : B.heap[mb]? = A.heap[mb]?
  iter : ∀ (k : Nat) (o : Obj), A.heap[k]? = some o → isIter o = true → B.heap[k]? = some o
theorem kpM_refl (mb : Nat) (A : World) : KpM mb A A := ⟨rfl, fun _ _ h _ => h⟩
theorem kpM_t {mb : Nat} {A B C : World} (h : KpM mb A B) (k : KpM mb B C) : KpM mb A C := ⟨k.map.trans h.map, fun i o hi ho => k.iter i o (h.iter i o hi ho) ho⟩
theorem kpM_b {mb : Nat} {w : World} (hm : mb < w.heap.size) (W : World) (l : Nat) (o o' : Obj) (hl : w.heap.size ≤ l) (h : W.heap[l]? = some o) (_ : o.isCells = false) (hw : o.isWalk = false) : KpM mb W (W.putObj l o') :=
  ⟨World.putObj_heap_other (by omega), fun k u hk hu => by
    by_cases e : k = l
    · subst e
      rw [h] at hk
      cases hk
      cases o <;> simp_all [isIter, Obj.isWalk]
    · exact (World.putObj_heap_other e).trans hk⟩
theorem kpM_below {mb : Nat} {A B : World} (hm : mb < A.heap.size) (h : Below A.heap.size A B) : KpM mb A B := ⟨h.block mb hm, fun k _ hk _ => (h.block k (lt_heap hk)).trans hk⟩
theorem kpM_grown {mb g : Nat} {A B : World} (hm : mb < A.heap.size) (hne : g ≠ mb) (hi : ∀ o, A.heap[g]? = some o → isIter o = false) (h : A.grownBy B (some g)) : KpM mb A B :=
  ⟨h.block mb hm (fun q => hne (Option.some.inj q).symm), fun k o hk ho => (h.block k (lt_heap hk) (fun q => by
    have q := Option.some.inj q
    subst q
    rw [hi o hk] at ho
    cases ho)).trans hk⟩
theorem ranges_kept {w w' : World} {b r n cnt : Nat} {D : DataW Value} {left : Lit → Bool} (h : w.ranges Try.prog 3 rawE b r n D left cnt) (k : KpM b w w') : w'.ranges Try.prog 3 rawE b r n D left cnt := by
  obtain ⟨es, clock, since, seen, c0, h1, h2, h3, h4, h5, h6⟩ := h
  exact ⟨es, clock, since, seen, c0, k.map.trans h1, h2, h3, h4, k.iter r _ h5 rfl, h6⟩
/-- The keys that come: those of some kind. -/
abbrev KeyT (A : Int → Prop) := { x : Int // A x }
section
variable {w : World} {mb c : Nat} {m : Int → Option Value} {A : Int → Prop}
set_option maxRecDepth 100000 in
set_option maxHeartbeats 1000000 in
theorem keys_set (h : IMap w mb c m) (hA : ∀ x, (m x).isSome = true → A x) (Bm : Nat) (hBm : Bm < w.heap.size) (hm : w.cell? ⟨Bm, 0, none⟩ = some (.map (some mb))) (n : Nat) (hn : 1 ≤ n) :
    SeqStopsK Fence.wide n Try.prog 60 #[.pointer (some ⟨Bm, 0, none⟩)] (fun x : KeyT A => #[.int .i64 x.1]) (KpM mb)
      (fun ss => (ss.map (·.1)).Nodup ∧ ∀ x, x ∈ ss.map (·.1) ↔ (m x).isSome = true) (fun _ => True) c w := fun l J Jx W hW hJ _ hY h0 => by
  obtain ⟨D0, hown0, hsz, _, hhas⟩ := h.is
  have hbl := hown0.lt
  have hown : W.ownsMap Try.prog 3 rawE mb c D0 := by
    obtain ⟨es, clock, hb, Ft, hs, hD⟩ := hown0
    exact ⟨es, clock, (hW.block mb hbl).trans hb, Ft, hs, hD⟩
  have hm := (hW.cell (p := ⟨Bm, 0, none⟩) hBm).trans hm
  have hh : ∀ x, Maps.has D0 (.int .i64 x) = (m x).isSome := fun x => hhas _
  refine callsIn_of_wp Try.func60 rfl trivial ?_ rfl
  simp only [Try.ntmps60, List.size_toArray, List.length_cons, List.length_nil, Nat.reduceAdd, Nat.reduceSub, Array.replicate_succ, Array.replicate_zero, List.push_toArray, List.append_toArray, List.nil_append, List.cons_append]
  gi_wp2_with (first
    | (gi_at_range; refine wpListIn_range_own _ rfl _ 60 rfl 3 4 kI Try.underlying60 _ mb c _ rfl hown ?_; intro w0 hrg0 hg0 hs0)
    | gi_in)
  try go_frame
  gi_loopw [3] (fun _ wr => ∃ (left : Lit → Bool) (cnt : Nat) (ss : List (KeyT A)), wr.ranges Try.prog 3 rawE mb W.heap.size c D0 left cnt ∧ ss.length + cnt ≤ c ∧ CollectedI D0 left (ss.map (·.1)) ∧ J ss wr)
    (fun _ wr => wr.rangeLeft mb W.heap.size)
  case atStart => exact ⟨_, _, [], hrg0, by simp [hsz], CollectedI.start D0, hJ [] W w0 none h0 hg0 (fun r e => by cases e)⟩
  case round =>
    obtain ⟨left, cnt, ss, hrg, hcs, hC, hJs⟩ := hrel
    gi_wp2_with (first
      | (gi_at_next; refine wpListIn_next_ranges _ rfl _ rfl 3 kI rawE (Value.int .i64) id (fun key kl hk => by obtain ⟨x, hx, _⟩ := Maps.keyOf_i64 Try.underlying3 hk; exact ⟨x, hx⟩) (fun v _ _ => ⟨v, rfl⟩) mb W.heap.size c _ _ _ rfl hrg ?_ ?_)
      | gi_in)
    · intro hc0 hl0
      gi_wp2
      go_end0
      exact ⟨⟨_, rfl⟩, .inl ⟨ss, ⟨hC.1, fun x => by rw [hC.2 x, hl0, hh]; simp⟩, hJs⟩⟩
    · intro x z kl yd yp w2 cnt2 hkey hlk hv hat hrg2 hlt hg2 hs2 hen
      obtain ⟨x', ex, rfl, _⟩ := Maps.keyOf_i64 Try.underlying3 hkey
      obtain rfl : x = x' := encZ_inj ex
      have hJ2 : J ss w2 := hJ ss wr w2 (some W.heap.size) hJs hg2 (fun r e => by cases e; exact ⟨Nat.le_refl _, hrg.iter_walk⟩)
      have hAx : A x := hA x (by rw [← hh]; exact has_true_of_atKey hat)
      obtain ⟨fn, tmps, assign, body, hy, hR⟩ := hY ss ⟨x, hAx⟩ w2 hJ2 (by omega)
      clear hs2
      gi_wp2
      refine hR.mono ?_
      have hC2 := hC.step hlk hat
      rintro e W3 (⟨rfl, hJ3, hk3⟩ | ⟨rfl, hJx3⟩)
      · gi_wp2
        have hrg3 := ranges_kept hrg2 hk3
        go_roundw
        case rel => exact ⟨_, cnt2, ss ++ [⟨x, hAx⟩], hrg3, by simp; omega, by rw [List.map_append]; exact hC2, hJ3⟩
        case measure => rw [hrg3.left_eq, hrg.left_eq]; exact hlt
      · gi_wp2
        refine bodyPost_ret (results_none rfl _ _ _) rfl ?_
        exact ⟨⟨_, rfl⟩, .inr ⟨ss ++ [⟨x, hAx⟩], trivial, hJx3⟩⟩
set_option maxRecDepth 100000 in
set_option maxHeartbeats 1000000 in
theorem keys_node (h : IMap w mb c m) (hA : ∀ x, (m x).isSome = true → A x) (Bm : Nat) (hBm : Bm < w.heap.size) (hm : w.cell? ⟨Bm, 0, none⟩ = some (.map (some mb))) (n : Nat) (hn : 1 ≤ n) :
    SeqStopsK Fence.wide n Try.prog 65 #[.pointer (some ⟨Bm, 0, none⟩)] (fun x : KeyT A => #[.int .i64 x.1]) (KpM mb)
      (fun ss => (ss.map (·.1)).Nodup ∧ ∀ x, x ∈ ss.map (·.1) ↔ (m x).isSome = true) (fun _ => True) c w := fun l J Jx W hW hJ _ hY h0 => by
  obtain ⟨D0, hown0, hsz, _, hhas⟩ := h.is
  have hbl := hown0.lt
  have hown : W.ownsMap Try.prog 3 rawE mb c D0 := by
    obtain ⟨es, clock, hb, Ft, hs, hD⟩ := hown0
    exact ⟨es, clock, (hW.block mb hbl).trans hb, Ft, hs, hD⟩
  have hm := (hW.cell (p := ⟨Bm, 0, none⟩) hBm).trans hm
  have hh : ∀ x, Maps.has D0 (.int .i64 x) = (m x).isSome := fun x => hhas _
  refine callsIn_of_wp Try.func65 rfl trivial ?_ rfl
  simp only [Try.ntmps65, List.size_toArray, List.length_cons, List.length_nil, Nat.reduceAdd, Nat.reduceSub, Array.replicate_succ, Array.replicate_zero, List.push_toArray, List.append_toArray, List.nil_append, List.cons_append]
  gi_wp2_with (first
    | (gi_at_range; refine wpListIn_range_own _ rfl _ 52 rfl 3 57 kI Try.underlying52 _ mb c _ rfl hown ?_; intro w0 hrg0 hg0 hs0)
    | gi_in)
  try go_frame
  gi_loopw [3] (fun _ wr => ∃ (left : Lit → Bool) (cnt : Nat) (ss : List (KeyT A)), wr.ranges Try.prog 3 rawE mb W.heap.size c D0 left cnt ∧ ss.length + cnt ≤ c ∧ CollectedI D0 left (ss.map (·.1)) ∧ J ss wr)
    (fun _ wr => wr.rangeLeft mb W.heap.size)
  case atStart => exact ⟨_, _, [], hrg0, by simp [hsz], CollectedI.start D0, hJ [] W w0 none h0 hg0 (fun r e => by cases e)⟩
  case round =>
    obtain ⟨left, cnt, ss, hrg, hcs, hC, hJs⟩ := hrel
    gi_wp2_with (first
      | (gi_at_next; refine wpListIn_next_ranges _ rfl _ rfl 3 kI rawE (Value.int .i64) id (fun key kl hk => by obtain ⟨x, hx, _⟩ := Maps.keyOf_i64 Try.underlying3 hk; exact ⟨x, hx⟩) (fun v _ _ => ⟨v, rfl⟩) mb W.heap.size c _ _ _ rfl hrg ?_ ?_)
      | gi_in)
    · intro hc0 hl0
      gi_wp2
      go_end0
      exact ⟨⟨_, rfl⟩, .inl ⟨ss, ⟨hC.1, fun x => by rw [hC.2 x, hl0, hh]; simp⟩, hJs⟩⟩
    · intro x z kl yd yp w2 cnt2 hkey hlk hv hat hrg2 hlt hg2 hs2 hen
      obtain ⟨x', ex, rfl, _⟩ := Maps.keyOf_i64 Try.underlying3 hkey
      obtain rfl : x = x' := encZ_inj ex
      have hJ2 : J ss w2 := hJ ss wr w2 (some W.heap.size) hJs hg2 (fun r e => by cases e; exact ⟨Nat.le_refl _, hrg.iter_walk⟩)
      have hAx : A x := hA x (by rw [← hh]; exact has_true_of_atKey hat)
      obtain ⟨fn, tmps, assign, body, hy, hR⟩ := hY ss ⟨x, hAx⟩ w2 hJ2 (by omega)
      clear hs2
      gi_wp2
      refine hR.mono ?_
      have hC2 := hC.step hlk hat
      rintro e W3 (⟨rfl, hJ3, hk3⟩ | ⟨rfl, hJx3⟩)
      · gi_wp2
        have hrg3 := ranges_kept hrg2 hk3
        go_roundw
        case rel => exact ⟨_, cnt2, ss ++ [⟨x, hAx⟩], hrg3, by simp; omega, by rw [List.map_append]; exact hC2, hJ3⟩
        case measure => rw [hrg3.left_eq, hrg.left_eq]; exact hlt
      · gi_wp2
        refine bodyPost_ret (results_none rfl _ _ _) rfl ?_
        exact ⟨⟨_, rfl⟩, .inr ⟨ss ++ [⟨x, hAx⟩], trivial, hJx3⟩⟩
end
end Go.Proofs.Ytihnnffhpgbgjaa
