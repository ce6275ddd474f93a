/- What the walks of layer 4 share: lists of the statement's own that grow, and what is read of them. -/
import Derived.Test.YtjhedlkanphlhaaNIdealP
import Derived.Lib.AppendZerosOnto
namespace Go.Proofs.Ytjhedlkanphlhaa
open Go.RowKit Go.Maps Go.ChangeMaps Go.MapKept
open Np

section
variable {w0 w w' : World} {os : List Ob} {i b : Nat} {T : List ByteArray}
/-- A number goes onto a list of the statement's own. -/
theorem run_push_int (v : Value) (xs : List Int) (z : Int) (w : World) (q : Nat) (hown : w.ownsRow 0 3 1 v xs.length (intVs xs)) (hq : w.cell? ⟨q, 0, none⟩ = some (.int .i64 z)) (hn : xs.length ≤ 100000) :
    ∃ v' w', (Builtin.append_ #[42, 42] 42 #[v, .slice (some ⟨q, 0, none⟩) 1 1]).run Try.prog w = .ok v' w' ∧ w'.ownsRow 0 3 1 v' (intVs (xs ++ [z])).length (intVs (xs ++ [z])) ∧ w.grownBy w' v.ownBlock ∧ (v'.ownBlock = v.ownBlock ∨ v'.ownBlock = some w.heap.size) ∧ ∃ a c, v' = .slice a (xs ++ [z]).length c := by
  obtain ⟨i0, hi, hz0, hz1, hz2⟩ := info_parts int_info
  obtain ⟨v', w', h1, h2, h3, _, h5⟩ := run_append_own_at (P := Try.prog) w 0 42 42 3 i0 (.int .i64 0) 1 8 Try.underlying42 hi hz0 hz1 hz2 rfl (by decide) v xs.length _ hown ⟨q, 0, none⟩ 1 1 [.int .i64 z] rfl (fun j u hj => by
    match j, hj with
    | 0, hj => simp at hj; subst hj; rw [Lib.add_plain]; exact hq) (fun u hu => by simp at hu; subst hu; rfl) (by unfold maxLen; omega) (by omega) (Nat.zero_le _)
  have h2' : w'.ownsRow 0 3 1 v' (intVs (xs ++ [z])).length (intVs (xs ++ [z])) := by simpa [intVs] using h2
  obtain ⟨a, c, hv⟩ := own_form h2'
  exact ⟨v', w', h1, h2', h3, h5, a, c, by rw [hv, intVs_length]⟩
theorem OMem.pushInt (h : OMem w0 w os) {v : Value} {xs : List Int} (hi : os[i]? = some (.own 3 v (intVs xs))) (z : Int) (hn : xs.length ≤ 100000) :
    ∃ v' w', (Builtin.append_ #[42, 42] 42 #[v, .slice (some ⟨w.heap.size, 0, none⟩) 1 1]).run Try.prog (w.alloc (.cells #[.int .i64 z] 3)) = .ok v' w' ∧ OMem w0 w' (os.set i (.own 3 v' (intVs (xs ++ [z])))) ∧ ∃ a c, v' = .slice a (xs ++ [z]).length c := by
  have h1 := h.fresh (show Below w.heap.size w (w.alloc (.cells #[.int .i64 z] 3)) from (Below.refl _ _).alloc (Nat.le_refl _) _)
  obtain ⟨v', w', r1, r2, r3, r4, r5⟩ := run_push_int v xs z _ w.heap.size (by have := h1.at_row hi; rw [intVs_length] at this; exact this) (by rw [Lib.cell_of_heap (MapKept.heap_alloc w _).1]; rfl) hn
  exact ⟨v', w', r1, h1.grow hi r3 r2 r4, r5⟩
theorem RowAt.at_ {g o n c : Nat} {xs : List Value} (h : RowAt w (.slice (some ⟨g, o, none⟩) n c) xs) {k : Nat} {u : Value} (hk : xs[k]? = some u) : w.cell? ⟨g, o + k, none⟩ = some u := by
  obtain ⟨a, cap, h1, h2⟩ := h
  obtain ⟨b, off, h3, h4⟩ := h2 k u hk
  simp only [Value.slice.injEq] at h1
  obtain ⟨h1, -, -⟩ := h1
  subst h1
  cases h3
  exact h4
theorem n_text_b (h : OMem w0 w os) (hi : os[i]? = some (.names b T)) {n : Int} {s : ByteArray} {x : Bool} (ho : text T n = (s, x)) (hn : I64 n) (ht : AllText T) :
    Calls Try.prog 16 #[.pointer (some ⟨b, 0, none⟩), .int .i64 n] w fun e w' => e = .returned (.tuple #[.string s, .bool x]) ∧ Below w.heap.size w w' := by
  have := n_text h hi n hn ht
  rw [ho] at this
  exact this
theorem OMem.ints (h : OMem w0 w os) {v : Value} {xs : List Int} (hi : os[i]? = some (.own 3 v (intVs xs))) : IntsAt w v xs := h.row_at hi
theorem OMem.texts (h : OMem w0 w os) {v : Value} {xs : List ByteArray} (hi : os[i]? = some (.own 9 v (strVs xs))) : TextsAt w v xs := h.row_at hi
end
section
variable {w0 w w' : World} {os : List Ob} {i b : Nat} {T : List ByteArray}
/-- A string goes onto a list of the statement's own. -/
theorem run_push_str (v : Value) (xs : List ByteArray) (z : ByteArray) (w : World) (q : Nat) (hown : w.ownsRow 0 9 1 v xs.length (strVs xs)) (hq : w.cell? ⟨q, 0, none⟩ = some (.string z)) (hn : xs.length ≤ 100000) :
    ∃ v' w', (Builtin.append_ #[22, 22] 22 #[v, .slice (some ⟨q, 0, none⟩) 1 1]).run Try.prog w = .ok v' w' ∧ w'.ownsRow 0 9 1 v' (strVs (xs ++ [z])).length (strVs (xs ++ [z])) ∧ w.grownBy w' v.ownBlock ∧ (v'.ownBlock = v.ownBlock ∨ v'.ownBlock = some w.heap.size) ∧ ∃ a c, v' = .slice a (xs ++ [z]).length c := by
  obtain ⟨i0, hi, hz0, hz1, hz2⟩ := info_parts string_info
  obtain ⟨v', w', h1, h2, h3, _, h5⟩ := run_append_own_at (P := Try.prog) w 0 22 22 9 i0 (.string ⟨#[]⟩) 1 16 Try.underlying22 hi hz0 hz1 hz2 rfl (by decide) v xs.length _ hown ⟨q, 0, none⟩ 1 1 [.string z] rfl (fun j u hj => by
    match j, hj with
    | 0, hj => simp at hj; subst hj; rw [Lib.add_plain]; exact hq) (fun u hu => by simp at hu; subst hu; rfl) (by unfold maxLen; omega) (by omega) (Nat.zero_le _)
  have h2' : w'.ownsRow 0 9 1 v' (strVs (xs ++ [z])).length (strVs (xs ++ [z])) := by simpa [strVs] using h2
  obtain ⟨a, c, hv⟩ := own_form h2'
  exact ⟨v', w', h1, h2', h3, h5, a, c, by rw [hv, strVs_length]⟩
theorem OMem.pushStr (h : OMem w0 w os) {v : Value} {xs : List ByteArray} (hi : os[i]? = some (.own 9 v (strVs xs))) {z : ByteArray} {q : Nat} (hq : w.cell? ⟨q, 0, none⟩ = some (.string z)) (hn : xs.length ≤ 100000) :
    ∃ v' w', (Builtin.append_ #[22, 22] 22 #[v, .slice (some ⟨q, 0, none⟩) 1 1]).run Try.prog w = .ok v' w' ∧ OMem w0 w' (os.set i (.own 9 v' (strVs (xs ++ [z])))) ∧ ∃ a c, v' = .slice a (xs ++ [z]).length c := by
  obtain ⟨v', w', r1, r2, r3, r4, r5⟩ := run_push_str v xs z w q (by have := h.at_row hi; rw [strVs_length] at this; exact this) hq hn
  exact ⟨v', w', r1, h.grow hi r3 r2 r4, r5⟩
theorem arg_at {l : List ByteArray} {k : Nat} (hk : k < l.length) : (strVs l)[k]? = some (.string l[k]) := by
  unfold strVs; rw [List.getElem?_map, List.getElem?_eq_getElem hk]; rfl
end
namespace Np
theorem ofs_left (T l : List ByteArray) {s : ByteArray} (h : s ∈ T) : s ∈ ofs T l := by
  obtain ⟨r, hr⟩ := ofs_app T l; rw [hr]; exact List.mem_append_left _ h
theorem twice_not {T : List ByteArray} {s : ByteArray} (h : s ∈ T) : ¬ (T ++ [s]).Nodup := by
  intro hd; exact (List.nodup_append.1 hd).2.2 _ h _ (by simp) rfl
end Np
end Go.Proofs.Ytjhedlkanphlhaa
