/- Digest of package words; the contracts of the package. -/
import Derived.Test.YtbjligjmckilcaaDoorWfi
import Derived.Shelf.Strings.Builder1
namespace Go.Proofs.YtbjligjmckilcaaDoor
open Go.RowKit Go.Maps Go.ChangeMaps Go.MapKept
open Wd
attribute [local go_sem ↓] Go.wp_at_zero Go.wp_at_succ
theorem builder_old {T e : TypeId} {B b : Nat} {xs : List Value} {w w' : World} (h : Lib.IsBuilder T e B b xs w) (hb : Below w.heap.size w w') : Lib.IsBuilder T e B b xs w' := by
  have one : ∀ p, Lib.BuilderAt T e B b p xs w → Lib.BuilderAt T e B b p xs w' := by
    rintro p ⟨h1, v, h2, h3, h4⟩
    have hlt : b < w.heap.size := (Array.getElem?_eq_some_iff.1 h2).1
    exact ⟨h1, v, (hb.block b hlt).trans h2, h3.kept (gb_of_below hb none) (by
      cases hv : v.ownBlock with
      | none => exact .inl rfl
      | some g => exact .inr (by simp)), h4⟩
  rcases h with h | h
  · exact .inl (one _ h)
  · exact .inr (one _ h)
theorem strCells_eq (s : ByteArray) : Lib.strCells s = Lib.byteCells s.data.toList := rfl
theorem cells_app (a b : S) : Lib.byteCells a ++ Lib.strCells (bs b) = Lib.byteCells (a ++ b) := by rw [strCells_eq, bs_list, ← Lib.byteCells_append]
theorem itoa_few (k : Nat) (h : k ≤ 1000) : (Lib.itoa (k : Int)).length ≤ 21 := Lib.itoa_length_le _ (by omega) (by omega)
theorem string_any (B b : Nat) (l : S) (w : World) (h : Lib.IsBuilder 48 5 B b (Lib.byteCells l) w) (hBw : B ≤ w.heap.size) :
    Calls Tryd.prog 33 #[.pointer (some ⟨b, 0, none⟩)] w fun e w' => e = .returned (.string (bs l)) ∧ Below B w w' :=
  Any.Builder_String_any Tryd.lstring stringExtra B b l w h hBw
section
variable {w : World}
set_option maxHeartbeats 4000000 in
set_option maxRecDepth 100000 in
theorem p_digest {v : Value} {l : List S} (he : Env w) (hv : TxAt w v l) (hl : Fit l) :
    Calls Tryd.prog 19 #[v] w (Text w (digest l)) := by
  obtain ⟨hl0, hfw⟩ := hl
  have HFW := Lib.hid hfw
  have HV := Lib.hid hv
  obtain ⟨a, cap, rfl, -⟩ := hv
  clear hfw
  have HE := Lib.hid he
  have H0 := Lib.hid (Lib.fresh_isBuilder 48 5 w)
  have HB0 := Lib.hid ((Below.refl w.heap.size w).alloc (Nat.le_refl _) (.cells #[.pointer none, .slice none 0 0] 48))
  clear he
  go_enter Tryd.func19, Tryd.ntmps19
  go_wp2
  go_loopw [8] (fun i wr => ∃ (k : Nat), k ≤ l.length ∧ i = .int .i64 k ∧ (dig l k).length ≤ 60 * k ∧ Hid (Lib.IsBuilder 48 5 w.heap.size w.heap.size (Lib.byteCells (dig l k)) wr ∧ Below w.heap.size w wr)) (fun i _ => l.length - (intOf i).toNat)
  case atStart => exact ⟨0, Nat.zero_le _, rfl, by simp [dig], Lib.hid ⟨H0.out, HB0.out⟩⟩
  case round =>
    obtain ⟨k, hk, rfl, hdl, HB⟩ := hrel
    by_cases hlt : k < l.length
    · obtain ⟨t, ht⟩ : ∃ t, l[k]? = some t := ⟨_, List.getElem?_eq_getElem hlt⟩
      obtain ⟨b, off, cap', h1, _, hcs⟩ := (HV.out.keep HB.out.2).form (by omega)
      cases h1
      have c0 := hcs k t ht
      have htl := HFW.out t (List.mem_of_getElem? ht)
      have hdn := dig_next l k
      rw [List.getD_eq_getElem?_getD, ht, Option.getD_some] at hdn
      clear hcs
      by_cases h0 : t = []
      · subst h0
        have hz : dline k [] = [] := by unfold dline; rw [if_pos rfl]
        rw [hz, List.append_nil] at hdn
        have hbe : (bs ([] : S)).toList.isEmpty = true := by rw [bs_toList]; rfl
        have HDN := Lib.hid hdn
        clear hdn ht hz
        go_wp2
        go_roundw
        case rel => exact ⟨k + 1, by omega, by go_num, by rw [HDN.out]; omega, by rw [HDN.out]; exact HB⟩
        case measure => simp [intOf]; omega
      · have hz : dline k t = Lib.itoa (k : Int) ++ [58, 32] ++ line t 20 ++ [10] := by unfold dline; rw [if_neg h0]
        rw [hz] at hdn
        have hbe : (bs t).toList.isEmpty = false := by rw [bs_toList]; cases t with | nil => exact (h0 rfl).elim | cons x y => rfl
        have hl1 := itoa_few k (by omega)
        have hl2 := line_len t 20 (by omega)
        have hgl : (dig l (k + 1)).length ≤ 60 * (k + 1) := by rw [hdn]; simp; omega
        have H1 := Lib.hid (itoa_any (w := wr) (k : Int) ⟨by omega, by omega⟩ (HE.out.keep HB.out.2))
        have H2 := Lib.hid (fun (w : World) => p_line (w := w) (s := t) (m := 20) (by omega) ⟨by omega, by omega⟩)
        generalize Lib.itoa (k : Int) = D at *
        generalize line t 20 = E at *
        have e1 : bs D ++ ({ data := #[58, 32] } : ByteArray) = bs (D ++ [58, 32]) := bs_append _ [58, 32]
        have e2 : bs (D ++ [58, 32]) ++ bs E = bs (D ++ [58, 32] ++ E) := bs_append _ _
        have e3 : bs (D ++ [58, 32] ++ E) ++ ({ data := #[10] } : ByteArray) = bs (D ++ [58, 32] ++ E ++ [10]) := bs_append _ [10]
        have z1 := bs_size D
        have z2 := bs_size E
        have z3 := bs_size (D ++ [58, 32])
        have z4 := bs_size (D ++ [58, 32] ++ E)
        have z5 : (D ++ [58, 32] ++ E ++ [10]).length ≤ 60 := by simp; omega
        simp only [List.length_append, List.length_cons, List.length_nil] at z3 z4
        generalize D ++ [58, 32] ++ E ++ [10] = X3 at e3 z5 hdn
        generalize D ++ [58, 32] ++ E = X2 at e2 e3 z4
        generalize D ++ [58, 32] = X1 at e1 e2 z3
        have HDN := Lib.hid hdn
        clear hdn ht hz
        go_wp2_with (go_at_call 32; refine (H1.out).mono ?_; rintro e w2 ⟨rfl, b2⟩; refine Hid.out ?_)
        refine Lib.hid ?_
        have B2 := Lib.hid b2
        clear b2 c0
        go_wp2_with (go_at_call 14; refine (H2.out _).mono ?_; rintro e w3 ⟨rfl, b3⟩; refine Hid.out ?_)
        refine Lib.hid ?_
        have B3 := Lib.hid (B2.out.trans (b3.mono B2.out.size))
        clear b3
        have hs3 : w.heap.size ≤ w3.heap.size := Nat.le_trans HB.out.2.size B3.out.size
        go_wp2_with (go_at_call 31; refine (str_any w.heap.size w.heap.size (Lib.byteCells (dig l k)) (bs X3) _ (builder_old HB.out.1 B3.out) (by rw [Lib.byteCells_length, bs_size]; omega) hs3).mono ?_; rintro e w4 ⟨rfl, h4, b4⟩; refine Hid.out ?_)
        refine Lib.hid ?_
        rw [cells_app, ← HDN.out] at h4
        have H4 := Lib.hid h4
        have B4 := Lib.hid ((HB.out.2.trans (B3.out.mono HB.out.2.size)).trans b4)
        clear h4 b4
        go_wp2
        go_roundw
        case rel => exact ⟨k + 1, by omega, by go_num, hgl, Lib.hid ⟨H4.out, B4.out⟩⟩
        case measure => simp [intOf]; omega
    · obtain rfl : k = l.length := by omega
      go_wp2_with (go_at_call 33; refine (string_any w.heap.size w.heap.size (dig l l.length) _ HB.out.1 HB.out.2.size).mono ?_; rintro e w2 ⟨rfl, b2⟩; refine Hid.out ?_)
      refine Lib.hid ?_
      go_wp2
      go_ret
      exact ⟨rfl, HB.out.2.trans b2⟩
end
theorem theApi : WApi Env where
  keep := fun h hb => h.keep hb
  words_ := fun _ hs => p_words hs
  parts_ := fun _ hs ha hb => p_parts hs ha hb
  line_ := fun _ hs hm => p_line hs hm
  find_ := fun _ hv hl hs => p_find hv hl hs
  digest_ := fun he hv hl => p_digest he hv hl
end Go.Proofs.YtbjligjmckilcaaDoor
