/- What Sum and formOf of the journal return. -/
import Derived.Test.YtjbcgahdiolhhaaDoorJSpec
import Derived.Test.YtjbcgahdiolhhaaDoorRead2
namespace Go.Proofs.YtjbcgahdiolhhaaDoor.D2
open Go.RowKit Go.Shelf
open Jp

theorem take_snoc {l : List UInt8} {k : Nat} (h : k < l.length) : l.take (k + 1) = l.take k ++ [l[k]] := List.take_succ_eq_append_getElem h
theorem jsum_take (l : List UInt8) (k : Nat) (h : k < l.length) : jsum (l.take (k + 1)) = (jsum (l.take k) + (k + 1) * (l[k]).toNat) % 2147483647 := by
  rw [take_snoc h, jsum_snoc, List.length_take, Nat.min_eq_left (by omega)]

theorem w64_of {n : Int} (h : -9223372036854775808 ≤ n ∧ n ≤ 9223372036854775807) : wrap64 n = n := by unfold wrap64; omega
theorem sum_step (s k : Nat) (c : UInt8) (hc : c.toNat < 256) (hs : s < 2147483647) (h0 : 0 ≤ ((k : Int) + 1) * (c.toNat : Int)) (h1 : ((k : Int) + 1) * (c.toNat : Int) ≤ 280375465082880) (hm : ((k : Int) + 1) * (c.toNat : Int) = (((k + 1) * c.toNat : Nat) : Int)) :
    Value.int IntKind.i64 ((wrap64 ((s : Int) + wrap64 (((k : Int) + 1) * wrap64 (c.toNat : Int)))).tmod 2147483647) = Value.int IntKind.i64 (((s + (k + 1) * c.toNat) % 2147483647 : Nat) : Int) := by
  rw [w64_of (n := (c.toNat : Int)) (by omega), w64_of (n := ((k : Int) + 1) * (c.toNat : Int)) (by omega), w64_of (by omega), hm, Int.tmod_eq_emod_of_nonneg (by omega)]
  congr 1

theorem sum_any (l : List UInt8) (hl : l.length ≤ 1099511627776) (w : World) :
    Calls Tryd.prog 29 #[.string (bs l)] w fun e w' => e = .returned (.int .i64 (jsum l : Int)) ∧ w = w' := by
  have hsz := bs_size l
  go_enter Tryd.func29, Tryd.ntmps29
  go_wp2
  go_loop [3, 7] (fun u i => ∃ k s : Nat, k ≤ l.length ∧ s < 2147483647 ∧ Hid (s = jsum (l.take k)) ∧ u = .int .i64 s ∧ i = .int .i64 k) (fun _ i => l.length - (intOf i).toNat)
  case atStart => exact ⟨0, 0, Nat.zero_le _, by decide, Lib.hid (by simp [jsum_nil]), rfl, rfl⟩
  case round =>
    obtain ⟨k, s, hk, hs, HS, rfl, rfl⟩ := hrel
    by_cases hlt : k < l.length
    · have hks : k < (bs l).size := by rw [hsz]; exact hlt
      have HJ := jsum_take l k hlt
      rw [← HS.out] at HJ
      have hc := (l[k]).toNat_lt
      have hc0 : (bs l)[k]'hks = l[k] := rfl
      generalize l[k] = c at HJ hc hc0
      have hm : ((k : Int) + 1) * (c.toNat : Int) = (((k + 1) * c.toNat : Nat) : Int) := by simp
      have hb : (k + 1) * c.toNat ≤ 1099511627776 * 255 := Nat.mul_le_mul (by omega) (by omega)
      have h0 : 0 ≤ ((k : Int) + 1) * (c.toNat : Int) := by omega
      have h1 : ((k : Int) + 1) * (c.toNat : Int) ≤ 280375465082880 := by omega
      have HJ := Lib.hid HJ
      have hm := Lib.hid hm
      clear hb hc
      go_wp2
      go_roundw
      case rel => exact ⟨k + 1, (s + (k + 1) * c.toNat) % 2147483647, by omega, by omega, Lib.hid HJ.out.symm, sum_step s k c (c.toNat_lt) hs h0 h1 hm.out, by go_num⟩
      case measure => simp [intOf]; omega
    · have : k = l.length := by omega
      subst this
      have he := HS.out
      rw [List.take_length] at he
      subst he
      go_wp2
      go_ret
      exact ⟨rfl, rfl⟩

theorem formOf_any (l : List UInt8) (hl : l.length ≤ 1099511627776) (w : World) (he : Env w) :
    Calls Tryd.prog 39 #[.string (bs l)] w fun e w' => e = .returned (.string (bs (form l))) ∧ Below w.heap.size w w' := by
  have hJ := jsum_i64 l
  have hd : (Sp.eNum (jsum l : Int)).length ≤ 30 := by
    have h0 := jsum_lt l
    have h1 := Lib.itoa_length_le (jsum l : Int) (by omega) (by omega)
    unfold Sp.eNum Sp.eInt
    split
    · simp
    · simp; omega
  have hx : (Sp.eText l).length ≤ 1099511628000 := by
    have h1 := Lib.itoa_length_le (l.length : Int) (by omega) (by omega)
    simp [Sp.eText]; omega
  have hsz := bs_size (Sp.eText l)
  have hsz2 := bs_size (Sp.eNum (jsum l : Int))
  have hq : (bs (Sp.eText l)).size ≤ 1099511628000 := by omega
  have hq2 : (bs (Sp.eNum (jsum l : Int))).size ≤ 30 := by omega
  clear hsz hsz2 hd hx
  go_enter Tryd.func39, Tryd.ntmps39
  go_wp2_with (go_at_call 27; refine (wText_any l (by omega) _ he).mono ?_; rintro e w1 ⟨rfl, b1⟩; refine Hid.out ?_)
  refine Lib.hid ?_
  have e1 := he.fresh b1
  go_wp2_with (go_at_call 29; refine (sum_any l hl _).mono ?_; rintro e w2 ⟨rfl, rfl⟩; refine Hid.out ?_)
  refine Lib.hid ?_
  go_wp2_with (go_at_call 28; refine (wNum_any _ hJ _ e1).mono ?_; rintro e w3 ⟨rfl, b3⟩)
  go_ret
  exact ⟨ret_string (by rw [bs_append]; rfl), b1.trans (b3.mono b1.size)⟩
end Go.Proofs.YtjbcgahdiolhhaaDoor.D2
