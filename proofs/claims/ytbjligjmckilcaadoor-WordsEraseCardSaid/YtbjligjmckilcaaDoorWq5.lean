/- The reference of layer 10: Find, Decimal, Digest. -/
import Derived.Test.YtbjligjmckilcaaDoorWq4
import Derived.Test.YtbjligjmckilcaaDoorOrd7
import Derived.Lib.ItoaLen
namespace Go.Proofs.YtbjligjmckilcaaDoor
open Go.RowKit Go.Maps Go.ChangeMaps Go.MapKept
open Wd
attribute [local go_sem ↓] Go.wp_at_zero Go.wp_at_succ
theorem decDigits_small {u : Nat} (h : u < 10) : Lib.decDigits u = [UInt8.ofNat (48 + u)] := by rw [Lib.decDigits, dif_pos h]
theorem decDigits_big {u : Nat} (h : ¬ u < 10) : Lib.decDigits u = Lib.decDigits (u / 10) ++ [UInt8.ofNat (48 + u % 10)] := by rw [Lib.decDigits, dif_neg h]
theorem conv1 (d : Nat) (c : UInt8) (hd : c.toNat = 48 + d) (w : World) : (convert 41 9 (.slice (some ⟨w.heap.size, 0, none⟩) 1 1)).run Tryd.prog (w.alloc (.cells #[.int .u8 (48 + (d : Int))] 5)) = .ok (.string (bs [c])) (w.alloc (.cells #[.int .u8 (48 + (d : Int))] 5)) := by
  have h := run_convert_bytes_back (P := Tryd.prog) (w.alloc (.cells #[.int .u8 (48 + (d : Int))] 5)) 41 9 5 ⟨w.heap.size, 0, none⟩ 1 [c] Tryd.underlying41 Tryd.underlying5 Tryd.underlying9 (fun j hj => by
    have hj0 : j = 0 := by simpa using hj
    subst hj0
    rw [Lib.add_plain]
    refine (Lib.cell_of_heap (heap_alloc_new w _) _).trans ?_
    simp only [List.getElem_cons_zero, hd]
    rfl)
  exact h
theorem digit_of (d : Nat) (hd : d < 10) : ∃ c : UInt8, c.toNat = 48 + d ∧ Hid (UInt8.ofNat (48 + d) = c) := ⟨_, by rw [UInt8.toNat_ofNat']; omega, Lib.hid rfl⟩

set_option maxRecDepth 100000 in
theorem digits_0 (m : Nat) (hm : m < 10) (w : World) :
    Calls Tryd.prog 54 #[.int .i64 (-(m : Int))] w fun e w' => e = .returned (.string (bs (Lib.decDigits m))) ∧ Below w.heap.size w w' := by
  have hr : (-(m : Int)).tmod 10 = -(m : Int) := by rw [Int.neg_tmod, Int.tmod_eq_emod_of_nonneg (by omega)]; omega
  obtain ⟨c, h1, HC⟩ := digit_of m hm
  have hc := conv1 m c h1 w
  clear h1
  go_enter Tryd.func54, Tryd.ntmps54
  go_wp2
  go_ret
  exact ⟨by rw [decDigits_small hm, HC.out]; rfl, (Below.refl _ _).alloc (Nat.le_refl _) _⟩

set_option maxRecDepth 100000 in
theorem digits_any (n : Nat) : ∀ (m : Nat) (w : World), m ≤ n → m ≤ 9223372036854775808 →
    Calls Tryd.prog 54 #[.int .i64 (-(m : Int))] w fun e w' => e = .returned (.string (bs (Lib.decDigits m))) ∧ Below w.heap.size w w' := by
  induction n with
  | zero => exact fun m w h _ => digits_0 m (by omega) w
  | succ n ih =>
    intro m w hm hb
    by_cases h : m < 10
    · exact digits_0 m h w
    · have hr : (-(m : Int)).tmod 10 = -((m % 10 : Nat) : Int) := by rw [Int.neg_tmod, Int.tmod_eq_emod_of_nonneg (by omega)]; omega
      have hq : (-(m : Int)).tdiv 10 = -((m / 10 : Nat) : Int) := by rw [Int.neg_tdiv, Int.tdiv_eq_ediv_of_nonneg (by omega)]; omega
      have hi := ih (m / 10) (w.alloc (.cells #[.int .u8 (48 + ((m % 10 : Nat) : Int))] 5)) (by omega) (by omega)
      have hl : (bs (Lib.decDigits (m / 10))).size ≤ 30 := by
        rw [bs_size]
        have := Lib.itoa_length_le ((m / 10 : Nat) : Int) (by omega) (by omega)
        rw [Lib.itoa, if_neg (by omega)] at this
        simp only [Int.toNat_natCast] at this
        omega
      have hd := decDigits_big h
      obtain ⟨c, hc1, HC⟩ := digit_of (m % 10) (by omega)
      have hc := conv1 (m % 10) c hc1 w
      rw [HC.out] at hd
      clear hc1 HC
      have hcz : (bs [c]).size = 1 := by rw [bs_size]; rfl
      have hlt : m % 10 < 10 := by omega
      have hqq : m / 10 ≤ 922337203685477580 := by omega
      generalize hdd : m % 10 = d at hr hc hi hd hlt
      generalize hqe : m / 10 = q at hq hi hd hl hqq
      have HD := Lib.hid hd
      have HI := Lib.hid hi
      clear hd hi hdd hqe ih
      go_enter Tryd.func54, Tryd.ntmps54
      go_wp2_with (go_at_call 54; refine HI.out.mono ?_; rintro e w1 ⟨rfl, b1⟩)
      go_ret
      exact ⟨by rw [bs_append, HD.out]; rfl, ((Below.refl _ _).alloc (Nat.le_refl _) _).trans (b1.mono (by simp))⟩
theorem itoa_nat (n : Nat) : Lib.itoa (n : Int) = Lib.decDigits n := by rw [Lib.itoa, if_neg (by omega), Int.toNat_natCast]
theorem bs_snoc (a : S) (c : UInt8) : bs a ++ (⟨#[c]⟩ : ByteArray) = bs (a ++ [c]) := ByteArray.mk_append_mk a [c]
theorem itoa_small (k : Nat) (h : k ≤ 1000) : (Lib.itoa (k : Int)).length ≤ 21 := Lib.itoa_length_le _ (by omega) (by omega)
set_option maxRecDepth 100000 in
theorem q_int (k : Nat) (h : k ≤ 1000) (w : World) :
    Calls Tryd.prog 44 #[.int .i64 (k : Int)] w fun e w' => e = .returned (.string (bs (Lib.itoa (k : Int) ++ [59]))) ∧ Below w.heap.size w w' := by
  have hd := digits_any _ k w (Nat.le_refl _) (by omega)
  have hs : (bs (Lib.decDigits k)).size ≤ 21 := by have := itoa_small k h; rw [itoa_nat] at this; rw [bs_size]; exact this
  have HI := Lib.hid (itoa_nat k)
  have HD := Lib.hid hd
  clear hd
  generalize Lib.decDigits k = D at hs HI HD
  go_enter Tryd.func44, Tryd.ntmps44
  go_wp2_with (go_at_call 54; refine HD.out.mono ?_; rintro e w1 ⟨rfl, b1⟩)
  go_ret
  exact ⟨ret_string (by rw [bs_snoc, HI.out]), b1⟩
set_option maxRecDepth 100000 in
theorem q_decimal (k : Nat) (h : k ≤ 1000) (w : World) :
    Calls Tryd.prog 34 #[.int .i64 (k : Int)] w fun e w' => e = .returned (.string (bs (Lib.itoa (k : Int)))) ∧ Below w.heap.size w w' := by
  have HD := Lib.hid (q_int k h w)
  have hl := itoa_small k h
  generalize Lib.itoa (k : Int) = D at HD hl ⊢
  have hz : (bs (D ++ [59])).size = D.length + 1 := by rw [bs_size]; simp
  have HX := Lib.hid (show (bs (D ++ [59])).extract 0 D.length = bs D by rw [bs_extract]; simp)
  go_enter Tryd.func34, Tryd.ntmps34
  go_wp2_with (go_at_call 44; refine (HD.out).mono ?_; rintro e w1 ⟨rfl, b1⟩; refine Hid.out ?_)
  refine Lib.hid ?_
  go_wp2
  go_ret
  exact ⟨ret_string HX.out, b1⟩
section
variable {w : World}
set_option maxHeartbeats 4000000 in
set_option maxRecDepth 100000 in
theorem q_digest {v : Value} {l : List S} (hv : TxAt w v l) (hl : few l 20 = true) :
    Calls Tryd.prog 20 #[v] w fun e w' => e = .returned (.string (bs (digest l))) ∧ Below w.heap.size w w' := by
  have hfw := of_decide_eq_true hl
  have HV := Lib.hid hv
  obtain ⟨a, cap, rfl, -⟩ := hv
  go_enter Tryd.func20, Tryd.ntmps20
  go_wp2
  go_loopw [3, 4] (fun o i wr => ∃ (k : Nat), k ≤ l.length ∧ i = .int .i64 k ∧ o = .string (bs (dig l k)) ∧ (dig l k).length ≤ 50 * k ∧ Hid (Below w.heap.size w wr)) (fun _ i _ => l.length - (intOf i).toNat)
  case atStart => exact ⟨0, Nat.zero_le _, rfl, rfl, by simp [dig], Lib.hid (Below.refl _ _)⟩
  case round =>
    obtain ⟨k, hk, rfl, rfl, hdl, HB⟩ := hrel
    by_cases hlt : k < l.length
    · obtain ⟨t, ht⟩ : ∃ t, l[k]? = some t := ⟨_, List.getElem?_eq_getElem hlt⟩
      obtain ⟨b, off, cap', h1, _, hcs⟩ := (HV.out.keep HB.out).form (by omega)
      cases h1
      have c0 := hcs k t ht
      have htl := hfw.2 t (List.mem_of_getElem? ht)
      have hdn := dig_next l k
      rw [List.getD_eq_getElem?_getD, ht, Option.getD_some] at hdn
      clear hcs
      by_cases h0 : t = []
      · subst h0
        have hz : dline k [] = [] := by unfold dline; rw [if_pos rfl]
        rw [hz, List.append_nil] at hdn
        have hbe : (bs ([] : S)).toList.isEmpty = true := by rw [bs_toList]; rfl
        have HDN := Lib.hid hdn
        clear hdn ht hz
        go_wp2
        go_roundw
        case rel => exact ⟨k + 1, by omega, by go_num, by rw [HDN.out], by rw [HDN.out]; omega, HB⟩
        case measure => simp [intOf]; omega
      · have hz : dline k t = Lib.itoa (k : Int) ++ [58, 32] ++ line t 20 ++ [10] := by unfold dline; rw [if_neg h0]
        rw [hz] at hdn
        have hbe : (bs t).toList.isEmpty = false := by rw [bs_toList]; cases t with | nil => exact (h0 rfl).elim | cons x y => rfl
        have hl1 := itoa_small k (by omega)
        have hl2 := line_len t 20 (by omega)
        have HB2 := Lib.hid (HB.out.trans ((below_drew wr).mono HB.out.size))
        have H1 := Lib.hid (q_decimal k (by omega) wr.drew)
        have H2 := fun (w : World) => q_line (w := w) (s := t) (m := 20) (by omega)
        have hgl : (dig l (k + 1)).length ≤ 50 * (k + 1) := by rw [hdn]; simp; omega
        have hdk : (dig l k).length ≤ 2000 := by omega
        generalize Lib.itoa (k : Int) = D at *
        generalize line t 20 = E at *
        have H2 := Lib.hid H2
        have e1 : bs (dig l k) ++ bs D = bs (dig l k ++ D) := bs_append _ _
        have e2 : bs (dig l k ++ D) ++ (⟨#[58, 32]⟩ : ByteArray) = bs (dig l k ++ D ++ [58, 32]) := bs_append _ [58, 32]
        have e3 : bs (dig l k ++ D ++ [58, 32]) ++ bs E = bs (dig l k ++ D ++ [58, 32] ++ E) := bs_append _ _
        have e4 : bs (dig l k ++ D ++ [58, 32] ++ E) ++ (⟨#[10]⟩ : ByteArray) = bs (dig l (k + 1)) := by rw [hdn, show dig l k ++ (D ++ [58, 32] ++ E ++ [10]) = dig l k ++ D ++ [58, 32] ++ E ++ [10] by simp]; exact bs_append _ [10]
        have z1 := bs_size (dig l k)
        have z2 := bs_size D
        have z3 := bs_size (dig l k ++ D)
        have z4 := bs_size (dig l k ++ D ++ [58, 32])
        have z5 := bs_size E
        have z6 := bs_size (dig l k ++ D ++ [58, 32] ++ E)
        simp only [List.length_append, List.length_cons, List.length_nil] at z3 z4 z6
        have z7 : (bs (dig l k ++ D ++ [58, 32] ++ E)).size ≤ 3000 := by omega
        generalize dig l k ++ D ++ [58, 32] ++ E = X3 at e3 e4 z6 z7
        generalize dig l k ++ D ++ [58, 32] = X2 at e2 e3 z4
        generalize dig l k ++ D = X1 at e1 e2 z3
        clear z6
        have HS := Lib.hid (show ∀ wx, Below wr.heap.size wr wx → wx.cell? ⟨b, off + k, none⟩ = some (.string (bs t)) from fun wx hx => below_cell c0 hx)
        have S0 := HS.out _ (below_drew wr)
        clear hdn ht hz
        go_wp2
        refine region_till 9 (fun wx => wx.cell? ⟨b, off + k, none⟩ = some (.string (bs t))) (by kernel_rfl) ?_
        refine till_take 0 30 false (v := ?v0) (by kernel_rfl) (by kernel_rfl) (by kernel_rfl) (by kernel_rfl) (by kernel_rfl) (fun _ _ _ h => h) ?hw0 S0 ?hy0 ?rest0
        case hw0 => (simp only [List.getElem?_toArray, List.getElem?_cons_zero, Option.elim]; rfl)
        case hy0 => (simp only [List.getElem?_toArray, List.getElem?_cons_zero, Option.elim]; intro wx _; go_simp; with_reducible rfl)
        simp only [dstOf, List.getElem?_toArray, List.getElem?_cons_zero, Option.bind, Act.put, List.setIfInBounds_toArray, List.set_cons_zero, List.set_cons_succ]
        refine till_take 1 30 false (v := ?v1) (by kernel_rfl) (by kernel_rfl) (by kernel_rfl) (by kernel_rfl) (by kernel_rfl) (fun _ _ _ h => h) ?hw1 S0 ?hy1 ?rest1
        case hw1 => (simp only [List.getElem?_toArray, List.getElem?_cons_zero, List.getElem?_cons_succ, Option.elim]; rfl)
        case hy1 => (simp only [List.getElem?_toArray, List.getElem?_cons_zero, List.getElem?_cons_succ, Option.elim]; intro wx _; go_simp; with_reducible rfl)
        simp only [dstOf, List.getElem?_toArray, List.getElem?_cons_zero, List.getElem?_cons_succ, Option.bind, Act.put, List.setIfInBounds_toArray, List.set_cons_zero, List.set_cons_succ]
        refine till_take 5 30 false (v := ?v5) (by kernel_rfl) (by kernel_rfl) (by kernel_rfl) (by kernel_rfl) (by kernel_rfl) (fun _ _ _ h => h) ?hw5 S0 ?hy5 ?rest5
        case hw5 => (simp only [List.getElem?_toArray, List.getElem?_cons_zero, List.getElem?_cons_succ, Option.elim]; rfl)
        case hy5 => (simp only [List.getElem?_toArray, List.getElem?_cons_zero, List.getElem?_cons_succ, Option.elim]; intro wx _; go_simp; with_reducible rfl)
        simp only [dstOf, List.getElem?_toArray, List.getElem?_cons_zero, List.getElem?_cons_succ, Option.bind, Act.put, List.setIfInBounds_toArray, List.set_cons_zero, List.set_cons_succ]
        refine till_take 6 30 false (v := ?v6) (by kernel_rfl) (by kernel_rfl) (by kernel_rfl) (by kernel_rfl) (by kernel_rfl) (fun _ _ _ h => h) ?hw6 S0 ?hy6 ?rest6
        case hw6 => (simp only [List.getElem?_toArray, List.getElem?_cons_zero, List.getElem?_cons_succ, Option.elim]; rfl)
        case hy6 => (simp only [List.getElem?_toArray, List.getElem?_cons_zero, List.getElem?_cons_succ, Option.elim]; intro wx _; go_simp; with_reducible rfl)
        simp only [dstOf, List.getElem?_toArray, List.getElem?_cons_zero, List.getElem?_cons_succ, Option.bind, Act.put, List.setIfInBounds_toArray, List.set_cons_zero, List.set_cons_succ]
        refine till_take 7 30 false (v := ?v7) (by kernel_rfl) (by kernel_rfl) (by kernel_rfl) (by kernel_rfl) (by kernel_rfl) (fun _ _ _ h => h) ?hw7 S0 ?hy7 ?rest7
        case hw7 => (simp only [List.getElem?_toArray, List.getElem?_cons_zero, List.getElem?_cons_succ, Option.elim]; rfl)
        case hy7 => (simp only [List.getElem?_toArray, List.getElem?_cons_zero, List.getElem?_cons_succ, Option.elim]; intro wx _; go_simp; with_reducible rfl)
        simp only [dstOf, List.getElem?_toArray, List.getElem?_cons_zero, List.getElem?_cons_succ, Option.bind, Act.put, List.setIfInBounds_toArray, List.set_cons_zero, List.set_cons_succ]
        refine till_take 8 30 true (v := ?v8) (by kernel_rfl) (by kernel_rfl) (by kernel_rfl) (by kernel_rfl) (by kernel_rfl) (fun _ _ _ h => h) ?hw8 S0 ?hy8 ?rest8
        case hw8 => (simp only [List.getElem?_toArray, List.getElem?_cons_zero, List.getElem?_cons_succ, Option.elim]; rfl)
        case hy8 => (simp only [List.getElem?_toArray, List.getElem?_cons_zero, List.getElem?_cons_succ, Option.elim]; intro wx hx; have x0 := hx trivial; go_simp; with_reducible rfl)
        simp only [dstOf, List.getElem?_toArray, List.getElem?_cons_zero, List.getElem?_cons_succ, Option.bind, Act.put, List.setIfInBounds_toArray, List.set_cons_zero, List.set_cons_succ]
        refine till_before 2 (by kernel_rfl) (fun K hK => ?_)
        simp only [List.getElem?_toArray, List.getElem?_cons_zero, List.getElem?_cons_succ, Option.elim]
        rw [if_pos (by rfl)]
        go_simp
        go_at_call 34
        refine (H1.out).mono ?_
        rintro e w7 ⟨rfl, b7⟩
        refine hK.out _ _ (HS.out _ ((below_drew wr).trans (b7.mono (below_drew wr).size))) ?_
        clear hK K
        try simp only [Act.put, List.setIfInBounds_toArray, List.set_cons_zero, List.set_cons_succ]
        have S0 := HS.out _ ((below_drew wr).trans (b7.mono (below_drew wr).size))
        have B7 := Lib.hid (HB2.out.trans (b7.mono HB2.out.size))
        clear b7 H1
        refine till_take 3 30 false (v := ?v3) (by kernel_rfl) (by kernel_rfl) (by kernel_rfl) (by kernel_rfl) (by kernel_rfl) (fun _ _ _ h => h) ?hw3 S0 ?hy3 ?rest3
        case hw3 => (simp only [List.getElem?_toArray, List.getElem?_cons_zero, List.getElem?_cons_succ, Option.elim]; rfl)
        case hy3 => (simp only [List.getElem?_toArray, List.getElem?_cons_zero, List.getElem?_cons_succ, Option.elim]; intro wx _; go_simp; rw [if_neg (by omega)]; try with_reducible rfl)
        simp only [dstOf, List.getElem?_toArray, List.getElem?_cons_zero, List.getElem?_cons_succ, Option.bind, Act.put, List.setIfInBounds_toArray, List.set_cons_zero, List.set_cons_succ]
        refine till_take 4 30 false (v := ?v4) (by kernel_rfl) (by kernel_rfl) (by kernel_rfl) (by kernel_rfl) (by kernel_rfl) (fun _ _ _ h => h) ?hw4 S0 ?hy4 ?rest4
        case hw4 => (simp only [List.getElem?_toArray, List.getElem?_cons_zero, List.getElem?_cons_succ, Option.elim]; rfl)
        case hy4 => (simp only [List.getElem?_toArray, List.getElem?_cons_zero, List.getElem?_cons_succ, Option.elim]; intro wx _; go_simp; rw [if_neg (by omega)]; try with_reducible rfl)
        simp only [dstOf, List.getElem?_toArray, List.getElem?_cons_zero, List.getElem?_cons_succ, Option.bind, Act.put, List.setIfInBounds_toArray, List.set_cons_zero, List.set_cons_succ]
        refine till_step 9 (by kernel_rfl) (by kernel_rfl) (fun K hK => ?_)
        simp only [List.getElem?_toArray, List.getElem?_cons_zero, List.getElem?_cons_succ, Option.elim]
        rw [if_pos (by rfl)]
        go_simp
        go_at_call 15
        refine (H2.out _).mono ?_
        rintro e w8 ⟨rfl, rfl⟩
        refine hK.out _ _ ?_
        clear hK K
        try simp only [Act.put, List.setIfInBounds_toArray, List.set_cons_zero, List.set_cons_succ]
        clear S0
        refine till_late 10 (v := ?v10) (by kernel_rfl) (by kernel_rfl) (by kernel_rfl) (by kernel_rfl) (fun _ _ _ h => h) (by kernel_rfl) ?hw10 ?hy10 ?rest10
        case hw10 => (simp only [List.getElem?_toArray, List.getElem?_cons_zero, List.getElem?_cons_succ, Option.elim]; rfl)
        case hy10 => (simp only [List.getElem?_toArray, List.getElem?_cons_zero, List.getElem?_cons_succ, Option.elim]; intro wx; go_simp; rw [if_neg (by omega)]; try with_reducible rfl)
        simp only [dstOf, List.getElem?_toArray, List.getElem?_cons_zero, List.getElem?_cons_succ, Option.bind, Act.put, List.setIfInBounds_toArray, List.set_cons_zero, List.set_cons_succ]
        refine till_late 11 (v := ?v11) (by kernel_rfl) (by kernel_rfl) (by kernel_rfl) (by kernel_rfl) (fun _ _ _ h => h) (by kernel_rfl) ?hw11 ?hy11 ?rest11
        case hw11 => (simp only [List.getElem?_toArray, List.getElem?_cons_zero, List.getElem?_cons_succ, Option.elim]; rfl)
        case hy11 => (simp only [List.getElem?_toArray, List.getElem?_cons_zero, List.getElem?_cons_succ, Option.elim]; intro wx; go_simp; rw [if_neg (by omega)]; try with_reducible rfl)
        simp only [dstOf, List.getElem?_toArray, List.getElem?_cons_zero, List.getElem?_cons_succ, Option.bind, Act.put, List.setIfInBounds_toArray, List.set_cons_zero, List.set_cons_succ]
        refine till_late 12 (v := ?v12) (by kernel_rfl) (by kernel_rfl) (by kernel_rfl) (by kernel_rfl) (fun _ _ _ h => h) (by kernel_rfl) ?hw12 ?hy12 ?rest12
        case hw12 => (simp only [List.getElem?_toArray, List.getElem?_cons_zero, List.getElem?_cons_succ, Option.elim]; rfl)
        case hy12 => (simp only [List.getElem?_toArray, List.getElem?_cons_zero, List.getElem?_cons_succ, Option.elim]; intro wx; go_simp; with_reducible rfl)
        simp only [dstOf, List.getElem?_toArray, List.getElem?_cons_zero, List.getElem?_cons_succ, Option.bind, Act.put, List.setIfInBounds_toArray, List.set_cons_zero, List.set_cons_succ]
        refine till_end (by kernel_rfl) ?_ _
        go_wp2
        go_roundw
        case rel => exact ⟨k + 1, by omega, by go_num, rfl, hgl, B7⟩
        case measure => simp [intOf]; omega
    · obtain rfl : k = l.length := by omega
      go_wp2
      go_ret
      exact ⟨rfl, HB.out⟩
end
end Go.Proofs.YtbjligjmckilcaaDoor
