/- The walk of ShareSums. -/
import Derived.Test.YtemokedoeneibaaSJoinsW
namespace Go.Proofs.Ytemokedoeneibaa
open Go.RowKit Go.Maps Go.ChangeMaps Go.MapKept
open Sp
attribute [local go_sem ↓] Go.wp_at_zero Go.wp_at_succ

theorem row_snoc {n m : Nat} {h : Nat → Int} (hm : m < n) : (row n h).take (m + 1) = (row n h).take m ++ [((m : Int) + 1, h m)] := by
  rw [List.take_add_one, row_get hm]; rfl
theorem row_take_len {n m : Nat} {h : Nat → Int} (hm : m ≤ n) : ((row n h).take m).length = m := by rw [List.length_take, row_len]; omega
section
variable {w0 w : World} {os : List Ob} {i m : Nat} {v : Value} {ks : List Pt}
theorem OMem.push2 (h : OMem w0 w os) (hk : ks.length = m) (hi : os[i]? = some (.row 39 2 v m (ptVs ks))) (p : Pt) (hn : m ≤ 1000) :
    ∃ a c w', (Builtin.append_ #[22, 22] 22 #[v, .slice (some ⟨w.heap.size, 0, none⟩) 1 1]).run Try.prog (w.alloc (.cells #[.int .i64 p.1, .int .i64 p.2] 39)) = .ok (.slice a (m + 1) c) w' ∧
      OMem w0 w' (os.set i (.row 39 2 (.slice a (m + 1) c) (m + 1) (ptVs (ks ++ [p])))) := by
  subst hk
  exact h.push1 hi p hn
end
section
variable {w : World}
set_option maxHeartbeats 4000000 in
set_option maxRecDepth 100000 in
theorem sums_walk (one two : Int) {K N : Nat} (seed again : Int) (hK : K ≤ 255) (hN : N ≤ 255) :
    Calls Try.prog 5 #[.int .i64 one, .int .i64 two, .int .u8 (K : Int), .int .u8 (N : Int), .int .i64 seed, .int .i64 again] w fun e w' => e = .returned (.bool true) ∧ Below w.heap.size w w' := by
  have hno := need_ok K N
  have har := mod_in one
  have hbr := mod_in two
  have HNum := Lib.hid (fun w => numbers_any (w := w) one K N hK hN)
  have HMod := Lib.hid (fun w => g_mod (w := w) two)
  obtain ⟨a, ha⟩ : ∃ a, a = one % P := ⟨_, rfl⟩
  obtain ⟨b, hb⟩ : ∃ b, b = two % P := ⟨_, rfl⟩
  rw [← ha] at HNum har
  rw [← hb] at HMod hbr
  obtain ⟨k, hk⟩ : ∃ k, k = need K N := ⟨_, rfl⟩
  obtain ⟨n, hn⟩ : ∃ n, n = many N := ⟨_, rfl⟩
  have HS := fun w => g_split (w := w) a (need K N : Int) (many N : Int) seed
  have HT := fun w => g_split (w := w) b (need K N : Int) (many N : Int) again
  rw [split_num a seed K N har, sp_row] at HS
  rw [split_num b again K N hbr, sp_row] at HT
  rw [← hk, ← hn] at HS HT HNum hno
  have HJ1 := sum_join a b seed again hno.1 hno.2.1 hno.2.2
  have HJ2 := more_join a b seed hno.1 hno.2.1 hno.2.2
  have hfr : ∀ j : Nat, 0 ≤ ev (cf a seed k) ((j : Int) + 1) % P ∧ ev (cf a seed k) ((j : Int) + 1) % P < P := fun j => mod_in _
  have hgr : ∀ j : Nat, 0 ≤ ev (cf b again k) ((j : Int) + 1) % P ∧ ev (cf b again k) ((j : Int) + 1) % P < P := fun j => mod_in _
  obtain ⟨f, hf⟩ : ∃ f : Nat → Int, f = fun (j : Nat) => ev (cf a seed k) ((j : Int) + 1) % P := ⟨_, rfl⟩
  obtain ⟨g, hg⟩ : ∃ g : Nat → Int, g = fun (j : Nat) => ev (cf b again k) ((j : Int) + 1) % P := ⟨_, rfl⟩
  have ef : ∀ j : Nat, ev (cf a seed k) ((j : Int) + 1) % P = f j := fun j => by rw [hf]
  have eg : ∀ j : Nat, ev (cf b again k) ((j : Int) + 1) % P = g j := fun j => by rw [hg]
  simp only [ef, eg] at HS HT HJ1 HJ2 hfr hgr
  have HS := Lib.hid HS
  have HT := Lib.hid HT
  have HJ1 := Lib.hid HJ1
  have HJ2 := Lib.hid HJ2
  have HFR := Lib.hid hfr
  have HGR := Lib.hid hgr
  have HAB := Lib.hid (fun w => g_mod (w := w) (a + b))
  clear ha hb hk hn hf hg ef eg hfr hgr
  go_enter Try.func5, Try.ntmps5
  go_wp2_with (go_at_call 7; refine (small_any _).mono ?_; rintro e w1 ⟨rfl, m1⟩; refine Hid.out ?_)
  refine Lib.hid ?_
  have M1 := Lib.hid m1
  clear m1
  go_wp2_with (go_at_call 15; refine (HNum.out _).mono ?_; rintro e w2 ⟨rfl, m2⟩; refine Hid.out ?_)
  refine Lib.hid ?_
  have M2 := Lib.hid (M1.out.trans (m2.mono M1.out.size))
  clear m2 M1
  go_wp2_with (go_at_call 16; refine (HMod.out _).mono ?_; rintro e w3 ⟨rfl, rfl⟩; refine Hid.out ?_)
  refine Lib.hid ?_
  go_wp2_with (go_at_call 8; refine (HS.out _).mono ?_; rintro e w4 ⟨v4, rfl, hv4, m4⟩; refine Hid.out ?_)
  refine Lib.hid ?_
  have M4 := Lib.hid (M2.out.trans (m4.mono M2.out.size))
  have HV4 := Lib.hid hv4
  clear hv4 m4 M2
  go_wp2_with (go_at_call 8; refine (HT.out _).mono ?_; rintro e w5 ⟨v5, rfl, hv5, m5⟩; refine Hid.out ?_)
  refine Lib.hid ?_
  have M5 := Lib.hid (M4.out.trans (m5.mono M4.out.size))
  have HV4 := Lib.hid (HV4.out.keep m5)
  have HV5 := Lib.hid hv5
  obtain ⟨b4, o4, c4, h4, q4, _⟩ := HV4.out.form (by rw [row_len]; omega)
  rw [row_len] at h4
  subst h4
  obtain ⟨b5, o5, c5, h5, q5, _⟩ := hv5.form (by rw [row_len]; omega)
  rw [row_len] at h5
  subst h5
  clear hv5 m5 M4 q4 q5
  go_wp2
  go_loopw [22, 23, 24] (fun x y i wr => ∃ (m : Nat), m ≤ n ∧ i = .int .i64 (m : Int) ∧ OMem w5 wr [.row 39 2 x m (ptVs ((row n fun j => (f j + g j) % P).take m)), .row 39 2 y m (ptVs ((row n fun j => (f j + b) % P).take m))]) (fun _ _ i _ => n - (intOf i).toNat)
  case atStart => exact ⟨0, Nat.zero_le _, rfl, ((OMem.start w5).rowNil _ _).rowNil _ _⟩
  case round =>
    obtain ⟨m, hm, rfl, M⟩ := hrel
    by_cases hlt : m < n
    · obtain ⟨xa, xc, rfl⟩ := own_form (M.rowAt (i := 0) rfl)
      obtain ⟨ya, yc, rfl⟩ := own_form (M.rowAt (i := 1) rfl)
      have hc4 := fun w' (hb : Below w5.heap.size w5 w') => (HV4.out.keep hb).at_ (row_get (y := f) hlt)
      have hc5 := fun w' (hb : Below w5.heap.size w5 w') => (HV5.out.keep hb).at_ (row_get (y := g) hlt)
      have hfr := HFR.out m
      have hgr := HGR.out m
      have H4 := Lib.hid hc4
      have S0 := And.intro (hc4 _ M.drew.below).2 (hc5 _ M.drew.below).2
      obtain ⟨d0, d1⟩ := hc4 _ M.below
      obtain ⟨d2, d3⟩ := hc5 _ M.below
      have HX := Lib.hid (fun w => g_mod (w := w) (f m + g m))
      have HY := Lib.hid (fun w => g_mod (w := w) (f m + b))
      obtain ⟨za, zc, w6, r6, m6⟩ := M.drew.push2 (i := 0) (row_take_len hm) rfl ((m : Int) + 1, (f m + g m) % P) (by omega)
      rw [← row_snoc (h := fun j => (f j + g j) % P) hlt] at m6
      have M6 := Lib.hid (show OMem w5 w6 [.row 39 2 (.slice za (m + 1) zc) (m + 1) (ptVs ((row n fun j => (f j + g j) % P).take (m + 1))), .row 39 2 (.slice ya m yc) m (ptVs ((row n fun j => (f j + b) % P).take m))] from m6)
      have R6 := Lib.hid r6
      have hw1 : IntKind.i64.wrap ((m : Int) + 1) = (m : Int) + 1 := by rw [IntKind.wrap_i64]; omega
      have hw2 : IntKind.i64.wrap (f m + g m) = f m + g m := by rw [IntKind.wrap_i64]; have := P_eq; omega
      clear hc4 hc5 M r6 m6
      go_wp2
      refine region_till 14 (fun wx => wx.cell? ⟨b4, o4 + m * 2 + 1, none⟩ = some (.int .i64 (f m)) ∧ wx.cell? ⟨b5, o5 + m * 2 + 1, none⟩ = some (.int .i64 (g m))) (by kernel_rfl) ?_
      refine till_take 0 40 false (v := ?v0) (by kernel_rfl) (by kernel_rfl) (by kernel_rfl) (by kernel_rfl) (by kernel_rfl) (fun _ _ _ h => h) ?hw0 S0 ?hy0 ?rest0
      case hw0 => (simp only [List.getElem?_toArray, List.getElem?_cons_zero, Option.elim]; rfl)
      case hy0 => (simp only [List.getElem?_toArray, List.getElem?_cons_zero, Option.elim]; intro wx _; go_simp; with_reducible rfl)
      simp only [dstOf, List.getElem?_toArray, List.getElem?_cons_zero, Option.bind, Act.put, List.setIfInBounds_toArray, List.set_cons_zero, List.set_cons_succ]
      refine till_take 1 40 false (v := ?v1) (by kernel_rfl) (by kernel_rfl) (by kernel_rfl) (by kernel_rfl) (by kernel_rfl) (fun _ _ _ h => h) ?hw1 S0 ?hy1 ?rest1
      case hw1 => (simp only [List.getElem?_toArray, List.getElem?_cons_zero, List.getElem?_cons_succ, Option.elim]; rfl)
      case hy1 => (simp only [List.getElem?_toArray, List.getElem?_cons_zero, List.getElem?_cons_succ, Option.elim]; intro wx _; go_simp; with_reducible rfl)
      simp only [dstOf, List.getElem?_toArray, List.getElem?_cons_zero, List.getElem?_cons_succ, Option.bind, Act.put, List.setIfInBounds_toArray, List.set_cons_zero, List.set_cons_succ]
      refine till_take 2 40 false (v := ?v2) (by kernel_rfl) (by kernel_rfl) (by kernel_rfl) (by kernel_rfl) (by kernel_rfl) (fun _ _ _ h => h) ?hw2 S0 ?hy2 ?rest2
      case hw2 => (simp only [List.getElem?_toArray, List.getElem?_cons_zero, List.getElem?_cons_succ, Option.elim]; rfl)
      case hy2 => (simp only [List.getElem?_toArray, List.getElem?_cons_zero, List.getElem?_cons_succ, Option.elim]; intro wx _; go_simp; with_reducible rfl)
      simp only [dstOf, List.getElem?_toArray, List.getElem?_cons_zero, List.getElem?_cons_succ, Option.bind, Act.put, List.setIfInBounds_toArray, List.set_cons_zero, List.set_cons_succ]
      refine till_take 3 40 false (v := ?v3) (by kernel_rfl) (by kernel_rfl) (by kernel_rfl) (by kernel_rfl) (by kernel_rfl) (fun _ _ _ h => h) ?hw3 S0 ?hy3 ?rest3
      case hw3 => (simp only [List.getElem?_toArray, List.getElem?_cons_zero, List.getElem?_cons_succ, Option.elim]; rfl)
      case hy3 => (simp only [List.getElem?_toArray, List.getElem?_cons_zero, List.getElem?_cons_succ, Option.elim]; intro wx _; go_simp; with_reducible rfl)
      simp only [dstOf, List.getElem?_toArray, List.getElem?_cons_zero, List.getElem?_cons_succ, Option.bind, Act.put, List.setIfInBounds_toArray, List.set_cons_zero, List.set_cons_succ]
      refine till_take 4 40 false (v := ?v4) (by kernel_rfl) (by kernel_rfl) (by kernel_rfl) (by kernel_rfl) (by kernel_rfl) (fun _ _ _ h => h) ?hw4 S0 ?hy4 ?rest4
      case hw4 => (simp only [List.getElem?_toArray, List.getElem?_cons_zero, List.getElem?_cons_succ, Option.elim]; rfl)
      case hy4 => (simp only [List.getElem?_toArray, List.getElem?_cons_zero, List.getElem?_cons_succ, Option.elim]; intro wx _; go_simp; with_reducible rfl)
      simp only [dstOf, List.getElem?_toArray, List.getElem?_cons_zero, List.getElem?_cons_succ, Option.bind, Act.put, List.setIfInBounds_toArray, List.set_cons_zero, List.set_cons_succ]
      refine till_take 5 40 false (v := ?v5) (by kernel_rfl) (by kernel_rfl) (by kernel_rfl) (by kernel_rfl) (by kernel_rfl) (fun _ _ _ h => h) ?hw5 S0 ?hy5 ?rest5
      case hw5 => (simp only [List.getElem?_toArray, List.getElem?_cons_zero, List.getElem?_cons_succ, Option.elim]; rfl)
      case hy5 => (simp only [List.getElem?_toArray, List.getElem?_cons_zero, List.getElem?_cons_succ, Option.elim]; intro wx _; go_simp; with_reducible rfl)
      simp only [dstOf, List.getElem?_toArray, List.getElem?_cons_zero, List.getElem?_cons_succ, Option.bind, Act.put, List.setIfInBounds_toArray, List.set_cons_zero, List.set_cons_succ]
      refine till_take 6 40 false (v := ?v6) (by kernel_rfl) (by kernel_rfl) (by kernel_rfl) (by kernel_rfl) (by kernel_rfl) (fun _ _ _ h => h) ?hw6 S0 ?hy6 ?rest6
      case hw6 => (simp only [List.getElem?_toArray, List.getElem?_cons_zero, List.getElem?_cons_succ, Option.elim]; rfl)
      case hy6 => (simp only [List.getElem?_toArray, List.getElem?_cons_zero, List.getElem?_cons_succ, Option.elim]; intro wx _; go_simp; with_reducible rfl)
      simp only [dstOf, List.getElem?_toArray, List.getElem?_cons_zero, List.getElem?_cons_succ, Option.bind, Act.put, List.setIfInBounds_toArray, List.set_cons_zero, List.set_cons_succ]
      refine till_take 7 40 true (v := ?v7) (by kernel_rfl) (by kernel_rfl) (by kernel_rfl) (by kernel_rfl) (by kernel_rfl) (fun _ _ _ h => h) ?hw7 S0 ?hy7 ?rest7
      case hw7 => (simp only [List.getElem?_toArray, List.getElem?_cons_zero, List.getElem?_cons_succ, Option.elim]; rfl)
      case hy7 => (simp only [List.getElem?_toArray, List.getElem?_cons_zero, List.getElem?_cons_succ, Option.elim]; intro wx hx; have x0 := (hx trivial).1; have x1 := (hx trivial).2; go_simp; with_reducible rfl)
      simp only [dstOf, List.getElem?_toArray, List.getElem?_cons_zero, List.getElem?_cons_succ, Option.bind, Act.put, List.setIfInBounds_toArray, List.set_cons_zero, List.set_cons_succ]
      refine till_take 8 40 false (v := ?v8) (by kernel_rfl) (by kernel_rfl) (by kernel_rfl) (by kernel_rfl) (by kernel_rfl) (fun _ _ _ h => h) ?hw8 S0 ?hy8 ?rest8
      case hw8 => (simp only [List.getElem?_toArray, List.getElem?_cons_zero, List.getElem?_cons_succ, Option.elim]; rfl)
      case hy8 => (simp only [List.getElem?_toArray, List.getElem?_cons_zero, List.getElem?_cons_succ, Option.elim]; intro wx _; go_simp; with_reducible rfl)
      simp only [dstOf, List.getElem?_toArray, List.getElem?_cons_zero, List.getElem?_cons_succ, Option.bind, Act.put, List.setIfInBounds_toArray, List.set_cons_zero, List.set_cons_succ]
      refine till_take 9 40 false (v := ?v9) (by kernel_rfl) (by kernel_rfl) (by kernel_rfl) (by kernel_rfl) (by kernel_rfl) (fun _ _ _ h => h) ?hw9 S0 ?hy9 ?rest9
      case hw9 => (simp only [List.getElem?_toArray, List.getElem?_cons_zero, List.getElem?_cons_succ, Option.elim]; rfl)
      case hy9 => (simp only [List.getElem?_toArray, List.getElem?_cons_zero, List.getElem?_cons_succ, Option.elim]; intro wx _; go_simp; with_reducible rfl)
      simp only [dstOf, List.getElem?_toArray, List.getElem?_cons_zero, List.getElem?_cons_succ, Option.bind, Act.put, List.setIfInBounds_toArray, List.set_cons_zero, List.set_cons_succ]
      refine till_take 10 40 false (v := ?v10) (by kernel_rfl) (by kernel_rfl) (by kernel_rfl) (by kernel_rfl) (by kernel_rfl) (fun _ _ _ h => h) ?hw10 S0 ?hy10 ?rest10
      case hw10 => (simp only [List.getElem?_toArray, List.getElem?_cons_zero, List.getElem?_cons_succ, Option.elim]; rfl)
      case hy10 => (simp only [List.getElem?_toArray, List.getElem?_cons_zero, List.getElem?_cons_succ, Option.elim]; intro wx _; go_simp; with_reducible rfl)
      simp only [dstOf, List.getElem?_toArray, List.getElem?_cons_zero, List.getElem?_cons_succ, Option.bind, Act.put, List.setIfInBounds_toArray, List.set_cons_zero, List.set_cons_succ]
      refine till_take 11 40 false (v := ?v11) (by kernel_rfl) (by kernel_rfl) (by kernel_rfl) (by kernel_rfl) (by kernel_rfl) (fun _ _ _ h => h) ?hw11 S0 ?hy11 ?rest11
      case hw11 => (simp only [List.getElem?_toArray, List.getElem?_cons_zero, List.getElem?_cons_succ, Option.elim]; rfl)
      case hy11 => (simp only [List.getElem?_toArray, List.getElem?_cons_zero, List.getElem?_cons_succ, Option.elim]; intro wx _; go_simp; with_reducible rfl)
      simp only [dstOf, List.getElem?_toArray, List.getElem?_cons_zero, List.getElem?_cons_succ, Option.bind, Act.put, List.setIfInBounds_toArray, List.set_cons_zero, List.set_cons_succ]
      refine till_take 12 40 true (v := ?v12) (by kernel_rfl) (by kernel_rfl) (by kernel_rfl) (by kernel_rfl) (by kernel_rfl) (fun _ _ _ h => h) ?hw12 S0 ?hy12 ?rest12
      case hw12 => (simp only [List.getElem?_toArray, List.getElem?_cons_zero, List.getElem?_cons_succ, Option.elim]; rfl)
      case hy12 => (simp only [List.getElem?_toArray, List.getElem?_cons_zero, List.getElem?_cons_succ, Option.elim]; intro wx hx; have x0 := (hx trivial).1; have x1 := (hx trivial).2; go_simp; with_reducible rfl)
      simp only [dstOf, List.getElem?_toArray, List.getElem?_cons_zero, List.getElem?_cons_succ, Option.bind, Act.put, List.setIfInBounds_toArray, List.set_cons_zero, List.set_cons_succ]
      refine till_take 13 40 false (v := ?v13) (by kernel_rfl) (by kernel_rfl) (by kernel_rfl) (by kernel_rfl) (by kernel_rfl) (fun _ _ _ h => h) ?hw13 S0 ?hy13 ?rest13
      case hw13 => (simp only [List.getElem?_toArray, List.getElem?_cons_zero, List.getElem?_cons_succ, Option.elim]; rfl)
      case hy13 => (simp only [List.getElem?_toArray, List.getElem?_cons_zero, List.getElem?_cons_succ, Option.elim]; intro wx _; go_simp; with_reducible rfl)
      simp only [dstOf, List.getElem?_toArray, List.getElem?_cons_zero, List.getElem?_cons_succ, Option.bind, Act.put, List.setIfInBounds_toArray, List.set_cons_zero, List.set_cons_succ]
      refine till_step 14 (by kernel_rfl) (by kernel_rfl) (fun K hK => ?_)
      simp only [List.getElem?_toArray, List.getElem?_cons_zero, List.getElem?_cons_succ, Option.elim]
      rw [if_pos (by rfl)]
      go_simp
      go_at_call 16
      refine (HX.out _).mono ?_
      rintro e w7 ⟨rfl, rfl⟩
      refine hK.out _ _ ?_
      clear hK K
      try simp only [Act.put, List.setIfInBounds_toArray, List.set_cons_zero, List.set_cons_succ]
      refine till_late 15 (v := ?v15) (by kernel_rfl) (by kernel_rfl) (by kernel_rfl) (by kernel_rfl) (fun _ _ _ h => h) (by kernel_rfl) ?hw15 ?hy15 ?rest15
      case hw15 => (simp only [List.getElem?_toArray, List.getElem?_cons_zero, List.getElem?_cons_succ, Option.elim]; rfl)
      case hy15 => (simp only [List.getElem?_toArray, List.getElem?_cons_zero, List.getElem?_cons_succ, Option.elim]; intro wx; go_simp; with_reducible rfl)
      simp only [dstOf, List.getElem?_toArray, List.getElem?_cons_zero, List.getElem?_cons_succ, Option.bind, Act.put, List.setIfInBounds_toArray, List.set_cons_zero, List.set_cons_succ]
      refine till_step 16 (by kernel_rfl) (by kernel_rfl) (fun K hK => ?_)
      simp only [List.getElem?_toArray, List.getElem?_cons_zero, List.getElem?_cons_succ, Option.elim]
      rw [if_pos (by rfl)]
      go_simp
      refine hK.out _ _ ?_
      clear hK K
      try simp only [Act.put, List.setIfInBounds_toArray, List.set_cons_zero, List.set_cons_succ]
      refine till_step 17 (by kernel_rfl) (by kernel_rfl) (fun K hK => ?_)
      simp only [List.getElem?_toArray, List.getElem?_cons_zero, List.getElem?_cons_succ, Option.elim]
      rw [if_pos (by rfl)]
      refine Lib.wp_append_run _ (.tmp 97) (.tmp 113) 22 22 rfl _ _ rfl rfl _ _ R6.out ?_
      refine hK.out _ _ ?_
      clear hK K
      try simp only [Act.put, List.setIfInBounds_toArray, List.set_cons_zero, List.set_cons_succ]
      refine till_late 18 (v := ?v18) (by kernel_rfl) (by kernel_rfl) (by kernel_rfl) (by kernel_rfl) (fun _ _ _ h => h) (by kernel_rfl) ?hw18 ?hy18 ?rest18
      case hw18 => (simp only [List.getElem?_toArray, List.getElem?_cons_zero, List.getElem?_cons_succ, Option.elim]; rfl)
      case hy18 => (simp only [List.getElem?_toArray, List.getElem?_cons_zero, List.getElem?_cons_succ, Option.elim]; intro wx; go_simp; with_reducible rfl)
      simp only [dstOf, List.getElem?_toArray, List.getElem?_cons_zero, List.getElem?_cons_succ, Option.bind, Act.put, List.setIfInBounds_toArray, List.set_cons_zero, List.set_cons_succ]
      refine till_end (by kernel_rfl) ?_ _
      have H4b := H4.out _ M6.out.below
      obtain ⟨e0, e1⟩ := H4b
      obtain ⟨ua, uc, w8, r8, m8⟩ := M6.out.push2 (i := 1) (row_take_len hm) rfl ((m : Int) + 1, (f m + b) % P) (by omega)
      rw [← row_snoc (h := fun j => (f j + b) % P) hlt] at m8
      have M9 := Lib.hid (show OMem w5 w8 [.row 39 2 (.slice za (m + 1) zc) (m + 1) (ptVs ((row n fun j => (f j + g j) % P).take (m + 1))), .row 39 2 (.slice ua (m + 1) uc) (m + 1) (ptVs ((row n fun j => (f j + b) % P).take (m + 1)))] from m8)
      have R8 := Lib.hid r8
      have hab1 : f m < 2147483647 := by have := P_eq; omega
      have hab2 : b < 2147483647 := by have := P_eq; omega
      clear hw1 hw2 d0 d1 d2 d3 S0 r8 m8 R6 HX
      go_wp2_with (go_at_call 16; refine (HY.out _).mono ?_; rintro e w9 ⟨rfl, rfl⟩; refine Hid.out ?_)
      refine Lib.hid ?_
      go_wp2_with (at_builtin; refine Hid.out ?_)
      refine Lib.hid ?_
      refine Lib.wpList_append_run _ rfl _ _ _ _ rfl _ _ rfl rfl _ _ R8.out ?_
      go_wp2
      go_roundw
      case rel => exact ⟨m + 1, by omega, by go_num, M9.out⟩
      case measure => simp [intOf]; omega
    · obtain rfl : n = m := by omega
      have hz1 : (row n fun j => (f j + g j) % P).take n = row n fun j => (f j + g j) % P := List.take_of_length_le (by rw [row_len]; exact Nat.le_refl _)
      have hz2 : (row n fun j => (f j + b) % P).take n = row n fun j => (f j + b) % P := List.take_of_length_le (by rw [row_len]; exact Nat.le_refl _)
      rw [hz1, hz2] at M
      have s1 := SharesAt.of_own (M.rowAt (i := 0) rfl)
      have s2 := SharesAt.of_own (M.rowAt (i := 1) rfl)
      have MB := Lib.hid M.below
      have HJ := g_join (k := (k : Int)) s1 (by rw [row_len]; omega)
      rw [HJ1.out] at HJ
      have HJ := Lib.hid HJ
      have HL := fun w' (hb : Below wr.heap.size wr w') => g_join (k := (k : Int)) (s2.keep hb) (by rw [row_len]; omega)
      rw [HJ2.out] at HL
      have HL := Lib.hid HL
      obtain ⟨xa, xc, rfl⟩ := own_form (M.rowAt (i := 0) rfl)
      obtain ⟨ya, yc, rfl⟩ := own_form (M.rowAt (i := 1) rfl)
      clear hz1 hz2 s1 s2 M
      have hab1 : a < 2147483647 := by have := P_eq; omega
      have hab2 : b < 2147483647 := by have := P_eq; omega
      go_wp2_with (go_at_call 10; refine (HJ.out).mono ?_; rintro e w6 ⟨rfl, m6⟩; refine Hid.out ?_)
      refine Lib.hid ?_
      have M6 := Lib.hid m6
      clear m6
      go_wp2_with (go_at_call 10; refine (HL.out _ M6.out).mono ?_; rintro e w7 ⟨rfl, m7⟩; refine Hid.out ?_)
      refine Lib.hid ?_
      have M7 := Lib.hid (M6.out.trans (m7.mono M6.out.size))
      have M8 := Lib.hid (M5.out.trans ((MB.out.trans (M7.out.mono MB.out.size)).mono M5.out.size))
      clear m7 M6
      go_wp2_with (go_at_call 16; refine (HAB.out _).mono ?_; rintro e w8 ⟨rfl, rfl⟩; refine Hid.out ?_)
      refine Lib.hid ?_
      go_wp2_with (go_at_call 16; refine (HAB.out _).mono ?_; rintro e w8 ⟨rfl, rfl⟩; refine Hid.out ?_)
      refine Lib.hid ?_
      go_wp2
      go_ret
      exact ⟨rfl, M8.out⟩
end
end Go.Proofs.Ytemokedoeneibaa
